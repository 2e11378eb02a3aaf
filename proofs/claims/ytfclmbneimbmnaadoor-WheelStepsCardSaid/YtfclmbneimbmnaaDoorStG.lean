/- The merge where the left side is one. -/
import Derived.Test.YtfclmbneimbmnaaDoorStF
namespace Go.Proofs.YtfclmbneimbmnaaDoor
open Go.RowKit Go.Lib Go.Sort Go.Shelf

theorem half_nat (i j : Nat) (h : i + j < 9223372036854775808) : IntKind.i64.wrap ((i : Int) + (j : Int)) = ((i + j : Nat) : Int) := by rw [IntKind.wrap_i64]; omega

set_option maxHeartbeats 4000000 in
set_option maxRecDepth 1000000 in
theorem symOneP {P : Program} {k : Nat} (H : Hat P k) (blk off cap a b : Nat) (d0 d : Array (Th × Nat)) (w0 w : World) (R : RKk k w0 blk off d0) (hs : d0.size = d.size) (S : SWk k w0 blk off d w)
    (hmb : a + 1 < b) (hb : b ≤ d.size) (hsz : d.size < 4611686018427387904) (hM : Mergeable ltT a (a + 1) b d) :
    Calls P 129 #[.slice (some ⟨blk, off, none⟩) d.size cap, .int .i64 a, .int .i64 ((a + 1 : Nat) : Int), .int .i64 b, .func (.func 68) #[] #[]] w fun e w' =>
      e = .returned (.tuple #[]) ∧ ∃ X, SWk k w0 blk off X w' ∧ Merged ltT a b d X := by
  have S0 : Aside (SWk k w0 blk off d w) := S
  clear S
  have HM : Hid (Mergeable ltT a (a + 1) b d) := hM
  clear hM
  have HC : Hid (∀ w blk off size, CmpLays P 68 #[] enG k cmpG blk off size w) := H.cmp
  obtain ⟨mixed, t0, a0, z0, v0, t3, a3, z3, v3, t4, a4, z4, v4, t22, a22, z22, v22, t97, a97, z97, v97, t125, a125, z125, v125, aE, zE, e43, cmp, f76, f77, f79, f80, f68⟩ := H
  clear f76 f79 f80 f68 cmp
  go_enter f77, Tryd.ntmps129
  clear f77
  obtain ⟨m, hm⟩ : ∃ m, a + 1 = m := ⟨_, rfl⟩
  rw [hm] at HM hmb ⊢
  have w1 : IntKind.i64.wrap ((m : Int) - (a : Int)) = 1 := by rw [IntKind.wrap_i64]; omega
  go_wp2
  go_loopg [10, 11] (b - m) (fun kx s10 s11 wr => ∃ (i j : Nat), s10 = .int .i64 i ∧ s11 = .int .i64 j ∧ j - i ≤ kx ∧ Aside (SWk k w0 blk off d wr) ∧ Hid (Srch1 ltT a m b i j d))
  case atStart => exact ⟨m, b, rfl, rfl, by omega, S0, Srch1.start a m b d (by omega)⟩
  case round =>
    clear S0
    obtain ⟨i, j, rfl, rfl, hkx, S1, HS⟩ := hrel
    have g1 := HS.out.h1
    have g2 := HS.out.h2
    have g3 := HS.out.h3
    by_cases hlt : i < j
    · have hltz : (i : Int) < (j : Int) := by omega
      obtain ⟨h, hh⟩ : ∃ h, (i + j) / 2 = h := ⟨_, rfl⟩
      have q1 : IntKind.i64.wrap ((i : Int) + (j : Int)) = ((i : Int) + (j : Int)) := by rw [IntKind.wrap_i64]; omega
      have hz : ((i : Int) + (j : Int)) / 2 = (h : Int) := by omega
      go_wp2_with fail
      have e1 : ((h : Nat) : Int).toNat = h := by omega
      have p1 : (0 : Int) ≤ ((h : Nat) : Int) := by omega
      have b1 : ((h : Nat) : Int) < (d.size : Int) := by omega
      have r1 : IntKind.i64.wrap ((h : Nat) : Int) = ((h : Nat) : Int) := by rw [IntKind.wrap_i64]; omega
      have e2 : ((a : Nat) : Int).toNat = a := by omega
      have p2 : (0 : Int) ≤ ((a : Nat) : Int) := by omega
      have b2 : ((a : Nat) : Int) < (d.size : Int) := by omega
      have r2 : IntKind.i64.wrap ((a : Nat) : Int) = ((a : Nat) : Int) := by rw [IntKind.wrap_i64]; omega
      have lj := fun n' os' => S1.out.ld R (by omega) P h (by omega) n' os'
      have lp := fun n' os' => S1.out.ld R (by omega) P a (by omega) n' os'
      have hcg := fun n' os' => S1.out.cmp (HC.out w0 blk off d0.size) (by omega) d[h]! d[a]! n' os'
      have S2 : Hid (∀ n' os', SWk k w0 blk off d (grow (wr.drewN n') os')) := fun n' os' => S1.out.grown n' os'
      have hct := cmpT_neg (d[h]!).1 (d[a]!).1
      have HCT : Hid (decide (cmpG d[h]! d[a]! < 0) = ltT (d[h]!).1 (d[a]!).1) := hct
      clear hct
      generalize cmpG d[h]! d[a]! = cv at hcg HCT
      generalize enG d[h]! = cx at lj hcg
      generalize enG d[a]! = cy at lp hcg
      have hlx : Hid (lexB ltT d[h]! d[a]! = decide (cv < 0)) := by rw [HCT.out]; exact HM.out.test (Nat.le_refl _) (by omega) (by omega) (by omega)
      clear HCT S1
      by_cases hlv : cv < 0
      · go_quiet_grown (first | (go_at_fn 68; refine Calls.grown_of (hcg _ _)))
        clear lj lp hcg
        go_wp2
        go_roundg (j - (h + 1))
        case measure => omega
        case rel => exact ⟨h + 1, j, by go_num, rfl, Nat.le_refl _, S2.out _ _, HS.out.yes ltT_swo HM.out (by omega) (by omega) (by rw [hlx.out]; exact decide_eq_true hlv)⟩
      · go_quiet_grown (first | (go_at_fn 68; refine Calls.grown_of (hcg _ _)))
        clear lj lp hcg
        go_wp2
        go_roundg (h - i)
        case measure => omega
        case rel => exact ⟨i, h, rfl, rfl, Nat.le_refl _, S2.out _ _, HS.out.no ltT_swo HM.out (by omega) (by omega) (by rw [hlx.out]; exact decide_eq_false (by omega))⟩
    · have hltz : ¬ (i : Int) < (j : Int) := by omega
      obtain rfl : i = j := by omega
      go_wp2
      have wi1 : IntKind.i64.wrap ((i : Int) - 1) = (i : Int) - 1 := by rw [IntKind.wrap_i64]; omega
      go_loopg [13] (i - 1 - a) (fun kx s13 wr => ∃ (q : Nat) (dk : Array (Th × Nat)), s13 = .int .i64 q ∧ a ≤ q ∧ q ≤ i - 1 ∧ i - 1 - q ≤ kx ∧ Aside (SWk k w0 blk off dk wr) ∧ Hid (ShUp a b q d dk))
      case atStart => exact ⟨a, d, rfl, Nat.le_refl _, by omega, Nat.le_refl _, S1, ShUp.start a b d⟩
      case round =>
        clear S1
        obtain ⟨q, dk, rfl, haq, hqi, hkx2, S3, HU⟩ := hrel
        have hds : dk.size = d.size := HU.out.perm.1
        by_cases hlt2 : q < i - 1
        · have hltz2 : (q : Int) < (i : Int) - 1 := by omega
          obtain ⟨q1, hq1⟩ : ∃ q1, q + 1 = q1 := ⟨_, rfl⟩
          have wq1 : IntKind.i64.wrap ((q : Int) + 1) = (q1 : Int) := by rw [IntKind.wrap_i64]; omega
          go_wp2_with fail
          have e1 : ((q : Nat) : Int).toNat = q := by omega
          have p1 : (0 : Int) ≤ ((q : Nat) : Int) := by omega
          have b1 : ((q : Nat) : Int) < (d.size : Int) := by omega
          have r1 : IntKind.i64.wrap ((q : Nat) : Int) = ((q : Nat) : Int) := by rw [IntKind.wrap_i64]; omega
          have e2 : ((q1 : Nat) : Int).toNat = q1 := by omega
          have p2 : (0 : Int) ≤ ((q1 : Nat) : Int) := by omega
          have b2 : ((q1 : Nat) : Int) < (d.size : Int) := by omega
          have r2 : IntKind.i64.wrap ((q1 : Nat) : Int) = ((q1 : Nat) : Int) := by rw [IntKind.wrap_i64]; omega
          have S2 : Aside (SWk k w0 blk off (swp dk q q1) ((wr.drew.setCells blk (off + q * k) (enG dk[q1]!)).setCells blk (off + q1 * k) (enG dk[q]!))) := S3.out.swapped R q q1 (by omega) (by omega)
          have l44a := S3.out.ld1 R (by omega) P q (by omega)
          have l44b := S3.out.ld1 R (by omega) P q1 (by omega)
          have s44a := S3.out.st1 R (by omega) P q (by omega) dk[q1]!
          have s44b := S3.out.st2 R (by omega) P q q1 (by omega) (by omega) dk[q1]! dk[q]!
          have n44a : (enG dk[q]!).length = k := R.hk _
          have n44b : (enG dk[q1]!).length = k := R.hk _
          have HX : Hid (ShUp a b (q + 1) d (swp dk q q1)) := by rw [← hq1]; exact (HU.out.step (by omega) (by omega) hb)
          generalize enG dk[q]! = cI44 at S2 l44a s44b n44a
          generalize enG dk[q1]! = cJ44 at S2 l44b s44a s44b n44b
          generalize hdx : swp dk q q1 = dx at S2 HX
          clear S3 hdx
          go_big_region_o
          clear l44a l44b s44a s44b
          generalize (wr.drew.setCells blk (off + q * k) cJ44).setCells blk (off + q1 * k) cI44 = w2 at S2 ⊢
          go_wp2
          go_roundg (i - 1 - (q + 1))
          case measure => omega
          case rel => exact ⟨q + 1, dx, by go_num, by omega, by omega, Nat.le_refl _, S2, HX⟩
        · have hltz2 : ¬ (q : Int) < (i : Int) - 1 := by omega
          obtain rfl : q = i - 1 := by omega
          go_wp2
          refine bodyPost_ret (results_none rfl _ _ _) rfl ?_
          exact ⟨rfl, dk, S3.out, merged_one ltT_swo (by rw [hm]; exact HM.out) (by rw [hm]; exact HS.out) HU.out⟩
end Go.Proofs.YtfclmbneimbmnaaDoor

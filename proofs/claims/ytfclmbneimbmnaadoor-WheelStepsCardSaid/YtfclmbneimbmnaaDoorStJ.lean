/- The merge in place. -/
import Derived.Test.YtfclmbneimbmnaaDoorStI
import Derived.Deep.Cut
import Derived.Deep.CutRange
namespace Go.Proofs.YtfclmbneimbmnaaDoor
open Go.RowKit Go.Lib Go.Sort Go.Shelf

set_option maxHeartbeats 8000000 in
set_option maxRecDepth 1000000 in
theorem symMoreP {P : Program} {k : Nat} (H : Hat P k) (blk off cap a m b : Nat) (d0 d : Array (Th × Nat)) (w0 w : World) (R : RKk k w0 blk off d0) (hs : d0.size = d.size) (S : SWk k w0 blk off d w)
    (ham : a + 1 < m) (hmb : m + 1 < b) (hb : b ≤ d.size) (hsz : d.size < 4611686018427387904) (hM : Mergeable ltT a m b d)
    (ih : ∀ (a' m' b' : Nat) (d' : Array (Th × Nat)) (w' : World), b' - a' < b - a → d'.size = d.size → SWk k w0 blk off d' w' → a' < m' → m' < b' → b' ≤ d.size → Mergeable ltT a' m' b' d' →
      Calls P 129 #[.slice (some ⟨blk, off, none⟩) d.size cap, .int .i64 a', .int .i64 m', .int .i64 b', .func (.func 68) #[] #[]] w' fun e w' =>
        e = .returned (.tuple #[]) ∧ ∃ X, SWk k w0 blk off X w' ∧ Merged ltT a' b' d' X) :
    Calls P 129 #[.slice (some ⟨blk, off, none⟩) d.size cap, .int .i64 a, .int .i64 m, .int .i64 b, .func (.func 68) #[] #[]] w fun e w' =>
      e = .returned (.tuple #[]) ∧ ∃ X, SWk k w0 blk off X w' ∧ Merged ltT a b d X := by
  have S0 : Aside (SWk k w0 blk off d w) := S
  clear S
  have HM : Hid (Mergeable ltT a m b d) := hM
  clear hM
  have HI : Hid _ := ih
  clear ih
  have HRot : Hid (∀ (s e : Nat) (wr : World), SWk k w0 blk off d wr → s < m → m < e → e ≤ b → Calls P 134 #[.slice (some ⟨blk, off, none⟩) d.size cap, .int .i64 s, .int .i64 m, .int .i64 e, .func (.func 68) #[] #[]] wr fun e' w' =>
      e' = .returned (.tuple #[]) ∧ ∃ X, SWk k w0 blk off X w' ∧ Rotated s m e d X) := fun s e wr h1 h2 h3 h4 => rotateP H blk off cap s m e d0 d w0 wr R hs h1 h2 h3 (by omega) hsz
  have HC : Hid (∀ w blk off size, CmpLays P 68 #[] enG k cmpG blk off size w) := H.cmp
  obtain ⟨mixed, t0, a0, z0, v0, t3, a3, z3, v3, t4, a4, z4, v4, t22, a22, z22, v22, t97, a97, z97, v97, t125, a125, z125, v125, aE, zE, e43, cmp, f76, f77, f79, f80, f68⟩ := H
  have e77 : ∀ args w, (callFunc 129 args).run P w = .ok (.enter 129 args) w := enters_of f77 (by kernel_rfl) rfl
  have e79 : ∀ args w, (callFunc 134 args).run P w = .ok (.enter 134 args) w := enters_of f79 (by kernel_rfl) rfl
  clear f76 f79 f80 f68 cmp
  go_enter f77, Tryd.ntmps129
  clear f77
  obtain ⟨mid, hmid⟩ : ∃ mid, (a + b) / 2 = mid := ⟨_, rfl⟩
  have w1 : IntKind.i64.wrap ((m : Int) - (a : Int)) = (m : Int) - (a : Int) := by rw [IntKind.wrap_i64]; omega
  have n1 : ((m : Int) - (a : Int) == 1) = false := by simp; omega
  have n1' : ¬ (m : Int) - (a : Int) = 1 := by omega
  have w2 : IntKind.i64.wrap ((b : Int) - (m : Int)) = (b : Int) - (m : Int) := by rw [IntKind.wrap_i64]; omega
  have n2 : ((b : Int) - (m : Int) == 1) = false := by simp; omega
  have n2' : ¬ (b : Int) - (m : Int) = 1 := by omega
  have w3 : IntKind.i64.wrap ((a : Int) + (b : Int)) = (a : Int) + (b : Int) := by rw [IntKind.wrap_i64]; omega
  have hz0 : ((a : Int) + (b : Int)) / 2 = (mid : Int) := by omega
  obtain ⟨n, hn⟩ : ∃ n, mid + m = n := ⟨_, rfl⟩
  obtain ⟨pp, hpp⟩ : ∃ p, n - 1 = p := ⟨_, rfl⟩
  have w4 : IntKind.i64.wrap ((mid : Int) + (m : Int)) = (n : Int) := by rw [IntKind.wrap_i64]; omega
  have w4' : IntKind.i64.wrap ((n : Int) - 1) = (pp : Int) := by rw [IntKind.wrap_i64]; omega
  go_upto_if 140 with fail
  go_cut [20, 21] from 140 to 146 (fun s20 s21 wc => ∃ s0 r0 : Nat, s20 = .int .i64 s0 ∧ s21 = .int .i64 r0 ∧ Hid (Frame3 a m b mid s0 r0) ∧ Aside (SWk k w0 blk off d wc))
  case first =>
    by_cases hgt : mid < m
    · have hgtz : (mid : Int) < (m : Int) := by omega
      obtain ⟨st, hst⟩ : ∃ st, mid + m - b = st := ⟨_, rfl⟩
      have w5 : IntKind.i64.wrap ((n : Int) - (b : Int)) = (st : Int) := by rw [IntKind.wrap_i64]; omega
      go_wp2
      go_meet
      exact ⟨st, mid, rfl, rfl, ⟨by omega, by omega, by omega, by omega, Or.inl ⟨by omega, by omega, rfl⟩⟩, S0⟩
    · have hgtz : ¬ (mid : Int) < (m : Int) := by omega
      go_wp2
      go_meet
      exact ⟨a, m, rfl, rfl, ⟨by omega, by omega, by omega, by omega, Or.inr ⟨by omega, rfl, rfl⟩⟩, S0⟩
  case rest =>
    clear S0
    obtain ⟨s0, r0, rfl, rfl, HF, S0⟩ := hcut
    go_wp2_with fail
    go_loopg [20, 21] (r0 - s0) (fun kx s20 s21 wr => ∃ (i j : Nat), s20 = .int .i64 i ∧ s21 = .int .i64 j ∧ j - i ≤ kx ∧ Aside (SWk k w0 blk off d wr) ∧ Hid (Srch3 ltT (mid + m) s0 r0 i j d))
    case atStart => exact ⟨s0, r0, rfl, rfl, Nat.le_refl _, S0, Srch3.start HF.out d⟩
    case round =>
      clear S0
      obtain ⟨i, j, rfl, rfl, hkx, S1, HS⟩ := hrel
      have g1 := HS.out.h1
      have g2 := HS.out.h2
      have g3 := HS.out.h3
      obtain ⟨f1, f2, f3, f4, f5⟩ := HF.out
      by_cases hlt : i < j
      · have hltz : (i : Int) < (j : Int) := by omega
        obtain ⟨c, hc⟩ : ∃ c, (i + j) / 2 = c := ⟨_, rfl⟩
        have q1 : IntKind.i64.wrap ((i : Int) + (j : Int)) = ((i : Int) + (j : Int)) := by rw [IntKind.wrap_i64]; omega
        have hz : ((i : Int) + (j : Int)) / 2 = (c : Int) := by omega
        obtain ⟨y, hy⟩ : ∃ y, pp - c = y := ⟨_, rfl⟩
        have q2 : IntKind.i64.wrap ((pp : Int) - (c : Int)) = (y : Int) := by rw [IntKind.wrap_i64]; omega
        have hyb : m ≤ y ∧ y < b := by omega
        have hcb : a ≤ c ∧ c < m := by omega
        have hy' : mid + m - 1 - c = y := by omega
        clear f5
        go_wp2_with fail
        have e1 : ((y : Nat) : Int).toNat = y := by omega
        have p1 : (0 : Int) ≤ ((y : Nat) : Int) := by omega
        have b1 : ((y : Nat) : Int) < (d.size : Int) := by omega
        have r1 : IntKind.i64.wrap ((y : Nat) : Int) = ((y : Nat) : Int) := by rw [IntKind.wrap_i64]; omega
        have e2 : ((c : Nat) : Int).toNat = c := by omega
        have p2 : (0 : Int) ≤ ((c : Nat) : Int) := by omega
        have b2 : ((c : Nat) : Int) < (d.size : Int) := by omega
        have r2 : IntKind.i64.wrap ((c : Nat) : Int) = ((c : Nat) : Int) := by rw [IntKind.wrap_i64]; omega
        have lj := fun n' os' => S1.out.ld R (by omega) P y (by omega) n' os'
        have lp := fun n' os' => S1.out.ld R (by omega) P c (by omega) n' os'
        have hcg := fun n' os' => S1.out.cmp (HC.out w0 blk off d0.size) (by omega) d[y]! d[c]! n' os'
        have S2 : Hid (∀ n' os', SWk k w0 blk off d (grow (wr.drewN n') os')) := fun n' os' => S1.out.grown n' os'
        have hct := cmpT_neg (d[y]!).1 (d[c]!).1
        have HCT : Hid (decide (cmpG d[y]! d[c]! < 0) = ltT (d[y]!).1 (d[c]!).1) := hct
        clear hct
        generalize cmpG d[y]! d[c]! = cv at hcg HCT
        generalize enG d[y]! = cx at lj hcg
        generalize enG d[c]! = cy at lp hcg
        have hlx : Hid (lexB ltT d[y]! d[c]! = decide (cv < 0)) := by rw [HCT.out]; exact HM.out.test hcb.1 hcb.2 hyb.1 hyb.2
        clear HCT S1
        by_cases hlv : cv < 0
        · go_quiet_grown (first | (go_at_fn 68; refine Calls.grown_of (hcg _ _)))
          clear lj lp hcg
          go_wp2
          go_roundg (c - i)
          case measure => omega
          case rel => exact ⟨i, c, rfl, rfl, Nat.le_refl _, S2.out _ _, HS.out.no ltT_swo HF.out HM.out (by omega) (by omega) (by rw [hy', hlx.out]; exact decide_eq_true hlv)⟩
        · go_quiet_grown (first | (go_at_fn 68; refine Calls.grown_of (hcg _ _)))
          clear lj lp hcg
          go_wp2
          go_roundg (j - (c + 1))
          case measure => omega
          case rel => exact ⟨c + 1, j, by go_num, rfl, Nat.le_refl _, S2.out _ _, HS.out.yes ltT_swo HF.out HM.out (by omega) (by omega) (by rw [hy', hlx.out]; exact decide_eq_false (by omega))⟩
      · have hltz : ¬ (i : Int) < (j : Int) := by omega
        obtain rfl : i = j := by omega
        obtain ⟨s, hs'⟩ : ∃ s, i = s := ⟨_, rfl⟩
        rw [hs'] at HS
        rw [hs']
        clear hs' hltz hlt
        obtain ⟨e, he⟩ : ∃ e, n - s = e := ⟨_, rfl⟩
        have hse : s + e = mid + m := by have := HS.out.h1; have := HS.out.h3; omega
        have hsb : a ≤ s ∧ s ≤ m := by have := HS.out.h1; have := HS.out.h3; omega
        have heb : m ≤ e ∧ e ≤ b := by have := HS.out.h1; have := HS.out.h3; omega
        have w6 : IntKind.i64.wrap ((n : Int) - (s : Int)) = (e : Int) := by rw [IntKind.wrap_i64]; omega
        go_upto_region 39 with fail
        go_cut [185] from 178 to 185 (fun s185 wc => s185 = .bool (decide (s < m ∧ m < e)) ∧ Aside (SWk k w0 blk off d wc))
        case first =>
          by_cases h1 : s < m
          · by_cases h2 : m < e
            · have h1z : (s : Int) < (m : Int) := by omega
              have h2z : (m : Int) < (e : Int) := by omega
              go_wp2_with fail
              go_meet
              exact ⟨by rw [decide_eq_true ⟨h1, h2⟩], S1⟩
            · have h1z : (s : Int) < (m : Int) := by omega
              have h2z : ¬ (m : Int) < (e : Int) := by omega
              go_wp2_with fail
              go_meet
              exact ⟨by rw [decide_eq_false (fun h => h2 h.2)], S1⟩
          · have h1z : ¬ (s : Int) < (m : Int) := by omega
            go_wp2_with fail
            go_meet
            exact ⟨by rw [decide_eq_false (fun h => h1 h.1)], S1⟩
        case rest =>
          clear S1
          obtain ⟨rfl, S1⟩ := hcut
          go_upto_if 185 with fail
          go_cut [] from 185 to 191 (fun wc => ∃ d1, Aside (SWk k w0 blk off d1 wc) ∧ Hid (Rotated s m e d d1))
          case first =>
            by_cases h1 : s < m ∧ m < e
            · rw [decide_eq_true h1]
              have hr := HRot.out s e wc S1.out h1.1 h1.2 heb.2
              go_wp2_with (go_at_fn 134; refine hr.mono ?_; rintro e' w2 ⟨rfl, X, hX, hR⟩)
              go_meet
              exact ⟨X, hX, hR⟩
            · rw [decide_eq_false h1]
              go_wp2_with fail
              go_meet
              exact ⟨d, S1, rotated_none (by omega) (by omega) (by omega) d⟩
          case rest =>
            clear S1
            obtain ⟨d1, S1, HRo⟩ := hcut
            have HH : Hid (Halves ltT a s mid e b d1) := halves ltT_swo HF.out HM.out HS.out hse HRo.out
            have HP : Hid (PermIn a b d d1) := permIn_mono d d1 s e a b hsb.1 heb.2 hb HRo.out.perm
            have hd1 : d1.size = d.size := HP.out.1
            have hsm : s ≤ mid := by omega
            have hme : mid ≤ e := by omega
            clear HS HRo
            go_upto_region 41 with fail
            go_cut [199] from 192 to 199 (fun s199 wc => s199 = .bool (decide (a < s ∧ s < mid)) ∧ Aside (SWk k w0 blk off d1 wc))
            case first =>
              by_cases h1 : a < s
              · by_cases h2 : s < mid
                · have h1z : (a : Int) < (s : Int) := by omega
                  have h2z : (s : Int) < (mid : Int) := by omega
                  go_wp2_with fail
                  go_meet
                  exact ⟨by rw [decide_eq_true ⟨h1, h2⟩], S1⟩
                · have h1z : (a : Int) < (s : Int) := by omega
                  have h2z : ¬ (s : Int) < (mid : Int) := by omega
                  go_wp2_with fail
                  go_meet
                  exact ⟨by rw [decide_eq_false (fun h => h2 h.2)], S1⟩
              · have h1z : ¬ (a : Int) < (s : Int) := by omega
                go_wp2_with fail
                go_meet
                exact ⟨by rw [decide_eq_false (fun h => h1 h.1)], S1⟩
            case rest =>
              clear S1
              obtain ⟨rfl, S1⟩ := hcut
              go_upto_if 199 with fail
              go_cut [] from 199 to 205 (fun wc => ∃ X1, Aside (SWk k w0 blk off X1 wc) ∧ Hid (Merged ltT a mid d1 X1))
              case first =>
                by_cases h1 : a < s ∧ s < mid
                · rw [decide_eq_true h1]
                  have hr := HI.out a s mid d1 wc (by omega) hd1 S1.out h1.1 h1.2 (by omega) HH.out.fst
                  go_wp2_with (go_at_fn 129; refine hr.mono ?_; rintro e' w2 ⟨rfl, X, hX, hR⟩)
                  go_meet
                  exact ⟨X, hX, hR⟩
                · rw [decide_eq_false h1]
                  go_wp2_with fail
                  go_meet
                  exact ⟨d1, S1, HH.out.fst.empty (by omega) (by omega) (by omega)⟩
              case rest =>
                clear S1
                obtain ⟨X1, S1, H1⟩ := hcut
                have hX1 : X1.size = d.size := H1.out.perm.1.trans hd1
                have H2 : Hid (Mergeable ltT mid e b X1) := HH.out.snd.other H1.out.perm (by omega) (Nat.le_refl _)
                go_upto_region 43 with fail
                by_cases h1 : mid < e
                · have h1z : (mid : Int) < (e : Int) := by omega
                  by_cases h2 : e < b
                  · have h2z : (e : Int) < (b : Int) := by omega
                    have hr := HI.out mid e b X1 wc (by omega) hX1 S1.out h1 h2 (by omega) H2.out
                    go_wp2_with (go_at_fn 129; refine hr.mono ?_; rintro e' w2 ⟨rfl, X, hX, hR⟩)
                    go_end0
                    exact ⟨rfl, X, hX, merged_halves (by omega) (by omega) hb HP.out HH.out H1.out hR⟩
                  · have h2z : ¬ (e : Int) < (b : Int) := by omega
                    go_wp2
                    go_end0
                    exact ⟨rfl, X1, S1.out, merged_halves (by omega) (by omega) hb HP.out HH.out H1.out (H2.out.empty (by omega) (by omega) (by omega))⟩
                · have h1z : ¬ (mid : Int) < (e : Int) := by omega
                  go_wp2
                  go_end0
                  exact ⟨rfl, X1, S1.out, merged_halves (by omega) (by omega) hb HP.out HH.out H1.out (H2.out.empty (by omega) (by omega) (by omega))⟩
end Go.Proofs.YtfclmbneimbmnaaDoor

/- The reference's Join: the span with the least begin that is left, as long as others begin within it or at its end. -/
import Derived.Test.YthlmeppahcjlgaaBtN
import Derived.BigQuiet
import Derived.Deep.LoopGhost
import Derived.IntWalk
namespace Go.Proofs.Ythlmeppahcjlgaa
open Go.RowKit

theorem or_next {F T : Nat → Int} {f m m' : Int} {k : Nat} {c : Bool} (hor : (c = false ∧ m' = m ∧ Shut5 F T f m k) ∨ (c = true ∧ m < m')) (h : ¬ (f ≤ F k ∧ F k ≤ m' ∧ m' < T k)) :
    (c = false ∧ m' = m ∧ Shut5 F T f m (k + 1)) ∨ (c = true ∧ m < m') := by
  rcases hor with ⟨h1, rfl, h2⟩ | h1
  · exact .inl ⟨h1, rfl, h2.next h⟩
  · exact .inr h1
theorem new_pair (w : World) (x y : Value) (t : TypeId) : (w.alloc (.cells #[x, y] t)).cell? ⟨w.heap.size, 0, none⟩ = some x ∧ (w.alloc (.cells #[x, y] t)).cell? ⟨w.heap.size, 1, none⟩ = some y ∧ (w.alloc (.cells #[x, y] t)).frozen? ⟨w.heap.size, 1, none⟩ = false ∧ w.heap.size < (w.alloc (.cells #[x, y] t)).heap.size := by
  refine ⟨by simp, by simp, by simp, by simp⟩
set_option maxRecDepth 100000 in
set_option maxHeartbeats 16000000 in
theorem rjoin_ok (a : Option Addr) (n cap : Nat) (F T : Nat → Int) (w : World) (hS : Sps w a n F T) (hn : n ≤ 1000) (hr : rights (pairs F T n)) :
    Calls Try.prog 24 #[.slice a n cap] w (JoinedOwn (pairs F T n) w) := by
  have HC := Lib.hid hS
  have HR := Lib.hid hr
  have HN := Lib.hid hn
  have HG0 := Lib.hid (Grow.start (pairs F T n))
  clear hS hr
  go_enter Try.func24, Try.ntmps24
  go_wp2_with fail
  go_loopw [4] (fun i wr => ∃ k : Nat, k ≤ n ∧ i = .int .i64 k ∧ Below w.heap.size w wr) (fun i _ => n - (intOf i).toNat)
  case atStart => exact ⟨0, Nat.zero_le _, rfl, Below.refl _ _⟩
  case round =>
    obtain ⟨k, hk, rfl, hB⟩ := hrel
    by_cases hlt : k < n
    · obtain ⟨ab, ao, rfl, hab, c0, c1, b0, b1, b2, b3⟩ := HC.out.at hB k hlt
      have HB := Lib.hid hB
      have HS := Lib.hid hB.size
      have hrk : rightB (F k) (T k) = true := (rightB_iff _ _).2 (HR.out _ (pairs_mem.2 ⟨k, hlt, rfl⟩))
      obtain ⟨f, e0⟩ : ∃ x, F k = x := ⟨_, rfl⟩
      obtain ⟨t, e1⟩ : ∃ x, T k = x := ⟨_, rfl⟩
      rw [e0] at c0 b0 b1 hrk
      rw [e1] at c1 b2 b3 hrk
      clear hB e0 e1
      have i0 : (0 : Int) ≤ (k : Int) := by omega
      have kl : (k : Int) < (n : Int) := by omega
      have d4 : decide ((k : Int) < (n : Int)) = true := by simp [hlt]
      have hr' := rright_any f t
      rw [hrk] at hr'
      clear hrk
      go_wp2_with (go_at_call 14; refine (hr' _).mono ?_; rintro e w' ⟨rfl, hb⟩)
      go_roundw
      case rel => exact ⟨k + 1, hlt, by go_num, HB.out.trans (hb.mono HS.out)⟩
      case measure => simp [intOf]; omega
    · obtain rfl : n = k := by omega
      have HB := Lib.hid hB
      clear hB
      go_wp2_with fail
      go_loopg [3] (lateN (pairs F T n) []) (fun g v wr => ∃ jn, lateN (pairs F T n) jn = g ∧ OS wr w.heap.size v jn ∧ Grow (pairs F T n) jn ∧ Below w.heap.size w wr)
      case atStart => exact ⟨[], rfl, OS.nil _ _, HG0.out, HB.out⟩
      case round =>
        obtain ⟨jn, hgk, hO, hG, hBo⟩ := hrel
        obtain ⟨wo, rfl⟩ : ∃ wo : World, wo = wr := ⟨_, rfl⟩
        have HGK := Lib.hid hgk
        have HG := Lib.hid hG
        have HO := Lib.hid hO
        have HBO := Lib.hid hBo
        have hbase : w.heap.size ≤ wo.heap.size := hBo.size
        have hlj : jn.length ≤ n := by have := hG.len; rw [pairs_len] at this; omega
        obtain ⟨va, vc, rfl, _, hcells⟩ := hO.shape
        have HCL := Lib.hid hcells
        clear hgk hG hO hBo hcells
        go_wp2_with fail
        go_loopw [5, 6] (fun x i wx => ∃ (k : Nat) (y : Int), k ≤ n ∧ i = .int .i64 k ∧ x = .int .i64 y ∧ Scan jn F k y ∧ ∃ q, wx = wo.drewN q) (fun _ i _ => n - (intOf i).toNat)
        case atStart => exact ⟨0, _, Nat.zero_le _, rfl, rfl, Scan.start _ _, 0, rfl⟩
        case round =>
          obtain ⟨k, y, hk, rfl, rfl, hsc, q, rfl⟩ := hrel
          have HSC := Lib.hid hsc
          clear hsc
          by_cases hlt : k < n
          · obtain ⟨ab, ao, rfl, hab, c0, c1, b0, b1, b2, b3⟩ := (HC.out.kept HBO.out).at (Below.refl _ _) k hlt
            have HAT : Hid (∀ p, p < n → wo.cell? ⟨ab, ao + p * 2, none⟩ = some (.int .i64 (F p)) ∧ -9223372036854775808 ≤ F p ∧ F p ≤ 9223372036854775807) := Lib.hid fun p hp => by
              obtain ⟨ab', ao', e, _, d0, _, d1, d2, _⟩ := (HC.out.kept HBO.out).at (Below.refl _ _) p hp
              injection e with e; injection e with e1 e2; subst e1 e2
              exact ⟨d0, d1, d2⟩
            obtain ⟨f, e0⟩ : ∃ x, F k = x := ⟨_, rfl⟩
            rw [e0] at c0 b0 b1
            have HE := Lib.hid e0
            clear e0 c1 b2 b3
            have i0 : (0 : Int) ≤ (k : Int) := by omega
            have kl : (k : Int) < (n : Int) := by omega
            have d4 : decide ((k : Int) < (n : Int)) = true := by simp [hlt]
            rcases List.eq_nil_or_concat jn with rfl | ⟨ini, z, rfl⟩
            · have HLT : Hid (lateB [] (F k) = true) := Lib.hid rfl
              rcases HSC.out with ⟨rfl, _⟩ | ⟨p, hpk, rfl, _⟩
              · have dat : decide ((-1 : Int) < 0) = true := by decide
                go_wp2_with fail
                go_quiet (fail)
                go_wp2_with fail
                go_quiet (fail)
                go_wp2_with fail
                go_roundw
                case rel => first | exact ⟨k + 1, _, hlt, by go_num, rfl, HSC.out.first HLT.out, _, rfl⟩ | exact ⟨_, _, _, _, _, _, _, _, _, _, _, _, _, _, _, _, _, _, _, _, _, _, _, _, _, _, _, _, _, _, _, _, _, _, _, _, _, _, _, _, _, _, _, _, _, _, ⟨k + 1, _, hlt, by go_num, rfl, HSC.out.first HLT.out, _, rfl⟩, rfl⟩
                case measure => simp [intOf]; omega
              · have dat : decide ((p : Int) < 0) = false := decide_eq_false (by omega)
                obtain ⟨c2, b4, b5⟩ := HAT.out p (by omega)
                have p0 : (0 : Int) ≤ (p : Int) := by omega
                have pl : (p : Int) < (n : Int) := by omega
                obtain ⟨f2, e2⟩ : ∃ x, F p = x := ⟨_, rfl⟩
                rw [e2] at c2 b4 b5
                have HE2 := Lib.hid e2
                clear e2
                by_cases hff : f < f2
                · have dff : decide (f < f2) = true := decide_eq_true hff
                  go_wp2_with fail
                  go_quiet (fail)
                  go_wp2_with fail
                  go_quiet (fail)
                  go_wp2_with fail
                  go_roundw
                  case rel => first | exact ⟨k + 1, _, hlt, by go_num, rfl, HSC.out.less HLT.out (by rw [HE.out, HE2.out]; omega), _, rfl⟩ | exact ⟨_, _, _, _, _, _, _, _, _, _, _, _, _, _, _, _, _, _, _, _, _, _, _, _, _, _, _, _, _, _, _, _, _, _, _, _, _, _, _, _, _, _, _, _, _, _, ⟨k + 1, _, hlt, by go_num, rfl, HSC.out.less HLT.out (by rw [HE.out, HE2.out]; omega), _, rfl⟩, rfl⟩
                  case measure => simp [intOf]; omega
                · have dff : decide (f < f2) = false := decide_eq_false hff
                  go_wp2_with fail
                  go_quiet (fail)
                  go_wp2_with fail
                  go_quiet (fail)
                  go_wp2_with fail
                  go_roundw
                  case rel => first | exact ⟨k + 1, _, hlt, by go_num, rfl, HSC.out.keep (by rw [HE.out, HE2.out]; omega), _, rfl⟩ | exact ⟨_, _, _, _, _, _, _, _, _, _, _, _, _, _, _, _, _, _, _, _, _, _, _, _, _, _, _, _, _, _, _, _, _, _, _, _, _, _, _, _, _, _, _, _, _, _, ⟨k + 1, _, hlt, by go_num, rfl, HSC.out.keep (by rw [HE.out, HE2.out]; omega), _, rfl⟩, rfl⟩
                  case measure => simp [intOf]; omega
            · rw [List.concat_eq_append] at HG HSC HCL hlj HGK
              rw [List.concat_eq_append]
              have hll : (ini ++ [z]).length = ini.length + 1 := by simp
              have hcells := HCL.out
              rw [hll] at hcells hlj ⊢
              obtain ⟨g, rfl, hg, hgl, hck⟩ := hcells (by omega)
              obtain ⟨_, d1, _, _⟩ := hck ini.length (by omega)
              have hx2 : til (ini ++ [z]) ini.length = z.2 := by simp [til]
              rw [hx2] at d1
              obtain ⟨p1, hp1⟩ : ∃ p, ini.length = p := ⟨_, rfl⟩
              rw [hp1] at d1 hlj ⊢
              have hlb := lateB_last HG.out.sep HG.out.rights f
              obtain ⟨z2, hz2⟩ : ∃ x, z.2 = x := ⟨_, rfl⟩
              rw [hz2] at d1 hlb
              have HLB := Lib.hid hlb
              clear hck hcells hx2 hp1 hlb hz2 hll
              have p0' : (0 : Int) ≤ (p1 : Int) := by omega
              have p1' : (p1 : Int) < (p1 : Int) + 1 := by omega
              have pz : (((p1 : Int) + 1) == 0) = false := by simp; omega
              have pw : IntKind.i64.wrap (p1 : Int) = (p1 : Int) := IntWalk.i64_in _ (by omega)
              by_cases hlate : z2 < f
              · have dl : decide (z2 < f) = true := decide_eq_true hlate
                have HLT : Hid (lateB (ini ++ [z]) (F k) = true) := Lib.hid (by rw [HE.out, HLB.out]; exact dl)
                rcases HSC.out with ⟨rfl, _⟩ | ⟨p, hpk, rfl, _⟩
                · have dat : decide ((-1 : Int) < 0) = true := by decide
                  go_wp2_with fail
                  go_quiet (fail)
                  go_wp2_with fail
                  go_quiet (fail)
                  go_wp2_with fail
                  go_roundw
                  case rel => first | exact ⟨k + 1, _, hlt, by go_num, rfl, HSC.out.first HLT.out, _, rfl⟩ | exact ⟨_, _, _, _, _, _, _, _, _, _, _, _, _, _, _, _, _, _, _, _, _, _, _, _, _, _, _, _, _, _, _, _, _, _, _, _, _, _, _, _, _, _, _, _, _, _, ⟨k + 1, _, hlt, by go_num, rfl, HSC.out.first HLT.out, _, rfl⟩, rfl⟩
                  case measure => simp [intOf]; omega
                · have dat : decide ((p : Int) < 0) = false := decide_eq_false (by omega)
                  obtain ⟨c2, b4, b5⟩ := HAT.out p (by omega)
                  have p0 : (0 : Int) ≤ (p : Int) := by omega
                  have pl : (p : Int) < (n : Int) := by omega
                  obtain ⟨f2, e2⟩ : ∃ x, F p = x := ⟨_, rfl⟩
                  rw [e2] at c2 b4 b5
                  have HE2 := Lib.hid e2
                  clear e2
                  by_cases hff : f < f2
                  · have dff : decide (f < f2) = true := decide_eq_true hff
                    go_wp2_with fail
                    go_quiet (fail)
                    go_wp2_with fail
                    go_quiet (fail)
                    go_wp2_with fail
                    go_roundw
                    case rel => first | exact ⟨k + 1, _, hlt, by go_num, rfl, HSC.out.less HLT.out (by rw [HE.out, HE2.out]; omega), _, rfl⟩ | exact ⟨_, _, _, _, _, _, _, _, _, _, _, _, _, _, _, _, _, _, _, _, _, _, _, _, _, _, _, _, _, _, _, _, _, _, _, _, _, _, _, _, _, _, _, _, _, _, ⟨k + 1, _, hlt, by go_num, rfl, HSC.out.less HLT.out (by rw [HE.out, HE2.out]; omega), _, rfl⟩, rfl⟩
                    case measure => simp [intOf]; omega
                  · have dff : decide (f < f2) = false := decide_eq_false hff
                    go_wp2_with fail
                    go_quiet (fail)
                    go_wp2_with fail
                    go_quiet (fail)
                    go_wp2_with fail
                    go_roundw
                    case rel => first | exact ⟨k + 1, _, hlt, by go_num, rfl, HSC.out.keep (by rw [HE.out, HE2.out]; omega), _, rfl⟩ | exact ⟨_, _, _, _, _, _, _, _, _, _, _, _, _, _, _, _, _, _, _, _, _, _, _, _, _, _, _, _, _, _, _, _, _, _, _, _, _, _, _, _, _, _, _, _, _, _, ⟨k + 1, _, hlt, by go_num, rfl, HSC.out.keep (by rw [HE.out, HE2.out]; omega), _, rfl⟩, rfl⟩
                    case measure => simp [intOf]; omega
              · have dl : decide (z2 < f) = false := decide_eq_false hlate
                have HLT : Hid (lateB (ini ++ [z]) (F k) = false) := Lib.hid (by rw [HE.out, HLB.out]; exact dl)
                go_wp2_with fail
                go_quiet (fail)
                go_wp2_with fail
                go_quiet (fail)
                go_wp2_with fail
                go_roundw
                case rel => first | exact ⟨k + 1, _, hlt, by go_num, rfl, HSC.out.skip HLT.out, _, rfl⟩ | exact ⟨_, _, _, _, _, _, _, _, _, _, _, _, _, _, _, _, _, _, _, _, _, _, _, _, _, _, _, _, _, _, _, _, _, _, _, _, _, _, _, _, _, _, _, _, _, _, ⟨k + 1, _, hlt, by go_num, rfl, HSC.out.skip HLT.out, _, rfl⟩, rfl⟩
                case measure => simp [intOf]; omega
          · obtain rfl : n = k := by omega
            clear HCL
            by_cases hy : y = -1
            · subst hy
              have hJ := HG.out.stop HSC.out.stop
              have HJ := Lib.hid hJ
              clear hJ
              have hleng : jn.length ≤ (pairs F T n).length := by rw [pairs_len]; exact hlj
              go_wp2_with fail
              go_ret
              exact ⟨_, jn, rfl, HO.out.kept (below_drewN' (Below.refl _ _) _), HJ.out, hleng, below_drewN' HBO.out _⟩
            · obtain ⟨p, hpn, rfl, _⟩ : ∃ p : Nat, p < n ∧ y = p ∧ True := by
                rcases HSC.out with ⟨e, _⟩ | ⟨p, hp, e, _⟩
                · exact absurd e hy
                · exact ⟨p, hp, e, trivial⟩
              obtain ⟨_, hseed⟩ := HSC.out.seed HR.out
              have HSE := Lib.hid hseed
              have hb1 : Below wo.heap.size wo (wo.drewN q) := below_drewN' (Below.refl _ _) q
              generalize wo.drewN q = W1 at hb1 ⊢
              have HW1 := Lib.hid hb1
              obtain ⟨ab, ao, rfl, hab, c0, c1, b0, b1, b2, b3⟩ := (HC.out.kept (HBO.out.trans (hb1.mono hbase))).at (Below.refl _ _) p hpn
              obtain ⟨f, e0⟩ : ∃ x, F p = x := ⟨_, rfl⟩
              obtain ⟨t, e1⟩ : ∃ x, T p = x := ⟨_, rfl⟩
              rw [e0] at c0 b0 b1 HSE
              rw [e1] at c1 b2 b3 HSE
              have p0 : (0 : Int) ≤ (p : Int) := by omega
              have pl : (p : Int) < (n : Int) := by omega
              have dp : decide ((p : Int) < 0) = false := decide_eq_false (by omega)
              clear hy hseed e0 e1 HSC hb1
              have hg1 : wo.heap.size ≤ W1.heap.size := HW1.out.size
              have hgr : Growing F T n jn wo W1.heap.size f t (W1.alloc (.cells #[.int .i64 f, .int .i64 t] 25)) :=
                ⟨HSE.out, HW1.out.alloc hg1 _, (new_pair W1 _ _ _).1, (new_pair W1 _ _ _).2.1, (new_pair W1 _ _ _).2.2.1, (new_pair W1 _ _ _).2.2.2⟩
              have HGR := Lib.hid hgr
              clear hgr
              go_wp2_with fail
              go_loopg [9] (2 * room t + 1) (fun g ag wx => ∃ (m : Int) (c : Bool), ag = .bool c ∧ Growing F T n jn wo W1.heap.size f m wx ∧ (if c then 2 * room m + 1 else 2 * room m) = g ∧ (c = false → Shut5 F T f m n))
              case atStart => exact ⟨t, true, rfl, HGR.out, rfl, fun h => by cases h⟩
              case round =>
                obtain ⟨m, c, rfl, hgr, hmu, hshut⟩ := hrel
                have HGR := Lib.hid hgr
                have HMU := Lib.hid hmu
                have HSH := Lib.hid hshut
                have HBA : Hid (∀ wx, Below wo.heap.size wo wx → Below w.heap.size w wx) := Lib.hid fun wx h => HBO.out.trans (h.mono hbase)
                clear hgr hmu hshut
                cases c
                · have hst := HG.out.step HGR.out.seed (HSH.out rfl).all
                  have HST := Lib.hid hst
                  clear hst
                  have d0 := HGR.out.c0
                  have d1 := HGR.out.c1
                  have hBn : Below wr.heap.size wr (wr.alloc (.cells #[.int .i64 f, .int .i64 m] 25)) := (Below.refl _ _).alloc (Nat.le_refl _) _
                  have HO2 := Lib.hid (HO.out.kept (HGR.out.below.trans (hBn.mono HGR.out.below.size)))
                  have HB2 := Lib.hid ((HBA.out _ HGR.out.below).trans (hBn.mono (HBA.out _ HGR.out.below).size))
                  have HNS := Lib.hid (new_span wr (.int .i64 f) (.int .i64 m) 25)
                  have HLJ := Lib.hid (show jn.length ≤ 100000 by omega)
                  clear hBn
                  go_wp2_with (at_builtin; refine append_span rfl (.tmp 114) (.tmp 116) rfl w.heap.size (.slice va jn.length vc) jn f m ⟨wr.heap.size, 0, none⟩ 1 rfl rfl HO2.out HNS.out HLJ.out HB2.out.size ?_; intro v' w' hO' hst; have HO' := Lib.hid hO'; have HSTW := Lib.hid hst; clear hO' hst)
                  go_roundg (lateN (pairs F T n) (jn ++ [(f, m)]))
                  case measure => rw [← HGK.out]; exact HST.out.2
                  case rel => exact ⟨_, rfl, HO'.out, HST.out.1, HSTW.out.2 _ HB2.out⟩
                · go_wp2_with fail
                  go_loopw [9, 10] (fun ag i wy => ∃ (k : Nat) (m' : Int) (c : Bool), k ≤ n ∧ i = .int .i64 k ∧ ag = .bool c ∧ Growing F T n jn wo W1.heap.size f m' wy ∧ ((c = false ∧ m' = m ∧ Shut5 F T f m k) ∨ (c = true ∧ m < m'))) (fun _ i _ => n - (intOf i).toNat)
                  case atStart => exact ⟨0, m, false, Nat.zero_le _, rfl, rfl, HGR.out, .inl ⟨rfl, rfl, fun j hj => by omega⟩⟩
                  case round =>
                    clear HGR
                    obtain ⟨k, m', c, hk, rfl, rfl, hgr, hor⟩ := hrel
                    have HGR := Lib.hid hgr
                    have HOR := Lib.hid hor
                    clear hgr hor
                    by_cases hlt : k < n
                    · obtain ⟨ab', ao', e, hab', c2, c3, b4, b5, b6, b7⟩ := HC.out.at (HBA.out _ HGR.out.below) k hlt
                      injection e with e; injection e with e1 e2; subst e1 e2
                      obtain ⟨fk, e0⟩ : ∃ x, F k = x := ⟨_, rfl⟩
                      obtain ⟨tk, e1⟩ : ∃ x, T k = x := ⟨_, rfl⟩
                      have HE := Lib.hid (And.intro e0 e1)
                      have hra := fun q h1 h2 h3 => (HGR.out.drewN q).raise HR.out hg1 hlt h1 h2 h3
                      rw [e0] at c2 b4 b5 hra
                      rw [e1] at c3 b6 b7 hra
                      have d0 := HGR.out.c0
                      have d1 := HGR.out.c1
                      have d2 := HGR.out.z1
                      obtain ⟨g0, g1, g2⟩ := HGR.out.bounds
                      have k0 : (0 : Int) ≤ (k : Int) := by omega
                      have kl : (k : Int) < (n : Int) := by omega
                      have d4 : decide ((k : Int) < (n : Int)) = true := by simp [hlt]
                      clear e0 e1
                      by_cases h1 : f ≤ fk
                      · have x1 : decide (f ≤ fk) = true := decide_eq_true h1
                        have x1' : decide (fk ≥ f) = true := decide_eq_true h1
                        by_cases h2 : fk ≤ m'
                        · have x2 : decide (fk ≤ m') = true := decide_eq_true h2
                          by_cases h3 : m' < tk
                          · have x3 : decide (m' < tk) = true := decide_eq_true h3
                            have x3' : decide (tk > m') = true := decide_eq_true h3
                            have HRA := Lib.hid (fun q => hra q h1 h2 h3)
                            clear hra
                            go_wp2_with fail
                            go_quiet (fail)
                            go_wp2_with fail
                            go_roundw
                            case rel => exact ⟨k + 1, tk, true, hlt, by go_num, rfl, HRA.out _, .inr ⟨rfl, by rcases HOR.out with ⟨_, h, _⟩ | ⟨_, h⟩ <;> omega⟩⟩
                            case measure => simp [intOf]; omega
                          · have x3 : decide (m' < tk) = false := decide_eq_false h3
                            have x3' : decide (tk > m') = false := decide_eq_false h3
                            clear hra
                            go_wp2_with fail
                            go_quiet (fail)
                            go_wp2_with fail
                            go_roundw
                            case rel => exact ⟨k + 1, m', c, hlt, by go_num, rfl, HGR.out.drewN _, or_next HOR.out (by rw [HE.out.1, HE.out.2]; omega)⟩
                            case measure => simp [intOf]; omega
                        · have x2 : decide (fk ≤ m') = false := decide_eq_false h2
                          clear hra
                          go_wp2_with fail
                          go_quiet (fail)
                          go_wp2_with fail
                          go_roundw
                          case rel => exact ⟨k + 1, m', c, hlt, by go_num, rfl, HGR.out.drewN _, or_next HOR.out (by rw [HE.out.1, HE.out.2]; omega)⟩
                          case measure => simp [intOf]; omega
                      · have x1 : decide (f ≤ fk) = false := decide_eq_false h1
                        have x1' : decide (fk ≥ f) = false := decide_eq_false h1
                        clear hra
                        go_wp2_with fail
                        go_quiet (fail)
                        go_wp2_with fail
                        go_roundw
                        case rel => exact ⟨k + 1, m', c, hlt, by go_num, rfl, HGR.out.drewN _, or_next HOR.out (by rw [HE.out.1, HE.out.2]; omega)⟩
                        case measure => simp [intOf]; omega
                    · obtain rfl : n = k := by omega
                      go_wp2_with fail
                      go_roundg (if c then 2 * room m' + 1 else 2 * room m')
                      case measure =>
                        have hmu := HMU.out
                        rcases HOR.out with ⟨rfl, rfl, _⟩ | ⟨rfl, h⟩
                        · simp only [if_true, Bool.false_eq_true, if_false] at hmu ⊢; omega
                        · have := HGR.out.bounds
                          have h2 : room m' < room m := by unfold room; omega
                          simp only [if_true] at hmu ⊢; omega
                      case rel =>
                        refine ⟨m', c, rfl, HGR.out, rfl, fun h => ?_⟩
                        rcases HOR.out with ⟨_, rfl, h2⟩ | ⟨h1, _⟩
                        · exact h2
                        · rw [h1] at h; cases h
end Go.Proofs.Ythlmeppahcjlgaa

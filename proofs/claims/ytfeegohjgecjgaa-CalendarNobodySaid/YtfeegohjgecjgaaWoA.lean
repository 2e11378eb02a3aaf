/- The plan's methods, told by what they turn: the plan's cell alone. -/
import Derived.Test.YtfeegohjgecjgaaWkE
import Derived.Test.YtfeegohjgecjgaaWkF
namespace Go.Proofs.Ytfeegohjgecjgaa
open Go.RowKit

theorem only_drewN (X : Nat → Prop) (w : World) (q : Nat) : Only X w (w.drewN q) := ⟨rfl, rfl, rfl, Nat.le_refl _, fun _ _ _ => rfl⟩
set_option maxRecDepth 100000 in
set_option maxHeartbeats 4000000 in
theorem within_planO {base P C : Nat} {a : Option Addr} {n c : Nat} {F T : Nat → Int} {w : World} (t : Int) (h : Pl base P C a n c F T w) (hn : n ≤ 32) (hg : good F T n = true) (hb : base ≤ w.heap.size) (ht0 : 0 ≤ t) (ht1 : t ≤ 1125899906842624) :
    Calls Try.prog 96 #[.pointer (some ⟨P, 0, none⟩), .int .i64 t] w fun e w' => e = .returned (.int .i64 (wsum F T 0 t n)) ∧ Pl base P C a n c F T w' ∧ Only (· = C) w w' := by
  have B1 : Below w.heap.size w ((w.alloc (.cells #[.pointer (some ⟨P, 0, none⟩)] 73)).alloc (.cells #[.int .i64 t] 2)) := ((Below.refl _ _).alloc (Nat.le_refl _) _).alloc (by simp) _
  have hP := h.kept B1
  have z0 : ((w.alloc (.cells #[.pointer (some ⟨P, 0, none⟩)] 73)).alloc (.cells #[.int .i64 t] 2)).cell? ⟨w.heap.size, 0, none⟩ = some (.pointer (some ⟨P, 0, none⟩)) := by rw [World.cell?_alloc_past _ _ _ (by simp)]; simp
  have z1 : ((w.alloc (.cells #[.pointer (some ⟨P, 0, none⟩)] 73)).alloc (.cells #[.int .i64 t] 2)).cell? ⟨w.heap.size + 1, 0, none⟩ = some (.int .i64 t) := by simp
  have hlt0 : w.heap.size < ((w.alloc (.cells #[.pointer (some ⟨P, 0, none⟩)] 73)).alloc (.cells #[.int .i64 t] 2)).heap.size := by simp; omega
  have hlt1 : w.heap.size + 1 < ((w.alloc (.cells #[.pointer (some ⟨P, 0, none⟩)] 73)).alloc (.cells #[.int .i64 t] 2)).heap.size := by simp
  have hltC := h.lt
  have HB1 := Lib.hid (Only.below (X := (· = C)) B1)
  have hse := search_any P (w.heap.size + 1) w.heap.size a n c F T t _ z1 z0 hP.row hP.sps hn hg
  have e1 := hP.bef
  have e2 := hP.row
  have HP := Lib.hid hP
  have HG := Lib.hid hg
  clear h hP B1 hg
  go_enter Try.func96, Try.ntmps96
  go_wp2_with fail
  generalize ((w.alloc (.cells #[.pointer (some ⟨P, 0, none⟩)] 73)).alloc (.cells #[.int .i64 t] 2)) = W at *
  refine hse.mono ?_
  rintro e w1 ⟨i, rfl, hin, hlo, hhi, q, rfl⟩
  clear hse
  have hP1 := HP.out.drewN q
  have f0 : (W.drewN q).cell? ⟨w.heap.size, 0, none⟩ = some (.pointer (some ⟨P, 0, none⟩)) := z0
  have f1 : (W.drewN q).cell? ⟨w.heap.size + 1, 0, none⟩ = some (.int .i64 t) := z1
  have f2 : (W.drewN q).cell? ⟨P, 1, none⟩ = some (.pointer (some ⟨C, 0, none⟩)) := e1
  have f3 : (W.drewN q).cell? ⟨P, 0, none⟩ = some (.slice a n c) := e2
  have hsz : (W.drewN q).heap.size = W.heap.size := rfl
  have hget := get_plan hP1 hn HG.out
  have HBQ := Lib.hid (HB1.out.trans (show Only (· = C) W (W.drewN q) from only_drewN _ _ q))
  have HLO := Lib.hid hlo
  have HHI := Lib.hid hhi
  clear hP1 hlo hhi z0 z1 e1 e2
  generalize W.drewN q = W1 at *
  go_wp2_with fail
  refine hget.mono ?_
  rintro e w2 ⟨g, vc, rfl, hk, hP2, hO2⟩
  have ck := hk i hin
  have e1 := hP2.row
  have e2 : w2.cell? ⟨w.heap.size, 0, none⟩ = some (.pointer (some ⟨P, 0, none⟩)) := (hO2.cell (p := ⟨w.heap.size, 0, none⟩) (by show w.heap.size < _; omega) (by show ¬ w.heap.size = C; omega)).trans f0
  have e3 : w2.cell? ⟨w.heap.size + 1, 0, none⟩ = some (.int .i64 t) := (hO2.cell (p := ⟨w.heap.size + 1, 0, none⟩) (by show w.heap.size + 1 < _; omega) (by show ¬ w.heap.size + 1 = C; omega)).trans f1
  have HST := Lib.hid (HBQ.out.trans (show Only (· = C) W1 w2 from hO2))
  have HS2 := Lib.hid hP2.sps
  have HP2 := Lib.hid hP2
  obtain ⟨p0, p1⟩ := tsum_bounds HG.out i hin
  have p2 : tsum F T i ≤ 36028797018963968 := by omega
  have HWF := Lib.hid (wsum_found HG.out HLO.out HHI.out n (Nat.le_refl _))
  obtain ⟨s, hs⟩ : ∃ s, tsum F T i = s := ⟨_, rfl⟩
  have HE := Lib.hid hs
  rw [hs] at ck p0 p2
  have i0 : (0 : Int) ≤ (i : Int) := by omega
  have i1 : (i : Int) < (n : Int) + 1 := by omega
  clear hget hk hP2 hO2 f0 f1 f2 f3 hs p1
  by_cases hlt : i < n
  · have d1 : decide ((i : Int) < (n : Int)) = true := by simp [hlt]
    have i2 : (i : Int) < (n : Int) := by omega
    obtain ⟨ab, ao, rfl, hab, c0, _, b0, b1, _, _⟩ := HS2.out.at (Below.refl _ _) i hlt
    obtain ⟨g0, g1, g2, _⟩ := good_at HG.out hlt
    have HR : Hid (wsum F T 0 t n = s + max 0 (t - F i)) := Lib.hid (by rw [HWF.out, if_neg (by omega), HE.out])
    obtain ⟨f, hf⟩ : ∃ f, F i = f := ⟨_, rfl⟩
    rw [hf] at c0 b0 b1 g0 g1 HR
    have w1' : IntKind.i64.wrap (t - f) = t - f := IntWalk.i64_in _ (by omega)
    have w2' : IntKind.i64.wrap (s + max 0 (t - f)) = s + max 0 (t - f) := IntWalk.i64_in _ (by omega)
    clear hf
    go_wp2_with fail
    go_quiet (fail)
    all_goals clear w1' w2'
    all_goals go_wp2_with fail
    all_goals
      go_ret
      exact ⟨ret_int (by have := HR.out; omega), HP2.out.drewN _, HST.out.trans (only_drewN _ _ _)⟩
  · have d1 : decide ((i : Int) < (n : Int)) = false := by simp; omega
    have HR : Hid (wsum F T 0 t n = s) := Lib.hid (by rw [HWF.out, if_pos (by omega), ← HE.out]; congr 1; omega)
    go_wp2_with fail
    go_ret
    exact ⟨ret_int HR.out.symm, HP2.out, HST.out⟩
set_option maxRecDepth 100000 in
set_option maxHeartbeats 4000000 in
theorem until_anyO {base P C : Nat} {a : Option Addr} {n c : Nat} {F T : Nat → Int} {w : World} (t : Int) (h : Pl base P C a n c F T w) (hw : Wk F T n) (hb : base ≤ w.heap.size) :
    Calls Try.prog 86 #[.pointer (some ⟨P, 0, none⟩), .int .i64 t] w fun e w' => e = .returned (.int .i64 (untilV F T n t)) ∧ Pl base P C a n c F T w' ∧ Only (· = C) w w' := by
  have hcr := created_yes P C w h.bef
  have htot := total_any h hw.len hw.good
  have HB := Lib.hid (until_bounds hw t)
  obtain ⟨t0, t1⟩ := hw.total
  obtain ⟨x0, x1⟩ := cl_bounds t
  have HU := Lib.hid (show untilV F T n t = cl t / 604800 * tsum F T n + wsum F T 0 (cl t % 604800) n from rfl)
  have HWL := Lib.hid (wsum_le (cl t % 604800) hw.good n (Nat.le_refl _))
  have hx : min (max t 0) 2251799813685248 = cl t := rfl
  obtain ⟨x, hcl⟩ : ∃ x, cl t = x := ⟨_, rfl⟩
  rw [hcl] at x0 x1 HU HB HWL hx
  obtain ⟨tot, ht⟩ : ∃ x, tsum F T n = x := ⟨_, rfl⟩
  rw [ht] at t0 t1 htot HB HU HWL
  have HX := Lib.hid hx
  have HW := Lib.hid hw
  clear h hcl hw hx ht
  have y0 : 0 ≤ min (max t 0) 2251799813685248 := by omega
  have y1 : min (max t 0) 2251799813685248 ≤ 2251799813685248 := by omega
  go_enter Try.func86, Try.ntmps86
  go_wp2_with fail
  refine hcr.mono ?_
  rintro e w' ⟨rfl, rfl⟩
  clear hcr
  go_wp2_with fail
  rw [HX.out]
  clear y0 y1
  obtain ⟨q, hq⟩ : ∃ q, x / 604800 = q := ⟨_, rfl⟩
  have q0 : 0 ≤ q := by omega
  have q1 : q ≤ 3723213977 := by omega
  obtain ⟨r, hr⟩ : ∃ r, x % 604800 = r := ⟨_, rfl⟩
  have r0 : 0 ≤ r := by omega
  have r1 : r ≤ 604799 := by omega
  rw [hq] at HU HB ⊢
  rw [hr] at HU HWL
  obtain ⟨m0, m1, _, _⟩ := HB.out
  have HR := Lib.hid hr
  clear hq hr
  refine htot.mono ?_
  rintro e w1 ⟨rfl, hP1, hO1⟩
  clear htot
  have hwi := within_planO r hP1 HW.out.len HW.out.good (Nat.le_trans hb hO1.size) r0 (by omega)
  obtain ⟨z, hz⟩ : ∃ z, wsum F T 0 r n = z := ⟨_, rfl⟩
  rw [hz] at hwi HU HWL
  obtain ⟨z0, z1⟩ := HWL.out
  have z2 : z ≤ 604800 := by omega
  have HS1 := Lib.hid (show Only (· = C) w w1 from hO1)
  clear hP1 hO1 hz
  go_wp2_with fail
  rw [HR.out]
  refine hwi.mono ?_
  rintro e w2 ⟨rfl, hP2, hS2⟩
  have HP2 := Lib.hid hP2
  have HS2 := Lib.hid (HS1.out.trans hS2)
  clear hwi hP2 hS2
  go_wp2_with fail
  go_ret
  exact ⟨ret_int HU.out.symm, HP2.out, HS2.out⟩
theorem between_anyO {base P C : Nat} {a : Option Addr} {n c : Nat} {F T : Nat → Int} {w : World} (x y : Int) (h : Pl base P C a n c F T w) (hw : Wk F T n) (hb : base ≤ w.heap.size) :
    Calls Try.prog 82 #[.pointer (some ⟨P, 0, none⟩), .int .i64 x, .int .i64 y] w fun e w' => e = .returned (.int .i64 (betweenV F T n x y)) ∧ Pl base P C a n c F T w' ∧ Only (· = C) w w' := by
  have h1 := until_anyO y h hw hb
  have HX := Lib.hid (fun w1 (h : Pl base P C a n c F T w1) (hb : base ≤ w1.heap.size) => until_anyO x h hw hb)
  obtain ⟨_, _, b0, b1⟩ := until_bounds hw y
  obtain ⟨_, _, b2, b3⟩ := until_bounds hw x
  have HV := Lib.hid (show betweenV F T n x y = max 0 (untilV F T n y - untilV F T n x) from rfl)
  obtain ⟨u, hu⟩ : ∃ u, untilV F T n y = u := ⟨_, rfl⟩
  obtain ⟨v, hv⟩ : ∃ u, untilV F T n x = u := ⟨_, rfl⟩
  rw [hu] at b0 b1 HV h1
  rw [hv] at b2 b3 HV
  have HE := Lib.hid hv
  clear h hw hu hv
  go_enter Try.func82, Try.ntmps82
  go_wp2_with fail
  refine h1.mono ?_
  rintro e w1 ⟨rfl, hP1, hS1⟩
  have h2 := HX.out w1 hP1 (Nat.le_trans hb hS1.size)
  rw [HE.out] at h2
  have HS1 := Lib.hid hS1
  clear h1 hP1 hS1
  go_wp2_with fail
  refine h2.mono ?_
  rintro e w2 ⟨rfl, hP2, hS2⟩
  have HP2 := Lib.hid hP2
  have HS2 := Lib.hid (HS1.out.trans hS2)
  clear h2 hP2 hS2
  go_wp2_with fail
  go_ret
  exact ⟨ret_int HV.out.symm, HP2.out, HS2.out⟩
theorem open_anyO {base P C : Nat} {a : Option Addr} {n c : Nat} {F T : Nat → Int} {w : World} (t : Int) (h : Pl base P C a n c F T w) (hw : Wk F T n) (hb : base ≤ w.heap.size) :
    Calls Try.prog 59 #[.pointer (some ⟨P, 0, none⟩), .int .i64 t] w fun e w' => e = .returned (.bool (openB F T n t)) ∧ Pl base P C a n c F T w' ∧ Only (· = C) w w' := by
  have hcr := created_yes P C w h.bef
  have hh := has_ok a n c F T (t % 604800) w h.sps hw.len hw.good
  have e1 := h.row
  have HO := Lib.hid (show openB F T n t = (decide (0 ≤ t) && (decide (t ≤ 2251799813685248) && hasB F T (t % 604800) n)) from rfl)
  obtain ⟨b, hbb⟩ : ∃ b, hasB F T (t % 604800) n = b := ⟨_, rfl⟩
  rw [hbb] at hh HO
  have HP := Lib.hid h
  clear h hbb
  by_cases h0 : 0 ≤ t
  · have d0 : decide (0 ≤ t) = true := decide_eq_true h0
    by_cases h1 : t ≤ 2251799813685248
    · have d1 : decide (t ≤ 2251799813685248) = true := decide_eq_true h1
      rw [d0, d1] at HO
      go_enter Try.func59, Try.ntmps59
      go_wp2_with fail
      refine hcr.mono ?_
      rintro e w' ⟨rfl, rfl⟩
      clear hcr
      go_wp2_with fail
      refine hh.mono ?_
      rintro e w1 ⟨rfl, hb1⟩
      clear hh
      go_wp2_with fail
      go_ret
      exact ⟨ret_bool (by rw [HO.out]; simp), HP.out.kept hb1, Only.below (X := (· = C)) hb1⟩
    · have d1 : decide (t ≤ 2251799813685248) = false := decide_eq_false h1
      rw [d0, d1] at HO
      clear hh
      go_enter Try.func59, Try.ntmps59
      go_wp2_with fail
      refine hcr.mono ?_
      rintro e w' ⟨rfl, rfl⟩
      clear hcr
      go_wp2_with fail
      go_ret
      exact ⟨ret_bool (by rw [HO.out]; rfl), HP.out, Only.refl _ _⟩
  · have d0 : decide (0 ≤ t) = false := decide_eq_false h0
    rw [d0] at HO
    clear hh
    go_enter Try.func59, Try.ntmps59
    go_wp2_with fail
    refine hcr.mono ?_
    rintro e w' ⟨rfl, rfl⟩
    clear hcr
    go_wp2_with fail
    go_ret
    exact ⟨ret_bool (by rw [HO.out]; rfl), HP.out, Only.refl _ _⟩
/-- What the plan's Nth leaves behind. -/
def NthGotO (base P C : Nat) (a : Option Addr) (n c : Nat) (F T : Nat → Int) (v e : Int) (w : World) (E : Ending) (w' : World) : Prop :=
  E = .returned (.tuple #[.int .i64 v, .int .i64 e]) ∧ Pl base P C a n c F T w' ∧ Only (· = C) w w'
set_option maxRecDepth 100000 in
set_option maxHeartbeats 8000000 in
theorem nth_planO {base P C : Nat} {a : Option Addr} {n c : Nat} {F T : Nat → Int} {w : World} (m : Int) (h : Pl base P C a n c F T w) (hw : Wk F T n) (hb : base ≤ w.heap.size) (hm1 : m ≤ 9223372036854775807) :
    Calls Try.prog 85 #[.pointer (some ⟨P, 0, none⟩), .int .i64 m] w (NthGotO base P C a n c F T (pnV F T n m) (pnE F T n m) w) := by
  have htot := total_any h hw.len hw.good
  obtain ⟨t0, t1⟩ := hw.total
  have HW := Lib.hid hw
  have HN := Lib.hid (fun h => @pn_neg F T n m h)
  have HCL := Lib.hid (fun h h0 => @pn_closed F T n m h h0)
  have HF := Lib.hid (fun h h0 h1 => @pn_far F T n m h h0 h1)
  have HPA := Lib.hid (fun h h0 h1 h2 => @pn_past F T n m h h0 h1 h2)
  have HOK := Lib.hid (fun h h0 h1 h2 => @pn_ok F T n m h h0 h1 h2)
  have HNB := Lib.hid (fun x (h0 : 0 ≤ x) (h1 : x < tsum F T n) => nth_bounds (m := x) hw h0 h1)
  have HNY := Lib.hid (fun x (h0 : 0 ≤ x) (h1 : x < tsum F T n) w1 (hS : Sps w1 a n F T) => nth_yes a n c F T x w1 hS hw.len hw.good h0 h1)
  obtain ⟨tot, ht⟩ : ∃ x, tsum F T n = x := ⟨_, rfl⟩
  rw [ht] at t0 t1 htot HCL HF HPA HOK HNB HNY
  obtain ⟨v, hv⟩ : ∃ x, pnV F T n m = x := ⟨_, rfl⟩
  obtain ⟨er, he⟩ : ∃ x, pnE F T n m = x := ⟨_, rfl⟩
  rw [hv, he] at HN HCL HF HPA HOK ⊢
  clear h hw ht hv he
  go_enter Try.func85, Try.ntmps85
  go_wp2_with fail
  refine htot.mono ?_
  rintro e w1 ⟨rfl, hP1, hO1⟩
  clear htot
  have hcr := created_yes P C w1 hP1.bef
  have HS1 := Lib.hid (show Only (· = C) w w1 from hO1)
  have hrow := hP1.row
  have HP1 := Lib.hid hP1
  clear hP1 hO1
  by_cases h0 : m < 0
  · have d0 : decide (m < 0) = true := decide_eq_true h0
    obtain ⟨rfl, rfl⟩ := HN.out h0
    go_wp2_with fail
    refine hcr.mono ?_
    rintro e w' ⟨rfl, rfl⟩
    go_wp2_with fail
    go_ret2
    exact ⟨rfl, HP1.out, HS1.out⟩
  have d0 : decide (m < 0) = false := decide_eq_false h0
  have m0 : 0 ≤ m := by omega
  by_cases hz : tot = 0
  · obtain ⟨rfl, rfl⟩ := HCL.out m0 hz
    have d1 : (tot == 0) = true := by simp [hz]
    clear hz
    go_wp2_with fail
    refine hcr.mono ?_
    rintro e w' ⟨rfl, rfl⟩
    go_wp2_with fail
    go_ret2
    exact ⟨rfl, HP1.out, HS1.out⟩
  have d1 : (tot == 0) = false := by simp [hz]
  have t2 : 1 ≤ tot := by omega
  have q0 : 0 ≤ m / tot := Int.ediv_nonneg m0 (by omega)
  have q1 : m / tot ≤ m := Int.ediv_le_self tot m0
  have r0 : 0 ≤ m % tot := Int.emod_nonneg m hz
  have r1 : m % tot < tot := Int.emod_lt_of_pos m (by omega)
  by_cases hf : 3723213977 < m / tot
  · obtain ⟨rfl, rfl⟩ := HF.out m0 hz hf
    have d2 : decide (3723213977 < m / tot) = true := decide_eq_true hf
    clear hz
    go_wp2_with fail
    refine hcr.mono ?_
    rintro e w' ⟨rfl, rfl⟩
    go_wp2_with fail
    go_ret2
    exact ⟨rfl, HP1.out, HS1.out⟩
  have d2 : decide (3723213977 < m / tot) = false := decide_eq_false hf
  have hny := HNY.out (m % tot) r0 r1
  have hnb := HNB.out (m % tot) r0 r1
  have HE : Hid (∀ x, x = nthV F T n (m % tot) → x = nthV F T n (m % tot)) := Lib.hid (fun x h => h)
  have HPA := Lib.hid (HPA.out m0 hz (by omega))
  have HOK := Lib.hid (HOK.out m0 hz (by omega))
  obtain ⟨z, hzz⟩ : ∃ z, nthV F T n (m % tot) = z := ⟨_, rfl⟩
  rw [hzz] at hny hnb HPA HOK
  have z0 := hnb.1
  have z1 := hnb.2
  have HNY := Lib.hid hny
  clear hny hnb HE hzz
  obtain ⟨q, hq⟩ : ∃ q, m / tot = q := ⟨_, rfl⟩
  obtain ⟨r, hr⟩ : ∃ r, m % tot = r := ⟨_, rfl⟩
  have q2 : q ≤ 3723213977 := by omega
  have HQ := Lib.hid hq
  have HR := Lib.hid hr
  rw [hq] at HPA HOK q0
  rw [hr] at r0 r1 HNY
  have hmod : m.tmod tot = r := by rw [Int.tmod_eq_emod_of_nonneg m0, hr]
  have hwr : IntKind.i64.wrap r = r := IntWalk.i64_in _ (by omega)
  have h0w : w1.drew.cell? ⟨P, 0, none⟩ = some (.slice a n c) := hrow
  clear hq hr q1 hf
  go_wp2_with fail
  refine hcr.mono ?_
  rintro e w' ⟨rfl, rfl⟩
  clear hcr
  go_wp2_with fail
  have HY := Lib.hid (HNY.out w1.drew (HP1.out.sps.kept (Below.refl _ _).drew))
  have HPD := Lib.hid (HP1.out.kept (Below.refl _ _).drew)
  have HSD : Hid (Only (· = C) w1 w1.drew) := Lib.hid (Only.refl _ _).drew
  have hbd : base ≤ w1.drew.heap.size := Nat.le_trans hb HS1.out.size
  go_region_held3 (fun w' => w'.cell? ⟨P, 0, none⟩ = some (.slice a n c))
    (first | exact h0w | assumption)
    ((go_at_call 95; refine HY.out.mono ?_; rintro e w8 ⟨rfl, hb8⟩; have hS8 := (HPD.out.kept hb8).row; have HP8 := Lib.hid (HPD.out.kept hb8); have HS8 := Lib.hid (HS1.out.trans (HSD.out.trans (Only.below (X := (· = C)) hb8))); clear hb8))
  all_goals
    have hq := HQ.out
    clear hmod hwr
    by_cases hp : 2251799813685248 < q * 604800 + z
    · have d3 : decide (2251799813685248 < q * 604800 + z) = true := decide_eq_true hp
      obtain ⟨rfl, rfl⟩ := HPA.out hp
      go_wp2_with fail
      go_ret2
      exact ⟨rfl, HP8.out, HS8.out⟩
    · have d3 : decide (2251799813685248 < q * 604800 + z) = false := decide_eq_false hp
      have HV := Lib.hid (HOK.out (by omega))
      go_wp2_with fail
      go_ret2
      exact ⟨ret_two HV.out.1.symm HV.out.2.symm, HP8.out, HS8.out⟩
end Go.Proofs.Ytfeegohjgecjgaa

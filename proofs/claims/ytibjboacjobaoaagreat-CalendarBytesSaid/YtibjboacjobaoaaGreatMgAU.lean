import Derived.Test.YtibjboacjobaoaaGreatMgAT
import Derived.Test.YtibjboacjobaoaaGreatMgAN
namespace Go.Proofs.YtibjboacjobaoaaGreat
open Go.RowKit
/- The plan's methods: Until, Between, Open, Row. -/
open Go.RowKit

/-- A row within a week. -/
structure Wk (F T : Nat → Int) (n : Nat) : Prop where
  len : n ≤ 32
  good : good F T n = true
  week : ∀ k, k < n → T k ≤ 604800
theorem tsum_end {F T : Nat → Int} {n : Nat} (hg : Go.Proofs.YtibjboacjobaoaaGreat.good F T n = true) : ∀ k, k ≤ n → tsum F T k ≤ endF T k := by
  intro k
  induction k with
  | zero => intro _; exact Int.le_refl _
  | succ k ih =>
    intro hk
    have h := ih (by omega)
    obtain ⟨g0, g1, g2, g3⟩ := good_at hg (show k < n by omega)
    have e : endF T (k + 1) = T k := rfl
    have e2 : endF T k ≤ F k := by
      cases k with
      | zero => exact g0
      | succ k =>
        have e3 : k + 1 - 1 = k := rfl
        rw [e3] at g3
        show T k ≤ _
        omega
    simp only [tsum]
    omega
theorem Wk.total {F T : Nat → Int} {n : Nat} (h : Wk F T n) : 0 ≤ tsum F T n ∧ tsum F T n ≤ 604800 := by
  refine ⟨(tsum_bounds h.good n (Nat.le_refl _)).1, ?_⟩
  have h1 := tsum_end h.good n (Nat.le_refl _)
  cases n with
  | zero => show (0 : Int) ≤ _; omega
  | succ n =>
    have h2 := h.week n (by omega)
    have e : endF T (n + 1) = T n := rfl
    omega
theorem wsum_le {F T : Nat → Int} {n : Nat} (t : Int) (hg : good F T n = true) : ∀ k, k ≤ n → 0 ≤ wsum F T 0 t k ∧ wsum F T 0 t k ≤ tsum F T k := by
  intro k
  induction k with
  | zero => intro _; exact ⟨Int.le_refl _, Int.le_refl _⟩
  | succ k ih =>
    intro hk
    obtain ⟨h1, h2⟩ := ih (by omega)
    obtain ⟨g0, g1, g2, _⟩ := good_at hg (show k < n by omega)
    have := clip_bounds (F k) (T k) 0 t g0 g1 g2
    simp only [wsum, tsum]
    omega
def cl (t : Int) : Int := min (max t 0) 2251799813685248
theorem cl_bounds (t : Int) : 0 ≤ cl t ∧ cl t ≤ 2251799813685248 := by unfold cl; omega
/-- How many open seconds there are before t. -/
def untilV (F T : Nat → Int) (n : Nat) (t : Int) : Int := cl t / 604800 * tsum F T n + wsum F T 0 (cl t % 604800) n
theorem until_bounds {F T : Nat → Int} {n : Nat} (h : Wk F T n) (t : Int) : 0 ≤ cl t / 604800 * tsum F T n ∧ cl t / 604800 * tsum F T n ≤ 2251800000000000 ∧ 0 ≤ untilV F T n t ∧ untilV F T n t ≤ 2251800000604800 := by
  obtain ⟨h1, h2⟩ := cl_bounds t
  obtain ⟨h3, h4⟩ := h.total
  obtain ⟨h5, h6⟩ := wsum_le (cl t % 604800) h.good n (Nat.le_refl _)
  have q0 : 0 ≤ cl t / 604800 := by omega
  have q1 : cl t / 604800 ≤ 3723213977 := by omega
  have m0 : 0 ≤ cl t / 604800 * tsum F T n := Int.mul_nonneg q0 h3
  have m1 : cl t / 604800 * tsum F T n ≤ 3723213977 * 604800 := Int.mul_le_mul q1 h4 h3 (by omega)
  unfold untilV
  omega

set_option maxRecDepth 100000 in
set_option maxHeartbeats 4000000 in
theorem until_any {base P C : Nat} {a : Option Addr} {n c : Nat} {F T : Nat → Int} {w : World} (t : Int) (h : Pl base P C a n c F T w) (hw : Wk F T n) (hb : base ≤ w.heap.size) :
    Calls Tryz.prog 122 #[.pointer (some ⟨P, 0, none⟩), .int .i64 t] w fun e w' => e = .returned (.int .i64 (untilV F T n t)) ∧ Pl base P C a n c F T w' ∧ Stays base w w' := by
  have hcr := created_yes P C w h.bef
  have htot := total_any h hw.len hw.good
  have HB := Lib.hid (until_bounds hw t)
  obtain ⟨t0, t1⟩ := hw.total
  obtain ⟨x0, x1⟩ := cl_bounds t
  have HU := Lib.hid (show untilV F T n t = cl t / 604800 * tsum F T n + wsum F T 0 (cl t % 604800) n from rfl)
  have HWL := Lib.hid (wsum_le (cl t % 604800) hw.good n (Nat.le_refl _))
  have hx : min (max t 0) 2251799813685248 = cl t := rfl
  obtain ⟨x, hcl⟩ : ∃ x, cl t = x := ⟨_, rfl⟩
  rw [hcl] at x0 x1 HU HB HWL hx
  obtain ⟨tot, ht⟩ : ∃ x, tsum F T n = x := ⟨_, rfl⟩
  rw [ht] at t0 t1 htot HB HU HWL
  have HX := Lib.hid hx
  have HW := Lib.hid hw
  clear h hcl hw hx ht
  have y0 : 0 ≤ min (max t 0) 2251799813685248 := by omega
  have y1 : min (max t 0) 2251799813685248 ≤ 2251799813685248 := by omega
  go_enter Tryz.func122, Tryz.ntmps122
  go_wp2_with fail
  refine hcr.mono ?_
  rintro e w' ⟨rfl, rfl⟩
  clear hcr
  go_wp2_with fail
  rw [HX.out]
  clear y0 y1
  obtain ⟨q, hq⟩ : ∃ q, x / 604800 = q := ⟨_, rfl⟩
  have q0 : 0 ≤ q := by omega
  have q1 : q ≤ 3723213977 := by omega
  obtain ⟨r, hr⟩ : ∃ r, x % 604800 = r := ⟨_, rfl⟩
  have r0 : 0 ≤ r := by omega
  have r1 : r ≤ 604799 := by omega
  rw [hq] at HU HB ⊢
  rw [hr] at HU HWL
  obtain ⟨m0, m1, _, _⟩ := HB.out
  have HR := Lib.hid hr
  clear hq hr
  refine htot.mono ?_
  rintro e w1 ⟨rfl, hP1, hO1⟩
  clear htot
  have hwi := within_plan r hP1 HW.out.len HW.out.good (Nat.le_trans hb hO1.size) r0 (by omega)
  obtain ⟨z, hz⟩ : ∃ z, wsum F T 0 r n = z := ⟨_, rfl⟩
  rw [hz] at hwi HU HWL
  obtain ⟨z0, z1⟩ := HWL.out
  have z2 : z ≤ 604800 := by omega
  have HS1 := Lib.hid (show Stays base w w1 from ⟨hO1.size, fun W0 h => h.trans (hO1.toBelow hb fun k hk => by subst hk; exact hP1.hC)⟩)
  clear hP1 hO1 hz
  go_wp2_with fail
  rw [HR.out]
  refine hwi.mono ?_
  rintro e w2 ⟨rfl, hP2, hS2⟩
  have HP2 := Lib.hid hP2
  have HS2 := Lib.hid (HS1.out.trans hS2)
  clear hwi hP2 hS2
  go_wp2_with fail
  go_ret
  exact ⟨ret_int HU.out.symm, HP2.out, HS2.out⟩

theorem until_nil (t : Int) (w : World) : Calls Tryz.prog 122 #[.pointer none, .int .i64 t] w fun e w' => e = .returned (.int .i64 0) ∧ w = w' := by
  have hcr := created_nil w
  go_enter Tryz.func122, Tryz.ntmps122
  go_wp2_with fail
  refine hcr.mono ?_
  rintro e w' ⟨rfl, rfl⟩
  go_wp2_with fail
  go_ret
  exact ⟨rfl, rfl⟩
theorem until_no (P : Nat) (t : Int) (w : World) (h : w.cell? ⟨P, 1, none⟩ = some (.pointer none)) : Calls Tryz.prog 122 #[.pointer (some ⟨P, 0, none⟩), .int .i64 t] w fun e w' => e = .returned (.int .i64 0) ∧ w = w' := by
  have hcr := created_no P w h
  go_enter Tryz.func122, Tryz.ntmps122
  go_wp2_with fail
  refine hcr.mono ?_
  rintro e w' ⟨rfl, rfl⟩
  go_wp2_with fail
  go_ret
  exact ⟨rfl, rfl⟩

def betweenV (F T : Nat → Int) (n : Nat) (x y : Int) : Int := max 0 (untilV F T n y - untilV F T n x)
theorem between_any {base P C : Nat} {a : Option Addr} {n c : Nat} {F T : Nat → Int} {w : World} (x y : Int) (h : Pl base P C a n c F T w) (hw : Wk F T n) (hb : base ≤ w.heap.size) :
    Calls Tryz.prog 119 #[.pointer (some ⟨P, 0, none⟩), .int .i64 x, .int .i64 y] w fun e w' => e = .returned (.int .i64 (betweenV F T n x y)) ∧ Pl base P C a n c F T w' ∧ Stays base w w' := by
  have h1 := until_any y h hw hb
  have HX := Lib.hid (fun w1 (h : Pl base P C a n c F T w1) (hb : base ≤ w1.heap.size) => until_any x h hw hb)
  obtain ⟨_, _, b0, b1⟩ := until_bounds hw y
  obtain ⟨_, _, b2, b3⟩ := until_bounds hw x
  have HV := Lib.hid (show betweenV F T n x y = max 0 (untilV F T n y - untilV F T n x) from rfl)
  obtain ⟨u, hu⟩ : ∃ u, untilV F T n y = u := ⟨_, rfl⟩
  obtain ⟨v, hv⟩ : ∃ u, untilV F T n x = u := ⟨_, rfl⟩
  rw [hu] at b0 b1 HV h1
  rw [hv] at b2 b3 HV
  have HE := Lib.hid hv
  clear h hw hu hv
  go_enter Tryz.func119, Tryz.ntmps119
  go_wp2_with fail
  refine h1.mono ?_
  rintro e w1 ⟨rfl, hP1, hS1⟩
  have h2 := HX.out w1 hP1 (Nat.le_trans hb hS1.1)
  rw [HE.out] at h2
  have HS1 := Lib.hid hS1
  clear h1 hP1 hS1
  go_wp2_with fail
  refine h2.mono ?_
  rintro e w2 ⟨rfl, hP2, hS2⟩
  have HP2 := Lib.hid hP2
  have HS2 := Lib.hid (HS1.out.trans hS2)
  clear h2 hP2 hS2
  go_wp2_with fail
  go_ret
  exact ⟨ret_int HV.out.symm, HP2.out, HS2.out⟩
theorem between_nil (x y : Int) (w : World) : Calls Tryz.prog 119 #[.pointer none, .int .i64 x, .int .i64 y] w fun e w' => e = .returned (.int .i64 0) ∧ w = w' := by
  have h := fun t => until_nil t w
  go_enter Tryz.func119, Tryz.ntmps119
  go_wp2_with (go_at_call 122; refine (h _).mono ?_; rintro e w' ⟨rfl, rfl⟩)
  go_ret
  exact ⟨rfl, rfl⟩
theorem between_no (P : Nat) (x y : Int) (w : World) (hc : w.cell? ⟨P, 1, none⟩ = some (.pointer none)) : Calls Tryz.prog 119 #[.pointer (some ⟨P, 0, none⟩), .int .i64 x, .int .i64 y] w fun e w' => e = .returned (.int .i64 0) ∧ w = w' := by
  have h := fun t => until_no P t w hc
  go_enter Tryz.func119, Tryz.ntmps119
  go_wp2_with (go_at_call 122; refine (h _).mono ?_; rintro e w' ⟨rfl, rfl⟩)
  go_ret
  exact ⟨rfl, rfl⟩

/-- Whether a second is open. -/
def openB (F T : Nat → Int) (n : Nat) (t : Int) : Bool := decide (0 ≤ t) && (decide (t ≤ 2251799813685248) && hasB F T (t % 604800) n)
/-- The plan's row, copied. -/
def RowOf (base P C : Nat) (a : Option Addr) (n c : Nat) (F T : Nat → Int) (w : World) (e : Ending) (w' : World) : Prop := ∃ v, e = .returned v ∧ OS w' w.heap.size v (pairs F T n) ∧ Pl base P C a n c F T w' ∧ Below w.heap.size w w'
theorem row_plan {base P C : Nat} {a : Option Addr} {n c : Nat} {F T : Nat → Int} {w : World} (h : Pl base P C a n c F T w) (hw : Wk F T n) :
    Calls Tryz.prog 103 #[.pointer (some ⟨P, 0, none⟩)] w (RowOf base P C a n c F T w) := by
  have hcr := created_yes P C w h.bef
  have hcl := clone_any a n c F T w h.sps (by have := hw.len; omega)
  have e1 := h.row
  have HP := Lib.hid h
  clear h
  go_enter Tryz.func103, Tryz.ntmps103
  go_wp2_with fail
  refine hcr.mono ?_
  rintro e w' ⟨rfl, rfl⟩
  clear hcr
  go_wp2_with fail
  refine hcl.mono ?_
  rintro e w1 ⟨v, rfl, hO, hb1⟩
  have HO := Lib.hid hO
  clear hcl hO
  go_wp2_with fail
  go_ret
  exact ⟨v, rfl, HO.out, HP.out.kept hb1, hb1⟩
theorem row_nil (w : World) : Calls Tryz.prog 103 #[.pointer none] w fun e w' => e = .returned (.slice none 0 0) ∧ w = w' := by
  have hcr := created_nil w
  go_enter Tryz.func103, Tryz.ntmps103
  go_wp2_with (go_at_call 114; refine hcr.mono ?_; rintro e w' ⟨rfl, rfl⟩)
  go_ret
  exact ⟨rfl, rfl⟩
theorem row_no (P : Nat) (w : World) (h : w.cell? ⟨P, 1, none⟩ = some (.pointer none)) : Calls Tryz.prog 103 #[.pointer (some ⟨P, 0, none⟩)] w fun e w' => e = .returned (.slice none 0 0) ∧ w = w' := by
  have hcr := created_no P w h
  go_enter Tryz.func103, Tryz.ntmps103
  go_wp2_with (go_at_call 114; refine hcr.mono ?_; rintro e w' ⟨rfl, rfl⟩)
  go_ret
  exact ⟨rfl, rfl⟩
/- The plan's Nth; New. -/
open Go.RowKit

/-- Nth's answer: the second, and an error's number. -/
def pnV (F T : Nat → Int) (n : Nat) (m : Int) : Int :=
  if m < 0 then 0 else if tsum F T n = 0 then 0 else if 3723213977 < m / tsum F T n then 0 else
    if 2251799813685248 < m / tsum F T n * 604800 + nthV F T n (m % tsum F T n) then 0 else m / tsum F T n * 604800 + nthV F T n (m % tsum F T n)
def pnE (F T : Nat → Int) (n : Nat) (m : Int) : Int :=
  if m < 0 then 2 else if tsum F T n = 0 then 40 else if 3723213977 < m / tsum F T n then 10 else
    if 2251799813685248 < m / tsum F T n * 604800 + nthV F T n (m % tsum F T n) then 10 else 0
theorem pn_neg {F T : Nat → Int} {n : Nat} {m : Int} (h : m < 0) : pnV F T n m = 0 ∧ pnE F T n m = 2 := by simp [pnV, pnE, h]
theorem pn_closed {F T : Nat → Int} {n : Nat} {m : Int} (h : 0 ≤ m) (h0 : tsum F T n = 0) : pnV F T n m = 0 ∧ pnE F T n m = 40 := by
  simp [pnV, pnE, h0]; omega
theorem pn_far {F T : Nat → Int} {n : Nat} {m : Int} (h : 0 ≤ m) (h0 : tsum F T n ≠ 0) (h1 : 3723213977 < m / tsum F T n) : pnV F T n m = 0 ∧ pnE F T n m = 10 := by
  unfold pnV pnE
  rw [if_neg (by omega), if_neg h0, if_pos h1, if_neg (by omega), if_neg h0, if_pos h1]
  exact ⟨rfl, rfl⟩
theorem pn_past {F T : Nat → Int} {n : Nat} {m : Int} (h : 0 ≤ m) (h0 : tsum F T n ≠ 0) (h1 : ¬ 3723213977 < m / tsum F T n) (h2 : 2251799813685248 < m / tsum F T n * 604800 + nthV F T n (m % tsum F T n)) : pnV F T n m = 0 ∧ pnE F T n m = 10 := by
  unfold pnV pnE
  rw [if_neg (by omega), if_neg h0, if_neg h1, if_pos h2, if_neg (by omega), if_neg h0, if_neg h1, if_pos h2]
  exact ⟨rfl, rfl⟩
theorem pn_ok {F T : Nat → Int} {n : Nat} {m : Int} (h : 0 ≤ m) (h0 : tsum F T n ≠ 0) (h1 : ¬ 3723213977 < m / tsum F T n) (h2 : ¬ 2251799813685248 < m / tsum F T n * 604800 + nthV F T n (m % tsum F T n)) :
    pnV F T n m = m / tsum F T n * 604800 + nthV F T n (m % tsum F T n) ∧ pnE F T n m = 0 := by
  unfold pnV pnE
  rw [if_neg (by omega), if_neg h0, if_neg h1, if_neg h2, if_neg (by omega), if_neg h0, if_neg h1, if_neg h2]
  exact ⟨rfl, rfl⟩
theorem nth_bounds {F T : Nat → Int} {n : Nat} {m : Int} (h : Wk F T n) (h0 : 0 ≤ m) (h1 : m < tsum F T n) : 0 ≤ nthV F T n m ∧ nthV F T n m < 604800 := by
  obtain ⟨k, hk, h2, h3⟩ := tsum_find n h0 h1
  have e := nthV_at h.good hk h2 h3
  have h4 : tsum F T (k + 1) = tsum F T k + (T k - F k) := rfl
  have h5 := h.week k hk
  obtain ⟨g0, g1, g2, _⟩ := good_at h.good hk
  omega

/-- What the plan's Nth leaves behind. -/
def NthGot (base P C : Nat) (a : Option Addr) (n c : Nat) (F T : Nat → Int) (v e : Int) (w : World) (E : Ending) (w' : World) : Prop :=
  E = .returned (.tuple #[.int .i64 v, .int .i64 e]) ∧ Pl base P C a n c F T w' ∧ Stays base w w'
set_option maxRecDepth 100000 in
set_option maxHeartbeats 8000000 in
theorem nth_plan {base P C : Nat} {a : Option Addr} {n c : Nat} {F T : Nat → Int} {w : World} (m : Int) (h : Pl base P C a n c F T w) (hw : Wk F T n) (hb : base ≤ w.heap.size) (hm1 : m ≤ 9223372036854775807) :
    Calls Tryz.prog 121 #[.pointer (some ⟨P, 0, none⟩), .int .i64 m] w (NthGot base P C a n c F T (pnV F T n m) (pnE F T n m) w) := by
  have htot := total_any h hw.len hw.good
  obtain ⟨t0, t1⟩ := hw.total
  have HW := Lib.hid hw
  have HN := Lib.hid (fun h => @pn_neg F T n m h)
  have HCL := Lib.hid (fun h h0 => @pn_closed F T n m h h0)
  have HF := Lib.hid (fun h h0 h1 => @pn_far F T n m h h0 h1)
  have HPA := Lib.hid (fun h h0 h1 h2 => @pn_past F T n m h h0 h1 h2)
  have HOK := Lib.hid (fun h h0 h1 h2 => @pn_ok F T n m h h0 h1 h2)
  have HNB := Lib.hid (fun x (h0 : 0 ≤ x) (h1 : x < tsum F T n) => nth_bounds (m := x) hw h0 h1)
  have HNY := Lib.hid (fun x (h0 : 0 ≤ x) (h1 : x < tsum F T n) w1 (hS : Sps w1 a n F T) => nth_yes a n c F T x w1 hS hw.len hw.good h0 h1)
  obtain ⟨tot, ht⟩ : ∃ x, tsum F T n = x := ⟨_, rfl⟩
  rw [ht] at t0 t1 htot HCL HF HPA HOK HNB HNY
  obtain ⟨v, hv⟩ : ∃ x, pnV F T n m = x := ⟨_, rfl⟩
  obtain ⟨er, he⟩ : ∃ x, pnE F T n m = x := ⟨_, rfl⟩
  rw [hv, he] at HN HCL HF HPA HOK ⊢
  clear h hw ht hv he
  go_enter Tryz.func121, Tryz.ntmps121
  go_wp2_with fail
  refine htot.mono ?_
  rintro e w1 ⟨rfl, hP1, hO1⟩
  clear htot
  have hcr := created_yes P C w1 hP1.bef
  have HS1 := Lib.hid (show Stays base w w1 from ⟨hO1.size, fun W0 h => h.trans (hO1.toBelow hb fun k hk => by subst hk; exact hP1.hC)⟩)
  have hrow := hP1.row
  have HP1 := Lib.hid hP1
  clear hP1 hO1
  by_cases h0 : m < 0
  · have d0 : decide (m < 0) = true := decide_eq_true h0
    obtain ⟨rfl, rfl⟩ := HN.out h0
    go_wp2_with fail
    refine hcr.mono ?_
    rintro e w' ⟨rfl, rfl⟩
    go_wp2_with fail
    go_ret2
    exact ⟨rfl, HP1.out, HS1.out⟩
  have d0 : decide (m < 0) = false := decide_eq_false h0
  have m0 : 0 ≤ m := by omega
  by_cases hz : tot = 0
  · obtain ⟨rfl, rfl⟩ := HCL.out m0 hz
    have d1 : (tot == 0) = true := by simp [hz]
    clear hz
    go_wp2_with fail
    refine hcr.mono ?_
    rintro e w' ⟨rfl, rfl⟩
    go_wp2_with fail
    go_ret2
    exact ⟨rfl, HP1.out, HS1.out⟩
  have d1 : (tot == 0) = false := by simp [hz]
  have t2 : 1 ≤ tot := by omega
  have q0 : 0 ≤ m / tot := Int.ediv_nonneg m0 (by omega)
  have q1 : m / tot ≤ m := Int.ediv_le_self tot m0
  have r0 : 0 ≤ m % tot := Int.emod_nonneg m hz
  have r1 : m % tot < tot := Int.emod_lt_of_pos m (by omega)
  by_cases hf : 3723213977 < m / tot
  · obtain ⟨rfl, rfl⟩ := HF.out m0 hz hf
    have d2 : decide (3723213977 < m / tot) = true := decide_eq_true hf
    clear hz
    go_wp2_with fail
    refine hcr.mono ?_
    rintro e w' ⟨rfl, rfl⟩
    go_wp2_with fail
    go_ret2
    exact ⟨rfl, HP1.out, HS1.out⟩
  have d2 : decide (3723213977 < m / tot) = false := decide_eq_false hf
  have hny := HNY.out (m % tot) r0 r1
  have hnb := HNB.out (m % tot) r0 r1
  have HE : Hid (∀ x, x = nthV F T n (m % tot) → x = nthV F T n (m % tot)) := Lib.hid (fun x h => h)
  have HPA := Lib.hid (HPA.out m0 hz (by omega))
  have HOK := Lib.hid (HOK.out m0 hz (by omega))
  obtain ⟨z, hzz⟩ : ∃ z, nthV F T n (m % tot) = z := ⟨_, rfl⟩
  rw [hzz] at hny hnb HPA HOK
  have z0 := hnb.1
  have z1 := hnb.2
  have HNY := Lib.hid hny
  clear hny hnb HE hzz
  obtain ⟨q, hq⟩ : ∃ q, m / tot = q := ⟨_, rfl⟩
  obtain ⟨r, hr⟩ : ∃ r, m % tot = r := ⟨_, rfl⟩
  have q2 : q ≤ 3723213977 := by omega
  have HQ := Lib.hid hq
  have HR := Lib.hid hr
  rw [hq] at HPA HOK q0
  rw [hr] at r0 r1 HNY
  have hmod : m.tmod tot = r := by rw [Int.tmod_eq_emod_of_nonneg m0, hr]
  have hwr : IntKind.i64.wrap r = r := IntWalk.i64_in _ (by omega)
  have h0w : w1.drew.cell? ⟨P, 0, none⟩ = some (.slice a n c) := hrow
  clear hq hr q1 hf
  go_wp2_with fail
  refine hcr.mono ?_
  rintro e w' ⟨rfl, rfl⟩
  clear hcr
  go_wp2_with fail
  have HY := Lib.hid (HNY.out w1.drew (HP1.out.sps.kept (Below.refl _ _).drew))
  have HPD := Lib.hid (HP1.out.kept (Below.refl _ _).drew)
  have HSD : Hid (Stays base w1 w1.drew) := Lib.hid ⟨Nat.le_refl _, fun W0 h => h.drew⟩
  have hbd : base ≤ w1.drew.heap.size := Nat.le_trans hb HS1.out.1
  go_region_held3 (fun w' => w'.cell? ⟨P, 0, none⟩ = some (.slice a n c))
    (first | exact h0w | assumption)
    ((go_at_call 137; refine HY.out.mono ?_; rintro e w8 ⟨rfl, hb8⟩; have hS8 := (HPD.out.kept hb8).row; have HP8 := Lib.hid (HPD.out.kept hb8); have HS8 := Lib.hid (HS1.out.trans (HSD.out.trans (Stays.below hbd hb8))); clear hb8))
  all_goals
    have hq := HQ.out
    clear hmod hwr
    by_cases hp : 2251799813685248 < q * 604800 + z
    · have d3 : decide (2251799813685248 < q * 604800 + z) = true := decide_eq_true hp
      obtain ⟨rfl, rfl⟩ := HPA.out hp
      go_wp2_with fail
      go_ret2
      exact ⟨rfl, HP8.out, HS8.out⟩
    · have d3 : decide (2251799813685248 < q * 604800 + z) = false := decide_eq_false hp
      have HV := Lib.hid (HOK.out (by omega))
      go_wp2_with fail
      go_ret2
      exact ⟨ret_two HV.out.1.symm HV.out.2.symm, HP8.out, HS8.out⟩
theorem nth_plan_nil (m : Int) (w : World) : Calls Tryz.prog 121 #[.pointer none, .int .i64 m] w fun e w' => e = .returned (.tuple #[.int .i64 0, .int .i64 1]) ∧ w = w' := by
  have h1 := total_nil w
  have h2 := created_nil w
  go_enter Tryz.func121, Tryz.ntmps121
  go_wp2_with (first
    | (go_at_call 92; refine h1.mono ?_; rintro e w' ⟨rfl, rfl⟩)
    | (go_at_call 114; refine h2.mono ?_; rintro e w' ⟨rfl, rfl⟩))
  go_ret2
  exact ⟨rfl, rfl⟩
theorem nth_plan_no (P : Nat) (m : Int) (w : World) (h : w.cell? ⟨P, 1, none⟩ = some (.pointer none)) : Calls Tryz.prog 121 #[.pointer (some ⟨P, 0, none⟩), .int .i64 m] w fun e w' => e = .returned (.tuple #[.int .i64 0, .int .i64 1]) ∧ w = w' := by
  have h1 := total_no P w h
  have h2 := created_no P w h
  go_enter Tryz.func121, Tryz.ntmps121
  go_wp2_with (first
    | (go_at_call 92; refine h1.mono ?_; rintro e w' ⟨rfl, rfl⟩)
    | (go_at_call 114; refine h2.mono ?_; rintro e w' ⟨rfl, rfl⟩))
  go_ret2
  exact ⟨rfl, rfl⟩
/- New, and the reference's Wrong. -/
open Go.RowKit

def weekB (T : Nat → Int) : Nat → Bool
  | 0 => true
  | k + 1 => weekB T k && decide (T k ≤ 604800)
theorem weekB_iff {T : Nat → Int} : ∀ n, weekB T n = true ↔ ∀ k, k < n → T k ≤ 604800 := by
  intro n
  induction n with
  | zero => simp [weekB]
  | succ n ih =>
    simp only [weekB, Bool.and_eq_true, ih, decide_eq_true_eq]
    constructor
    · rintro ⟨h1, h2⟩ k hk
      by_cases e : k = n
      · subst e; exact h2
      · exact h1 k (by omega)
    · intro h
      exact ⟨fun k hk => h k (by omega), h n (by omega)⟩
/-- New's number. -/
def wrongE (F T : Nat → Int) (n : Nat) : Int := if rowE F T n = 0 then (if weekB T n = true then 0 else 2) else rowE F T n
theorem Sps.congr {w : World} {a : Option Addr} {n : Nat} {F T F' T' : Nat → Int} (h : Sps w a n F T) (he : ∀ k, k < n → F k = F' k ∧ T k = T' k) : Sps w a n F' T' := by
  refine ⟨h.1, fun hp => ?_⟩
  obtain ⟨ab, ao, e, hl, hc⟩ := h.2 hp
  exact ⟨ab, ao, e, hl, fun k hk => by rw [← (he k hk).1, ← (he k hk).2]; exact hc k hk⟩

/-- A plan made. -/
def Planned (n : Nat) (F T : Nat → Int) (w : World) (e : Ending) (w' : World) : Prop :=
  ∃ P C a c, e = .returned (.tuple #[.pointer (some ⟨P, 0, none⟩), .int .i64 0]) ∧ Pl w.heap.size P C a n c F T w' ∧ Below w.heap.size w w'
set_option maxRecDepth 100000 in
set_option maxHeartbeats 4000000 in
theorem new_ok (a : Option Addr) (n cap : Nat) (F T : Nat → Int) (w : World) (hS : Sps w a n F T) (hw : Wk F T n) :
    Calls Tryz.prog 88 #[.slice a n cap] w (Planned n F T w) := by
  have hr := row_any a n cap F T w hS
  rw [rowE_ok hw.len hw.good] at hr
  have HC := Lib.hid hS
  have HW := Lib.hid hw
  have hm := hw.len
  -- the clone, the plan's block, the cell
  have key : ∀ (w2 : World) (va : Option Addr) (vc : Nat) (w1 : World), OS w2 w1.heap.size (.slice va n vc) (pairs F T n) → Below w.heap.size w w1 → Below w1.heap.size w1 w2 →
      Pl w.heap.size w2.heap.size (w2.heap.size + 1) va n vc F T ((w2.alloc (.cells #[.slice va n vc, .pointer (some ⟨w2.heap.size + 1, 0, none⟩)] 194)).alloc (.cells #[.func (.func 113) #[.pointer (some ⟨w2.heap.size, 0, none⟩)] #[], .int .u32 0, .int .i32 0, .int .u32 0, .slice none 0 0, .int .u32 0, .int .i64 0] 211)) ∧ Below w.heap.size w ((w2.alloc (.cells #[.slice va n vc, .pointer (some ⟨w2.heap.size + 1, 0, none⟩)] 194)).alloc (.cells #[.func (.func 113) #[.pointer (some ⟨w2.heap.size, 0, none⟩)] #[], .int .u32 0, .int .i32 0, .int .u32 0, .slice none 0 0, .int .u32 0, .int .i64 0] 211)) := by
    intro w2 va vc w1 hO hb1 hb2
    have hsz : w.heap.size ≤ w2.heap.size := Nat.le_trans hb1.size hb2.size
    have hS2 : Sps w2 va n F T := by
      have h := (hO.sps (by
        intro s hs
        obtain ⟨k, hk, rfl⟩ := pairs_mem.1 hs
        obtain ⟨_, _, _, _, _, _, b⟩ := HC.out.at (Below.refl _ _) k hk
        exact b)).2
      exact h.congr fun k hk => pairs_at F T n k hk
    have hva : ∀ x, 0 < n → va = some x → x.block < w2.heap.size := by
      intro x hp e
      obtain ⟨ab, ao, e2, hl, _⟩ := hS2.2 hp
      rw [e] at e2
      injection e2 with e2
      subst e2
      exact hl
    generalize hW : ((w2.alloc (.cells #[.slice va n vc, .pointer (some ⟨w2.heap.size + 1, 0, none⟩)] 194)).alloc (.cells #[.func (.func 113) #[.pointer (some ⟨w2.heap.size, 0, none⟩)] #[], .int .u32 0, .int .i32 0, .int .u32 0, .slice none 0 0, .int .u32 0, .int .i64 0] 211)) = W
    have B2 : Below w2.heap.size w2 W := by
      rw [← hW]
      exact ((Below.refl _ _).alloc (Nat.le_refl _) _).alloc (by simp) _
    have p0 : W.cell? ⟨w2.heap.size, 0, none⟩ = some (.slice va n vc) := by rw [← hW, World.cell?_alloc_past _ _ _ (by simp)]; simp
    have p1 : W.cell? ⟨w2.heap.size, 1, none⟩ = some (.pointer (some ⟨w2.heap.size + 1, 0, none⟩)) := by rw [← hW, World.cell?_alloc_past _ _ _ (by simp)]; simp
    have cl : ∀ j, W.cell? ⟨w2.heap.size + 1, j, none⟩ = (#[.func (.func 113) #[.pointer (some ⟨w2.heap.size, 0, none⟩)] #[], .int .u32 0, .int .i32 0, .int .u32 0, .slice none 0 0, .int .u32 0, .int .i64 0] : Array Value)[j]? := fun j => by
      rw [← hW, World.cell?_alloc_at _ _ _ _ (by simp)]
    have fz : ∀ j, W.frozen? ⟨w2.heap.size + 1, j, none⟩ = false := fun j => by
      rw [← hW, frozen?_alloc_cells, frozen?_alloc_cells]
      simp [World.frozen?]
    have hWs : W.heap.size = w2.heap.size + 2 := by rw [← hW]; simp
    refine ⟨⟨hsz, by omega, by omega, by omega, p0, p1, hS2.kept B2, fun x hp e => by have := hva x hp e; omega, .inl ⟨0, ?_⟩⟩, (hb1.trans (hb2.mono hb1.size)).trans (B2.mono hsz)⟩
    exact ⟨(cl 0).trans rfl, (cl 1).trans rfl, (cl 2).trans rfl, (cl 4).trans rfl, (cl 5).trans rfl, (cl 6).trans rfl, fz⟩
  have KEY := Lib.hid key
  have hclone : ∀ w1, Below w.heap.size w w1 → Calls Tryz.prog 107 #[.slice a n cap] w1 (Copied (pairs F T n) w1) := fun w1 hb => clone_any a n cap F T w1 (HC.out.kept hb) (by omega)
  have HCL := Lib.hid hclone
  have HLN := Lib.hid (pairs_len F T n)
  clear hS hw key hclone
  cases n with
  | zero =>
    go_enter Tryz.func88, Tryz.ntmps88
    go_wp2_with fail
    refine hr.mono ?_
    rintro e w1 ⟨rfl, hb1⟩
    have hcl := HCL.out w1 hb1
    go_wp2_with fail
    refine hcl.mono ?_
    rintro e w2 ⟨v, rfl, hO, hb2⟩
    obtain ⟨va, vc, rfl, _, _⟩ := hO.shape
    rw [HLN.out] at hO ⊢
    have HK := Lib.hid (KEY.out w2 va vc w1 hO hb1 hb2)
    clear hcl hO hb1 hb2
    go_wp2_with (first | (go_at_call 112; refine (new_fn _ _ _ _).mono ?_; rintro e w' ⟨rfl, rfl⟩))
    go_ret2
    exact ⟨_, _, _, _, rfl, HK.out.1, HK.out.2⟩
  | succ p =>
    have hlast := HW.out.week p (by omega)
    obtain ⟨u, hu⟩ : ∃ u, T p = u := ⟨_, rfl⟩
    rw [hu] at hlast
    have d1 : decide (604800 < u) = false := decide_eq_false (by omega)
    have HU := Lib.hid hu
    clear hu
    go_enter Tryz.func88, Tryz.ntmps88
    go_wp2_with fail
    refine hr.mono ?_
    rintro e w1 ⟨rfl, hb1⟩
    have hcl := HCL.out w1 hb1
    obtain ⟨ab, ao, rfl, hab, _, c1, _⟩ := HC.out.at hb1 p (by omega)
    rw [HU.out] at c1
    have p0 : (0 : Int) ≤ (p : Int) := by omega
    have p1 : (p : Int) < (p : Int) + 1 := by omega
    have p2 : (p : Int) ≤ 32 := by omega
    go_wp2_with fail
    refine hcl.mono ?_
    rintro e w2 ⟨v, rfl, hO, hb2⟩
    obtain ⟨va, vc, rfl, _, _⟩ := hO.shape
    rw [HLN.out] at hO ⊢
    have HK := Lib.hid (KEY.out w2 va vc w1 hO hb1 hb2)
    clear hcl hO hb1 hb2
    go_wp2_with (first | (go_at_call 112; refine (new_fn _ _ _ _).mono ?_; rintro e w' ⟨rfl, rfl⟩))
    go_ret2
    exact ⟨_, _, _, _, rfl, HK.out.1, HK.out.2⟩
set_option maxRecDepth 100000 in
set_option maxHeartbeats 4000000 in
/-- New, where the row is no plan's. -/
theorem new_bad (a : Option Addr) (n cap : Nat) (F T : Nat → Int) (w : World) (hS : Sps w a n F T) (hw : (rowE F T n != 0) = true) :
    Calls Tryz.prog 88 #[.slice a n cap] w fun e w' => e = .returned (.tuple #[.pointer none, .int .i64 (rowE F T n)]) ∧ Below w.heap.size w w' := by
  have hr := row_any a n cap F T w hS
  clear hS
  generalize rowE F T n = z at hr hw ⊢
  go_enter Tryz.func88, Tryz.ntmps88
  go_wp2_with fail
  refine hr.mono ?_
  rintro e w1 ⟨rfl, hb1⟩
  clear hr
  go_wp2_with fail
  go_ret2
  exact ⟨rfl, hb1⟩
set_option maxRecDepth 100000 in
set_option maxHeartbeats 4000000 in
/-- New, where a span extends beyond a week. -/
theorem new_long (a : Option Addr) (p cap : Nat) (F T : Nat → Int) (w : World) (hS : Sps w a (p + 1) F T) (hn : p + 1 ≤ 32) (hg : good F T (p + 1) = true) (hw : 604800 < T p) :
    Calls Tryz.prog 88 #[.slice a (p + 1) cap] w fun e w' => e = .returned (.tuple #[.pointer none, .int .i64 2]) ∧ Below w.heap.size w w' := by
  have hr := row_any a (p + 1) cap F T w hS
  rw [rowE_ok hn hg] at hr
  have HC := Lib.hid hS
  obtain ⟨u, hu⟩ : ∃ u, T p = u := ⟨_, rfl⟩
  rw [hu] at hw
  have d1 : decide (604800 < u) = true := decide_eq_true (by omega)
  have HU := Lib.hid hu
  clear hu hS hg
  go_enter Tryz.func88, Tryz.ntmps88
  go_wp2_with fail
  refine hr.mono ?_
  rintro e w1 ⟨rfl, hb1⟩
  clear hr
  obtain ⟨ab, ao, rfl, hab, _, c1, _⟩ := HC.out.at hb1 p (by omega)
  rw [HU.out] at c1
  have p0 : (0 : Int) ≤ (p : Int) := by omega
  have p1 : (p : Int) < (p : Int) + 1 := by omega
  have p2 : (p : Int) ≤ 32 := by omega
  go_wp2_with fail
  go_ret2
  exact ⟨rfl, hb1⟩

set_option maxRecDepth 100000 in
set_option maxHeartbeats 4000000 in
/-- The reference's number of a row. -/
theorem wrong_any (a : Option Addr) (n cap : Nat) (F T : Nat → Int) (w : World) (hS : Sps w a n F T) :
    Calls Tryz.prog 50 #[.slice a n cap] w fun e w' => e = .returned (.int .i64 (wrongE F T n)) ∧ Below w.heap.size w w' := by
  have hm := hS.1
  unfold maxLen at hm
  have hr := rrow_any a n cap F T w hS
  have HC := Lib.hid hS
  clear hS
  by_cases hz : rowE F T n = 0
  · have HV := Lib.hid (show wrongE F T n = if weekB T n = true then 0 else 2 by unfold wrongE; rw [if_pos hz])
    rw [hz] at hr
    clear hz
    go_enter Tryz.func50, Tryz.ntmps50
    go_wp2_with fail
    refine hr.mono ?_
    rintro e w1 ⟨rfl, hb1⟩
    clear hr
    have HB1 := Lib.hid hb1
    clear hb1
    go_wp2_with fail
    go_loopw [4] (fun i wr => ∃ k : Nat, k ≤ n ∧ i = .int .i64 k ∧ weekB T k = true ∧ wr = w1) (fun i _ => n - (intOf i).toNat)
    case atStart => exact ⟨0, Nat.zero_le _, rfl, rfl, rfl⟩
    case round =>
      obtain ⟨k, hk, rfl, hwk, rfl⟩ := hrel
      by_cases hlt : k < n
      · obtain ⟨ab, ao, rfl, hab, _, c1, _⟩ := HC.out.at HB1.out k hlt
        have HK : Hid (weekB T (k + 1) = decide (T k ≤ 604800)) := Lib.hid (by simp [weekB, hwk])
        have HX := Lib.hid (fun h => (weekB_iff (T := T) n).1 h k hlt)
        obtain ⟨u, hu⟩ : ∃ u, T k = u := ⟨_, rfl⟩
        rw [hu] at c1 HK HX
        clear hu hwk
        have k0 : (0 : Int) ≤ (k : Int) := by omega
        have kl : (k : Int) < (n : Int) := by omega
        have d4 : decide ((k : Int) < (n : Int)) = true := by simp [hlt]
        by_cases hlw : u ≤ 604800
        · have d5 : decide (604800 < u) = false := decide_eq_false (by omega)
          go_wp2_with fail
          go_roundw
          case rel => exact ⟨k + 1, hlt, by go_num, by rw [HK.out]; exact decide_eq_true hlw, trivial⟩
          case measure => simp [intOf]; omega
        · have d5 : decide (604800 < u) = true := decide_eq_true (by omega)
          go_wp2_with fail
          go_ret
          exact ⟨ret_int (by rw [HV.out, if_neg (fun h => by have := HX.out h; omega)]), HB1.out⟩
      · obtain rfl : k = n := by omega
        have HWK := Lib.hid hwk
        clear hwk
        go_wp2_with fail
        go_ret
        exact ⟨ret_int (by rw [HV.out, if_pos HWK.out]), HB1.out⟩
  · have HV := Lib.hid (show wrongE F T n = rowE F T n by unfold wrongE; rw [if_neg hz])
    have hz' : (rowE F T n != 0) = true := by simpa using hz
    generalize rowE F T n = z at hr hz' HV
    clear hz
    go_enter Tryz.func50, Tryz.ntmps50
    go_wp2_with fail
    refine hr.mono ?_
    rintro e w1 ⟨rfl, hb1⟩
    clear hr
    go_wp2_with fail
    go_ret
    exact ⟨ret_int HV.out.symm, hb1⟩
end Go.Proofs.YtibjboacjobaoaaGreat

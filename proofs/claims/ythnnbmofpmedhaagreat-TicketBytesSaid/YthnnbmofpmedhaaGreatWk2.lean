import Derived.Test.YthnnbmofpmedhaaGreatWk1
import Derived.Test.YthnnbmofpmedhaaGreatSp1
import Derived.Deep.RegionHeld3
namespace Go.Proofs.YthnnbmofpmedhaaGreat
open Go.RowKit
/- The plan's methods: Until, Between, Open, Row. -/
open Go.RowKit

/-- A row within a week. -/
structure Wk (F T : Nat → Int) (n : Nat) : Prop where
  len : n ≤ 32
  good : good F T n = true
  week : ∀ k, k < n → T k ≤ 604800
theorem tsum_end {F T : Nat → Int} {n : Nat} (hg : Go.Proofs.YthnnbmofpmedhaaGreat.good F T n = true) : ∀ k, k ≤ n → tsum F T k ≤ endF T k := by
  intro k
  induction k with
  | zero => intro _; exact Int.le_refl _
  | succ k ih =>
    intro hk
    have h := ih (by omega)
    obtain ⟨g0, g1, g2, g3⟩ := good_at hg (show k < n by omega)
    have e : endF T (k + 1) = T k := rfl
    have e2 : endF T k ≤ F k := by
      cases k with
      | zero => exact g0
      | succ k =>
        have e3 : k + 1 - 1 = k := rfl
        rw [e3] at g3
        show T k ≤ _
        omega
    simp only [tsum]
    omega
theorem Wk.total {F T : Nat → Int} {n : Nat} (h : Wk F T n) : 0 ≤ tsum F T n ∧ tsum F T n ≤ 604800 := by
  refine ⟨(tsum_bounds h.good n (Nat.le_refl _)).1, ?_⟩
  have h1 := tsum_end h.good n (Nat.le_refl _)
  cases n with
  | zero => show (0 : Int) ≤ _; omega
  | succ n =>
    have h2 := h.week n (by omega)
    have e : endF T (n + 1) = T n := rfl
    omega
theorem wsum_le {F T : Nat → Int} {n : Nat} (t : Int) (hg : good F T n = true) : ∀ k, k ≤ n → 0 ≤ wsum F T 0 t k ∧ wsum F T 0 t k ≤ tsum F T k := by
  intro k
  induction k with
  | zero => intro _; exact ⟨Int.le_refl _, Int.le_refl _⟩
  | succ k ih =>
    intro hk
    obtain ⟨h1, h2⟩ := ih (by omega)
    obtain ⟨g0, g1, g2, _⟩ := good_at hg (show k < n by omega)
    have := clip_bounds (F k) (T k) 0 t g0 g1 g2
    simp only [wsum, tsum]
    omega
def cl (t : Int) : Int := min (max t 0) 2251799813685248
theorem cl_bounds (t : Int) : 0 ≤ cl t ∧ cl t ≤ 2251799813685248 := by unfold cl; omega
/-- How many open seconds there are before t. -/
def untilV (F T : Nat → Int) (n : Nat) (t : Int) : Int := cl t / 604800 * tsum F T n + wsum F T 0 (cl t % 604800) n
theorem until_bounds {F T : Nat → Int} {n : Nat} (h : Wk F T n) (t : Int) : 0 ≤ cl t / 604800 * tsum F T n ∧ cl t / 604800 * tsum F T n ≤ 2251800000000000 ∧ 0 ≤ untilV F T n t ∧ untilV F T n t ≤ 2251800000604800 := by
  obtain ⟨h1, h2⟩ := cl_bounds t
  obtain ⟨h3, h4⟩ := h.total
  obtain ⟨h5, h6⟩ := wsum_le (cl t % 604800) h.good n (Nat.le_refl _)
  have q0 : 0 ≤ cl t / 604800 := by omega
  have q1 : cl t / 604800 ≤ 3723213977 := by omega
  have m0 : 0 ≤ cl t / 604800 * tsum F T n := Int.mul_nonneg q0 h3
  have m1 : cl t / 604800 * tsum F T n ≤ 3723213977 * 604800 := Int.mul_le_mul q1 h4 h3 (by omega)
  unfold untilV
  omega

set_option maxRecDepth 100000 in
set_option maxHeartbeats 4000000 in
theorem until_any {base P C : Nat} {a : Option Addr} {n c : Nat} {F T : Nat → Int} {w : World} (t : Int) (h : Pl base P C a n c F T w) (hw : Wk F T n) (hb : base ≤ w.heap.size) :
    Calls Tryz.prog 90 #[.pointer (some ⟨P, 0, none⟩), .int .i64 t] w fun e w' => e = .returned (.int .i64 (untilV F T n t)) ∧ Pl base P C a n c F T w' ∧ Stays base w w' := by
  have hcr := created_yes P C w h.bef
  have htot := total_any h hw.len hw.good
  have HB := Lib.hid (until_bounds hw t)
  obtain ⟨t0, t1⟩ := hw.total
  obtain ⟨x0, x1⟩ := cl_bounds t
  have HU := Lib.hid (show untilV F T n t = cl t / 604800 * tsum F T n + wsum F T 0 (cl t % 604800) n from rfl)
  have HWL := Lib.hid (wsum_le (cl t % 604800) hw.good n (Nat.le_refl _))
  have hx : min (max t 0) 2251799813685248 = cl t := rfl
  obtain ⟨x, hcl⟩ : ∃ x, cl t = x := ⟨_, rfl⟩
  rw [hcl] at x0 x1 HU HB HWL hx
  obtain ⟨tot, ht⟩ : ∃ x, tsum F T n = x := ⟨_, rfl⟩
  rw [ht] at t0 t1 htot HB HU HWL
  have HX := Lib.hid hx
  have HW := Lib.hid hw
  clear h hcl hw hx ht
  have y0 : 0 ≤ min (max t 0) 2251799813685248 := by omega
  have y1 : min (max t 0) 2251799813685248 ≤ 2251799813685248 := by omega
  go_enter Tryz.func90, Tryz.ntmps90
  go_wp2_with fail
  refine hcr.mono ?_
  rintro e w' ⟨rfl, rfl⟩
  clear hcr
  go_wp2_with fail
  rw [HX.out]
  clear y0 y1
  obtain ⟨q, hq⟩ : ∃ q, x / 604800 = q := ⟨_, rfl⟩
  have q0 : 0 ≤ q := by omega
  have q1 : q ≤ 3723213977 := by omega
  obtain ⟨r, hr⟩ : ∃ r, x % 604800 = r := ⟨_, rfl⟩
  have r0 : 0 ≤ r := by omega
  have r1 : r ≤ 604799 := by omega
  rw [hq] at HU HB ⊢
  rw [hr] at HU HWL
  obtain ⟨m0, m1, _, _⟩ := HB.out
  have HR := Lib.hid hr
  clear hq hr
  refine htot.mono ?_
  rintro e w1 ⟨rfl, hP1, hO1⟩
  clear htot
  have hwi := within_plan r hP1 HW.out.len HW.out.good (Nat.le_trans hb hO1.size) r0 (by omega)
  obtain ⟨z, hz⟩ : ∃ z, wsum F T 0 r n = z := ⟨_, rfl⟩
  rw [hz] at hwi HU HWL
  obtain ⟨z0, z1⟩ := HWL.out
  have z2 : z ≤ 604800 := by omega
  have HS1 := Lib.hid (show Stays base w w1 from ⟨hO1.size, fun W0 h => h.trans (hO1.toBelow hb fun k hk => by subst hk; exact hP1.hC)⟩)
  clear hP1 hO1 hz
  go_wp2_with fail
  rw [HR.out]
  refine hwi.mono ?_
  rintro e w2 ⟨rfl, hP2, hS2⟩
  have HP2 := Lib.hid hP2
  have HS2 := Lib.hid (HS1.out.trans hS2)
  clear hwi hP2 hS2
  go_wp2_with fail
  go_ret
  exact ⟨ret_int HU.out.symm, HP2.out, HS2.out⟩

theorem until_nil (t : Int) (w : World) : Calls Tryz.prog 90 #[.pointer none, .int .i64 t] w fun e w' => e = .returned (.int .i64 0) ∧ w = w' := by
  have hcr := created_nil w
  go_enter Tryz.func90, Tryz.ntmps90
  go_wp2_with fail
  refine hcr.mono ?_
  rintro e w' ⟨rfl, rfl⟩
  go_wp2_with fail
  go_ret
  exact ⟨rfl, rfl⟩
theorem until_no (P : Nat) (t : Int) (w : World) (h : w.cell? ⟨P, 1, none⟩ = some (.pointer none)) : Calls Tryz.prog 90 #[.pointer (some ⟨P, 0, none⟩), .int .i64 t] w fun e w' => e = .returned (.int .i64 0) ∧ w = w' := by
  have hcr := created_no P w h
  go_enter Tryz.func90, Tryz.ntmps90
  go_wp2_with fail
  refine hcr.mono ?_
  rintro e w' ⟨rfl, rfl⟩
  go_wp2_with fail
  go_ret
  exact ⟨rfl, rfl⟩

def betweenV (F T : Nat → Int) (n : Nat) (x y : Int) : Int := max 0 (untilV F T n y - untilV F T n x)
theorem between_any {base P C : Nat} {a : Option Addr} {n c : Nat} {F T : Nat → Int} {w : World} (x y : Int) (h : Pl base P C a n c F T w) (hw : Wk F T n) (hb : base ≤ w.heap.size) :
    Calls Tryz.prog 87 #[.pointer (some ⟨P, 0, none⟩), .int .i64 x, .int .i64 y] w fun e w' => e = .returned (.int .i64 (betweenV F T n x y)) ∧ Pl base P C a n c F T w' ∧ Stays base w w' := by
  have h1 := until_any y h hw hb
  have HX := Lib.hid (fun w1 (h : Pl base P C a n c F T w1) (hb : base ≤ w1.heap.size) => until_any x h hw hb)
  obtain ⟨_, _, b0, b1⟩ := until_bounds hw y
  obtain ⟨_, _, b2, b3⟩ := until_bounds hw x
  have HV := Lib.hid (show betweenV F T n x y = max 0 (untilV F T n y - untilV F T n x) from rfl)
  obtain ⟨u, hu⟩ : ∃ u, untilV F T n y = u := ⟨_, rfl⟩
  obtain ⟨v, hv⟩ : ∃ u, untilV F T n x = u := ⟨_, rfl⟩
  rw [hu] at b0 b1 HV h1
  rw [hv] at b2 b3 HV
  have HE := Lib.hid hv
  clear h hw hu hv
  go_enter Tryz.func87, Tryz.ntmps87
  go_wp2_with fail
  refine h1.mono ?_
  rintro e w1 ⟨rfl, hP1, hS1⟩
  have h2 := HX.out w1 hP1 (Nat.le_trans hb hS1.1)
  rw [HE.out] at h2
  have HS1 := Lib.hid hS1
  clear h1 hP1 hS1
  go_wp2_with fail
  refine h2.mono ?_
  rintro e w2 ⟨rfl, hP2, hS2⟩
  have HP2 := Lib.hid hP2
  have HS2 := Lib.hid (HS1.out.trans hS2)
  clear h2 hP2 hS2
  go_wp2_with fail
  go_ret
  exact ⟨ret_int HV.out.symm, HP2.out, HS2.out⟩
theorem between_nil (x y : Int) (w : World) : Calls Tryz.prog 87 #[.pointer none, .int .i64 x, .int .i64 y] w fun e w' => e = .returned (.int .i64 0) ∧ w = w' := by
  have h := fun t => until_nil t w
  go_enter Tryz.func87, Tryz.ntmps87
  go_wp2_with (go_at_call 90; refine (h _).mono ?_; rintro e w' ⟨rfl, rfl⟩)
  go_ret
  exact ⟨rfl, rfl⟩
theorem between_no (P : Nat) (x y : Int) (w : World) (hc : w.cell? ⟨P, 1, none⟩ = some (.pointer none)) : Calls Tryz.prog 87 #[.pointer (some ⟨P, 0, none⟩), .int .i64 x, .int .i64 y] w fun e w' => e = .returned (.int .i64 0) ∧ w = w' := by
  have h := fun t => until_no P t w hc
  go_enter Tryz.func87, Tryz.ntmps87
  go_wp2_with (go_at_call 90; refine (h _).mono ?_; rintro e w' ⟨rfl, rfl⟩)
  go_ret
  exact ⟨rfl, rfl⟩

/-- Whether a second is open. -/
def openB (F T : Nat → Int) (n : Nat) (t : Int) : Bool := decide (0 ≤ t) && (decide (t ≤ 2251799813685248) && hasB F T (t % 604800) n)
/-- The plan's row, copied. -/
def RowOf (base P C : Nat) (a : Option Addr) (n c : Nat) (F T : Nat → Int) (w : World) (e : Ending) (w' : World) : Prop := ∃ v, e = .returned v ∧ OS w' w.heap.size v (pairs F T n) ∧ Pl base P C a n c F T w' ∧ Below w.heap.size w w'
/- The plan's Nth; New. -/
open Go.RowKit

/-- Nth's answer: the second, and an error's number. -/
def pnV (F T : Nat → Int) (n : Nat) (m : Int) : Int :=
  if m < 0 then 0 else if tsum F T n = 0 then 0 else if 3723213977 < m / tsum F T n then 0 else
    if 2251799813685248 < m / tsum F T n * 604800 + nthV F T n (m % tsum F T n) then 0 else m / tsum F T n * 604800 + nthV F T n (m % tsum F T n)
def pnE (F T : Nat → Int) (n : Nat) (m : Int) : Int :=
  if m < 0 then 2 else if tsum F T n = 0 then 40 else if 3723213977 < m / tsum F T n then 10 else
    if 2251799813685248 < m / tsum F T n * 604800 + nthV F T n (m % tsum F T n) then 10 else 0
theorem pn_neg {F T : Nat → Int} {n : Nat} {m : Int} (h : m < 0) : pnV F T n m = 0 ∧ pnE F T n m = 2 := by simp [pnV, pnE, h]
theorem pn_closed {F T : Nat → Int} {n : Nat} {m : Int} (h : 0 ≤ m) (h0 : tsum F T n = 0) : pnV F T n m = 0 ∧ pnE F T n m = 40 := by
  simp [pnV, pnE, h0]; omega
theorem pn_far {F T : Nat → Int} {n : Nat} {m : Int} (h : 0 ≤ m) (h0 : tsum F T n ≠ 0) (h1 : 3723213977 < m / tsum F T n) : pnV F T n m = 0 ∧ pnE F T n m = 10 := by
  unfold pnV pnE
  rw [if_neg (by omega), if_neg h0, if_pos h1, if_neg (by omega), if_neg h0, if_pos h1]
  exact ⟨rfl, rfl⟩
theorem pn_past {F T : Nat → Int} {n : Nat} {m : Int} (h : 0 ≤ m) (h0 : tsum F T n ≠ 0) (h1 : ¬ 3723213977 < m / tsum F T n) (h2 : 2251799813685248 < m / tsum F T n * 604800 + nthV F T n (m % tsum F T n)) : pnV F T n m = 0 ∧ pnE F T n m = 10 := by
  unfold pnV pnE
  rw [if_neg (by omega), if_neg h0, if_neg h1, if_pos h2, if_neg (by omega), if_neg h0, if_neg h1, if_pos h2]
  exact ⟨rfl, rfl⟩
theorem pn_ok {F T : Nat → Int} {n : Nat} {m : Int} (h : 0 ≤ m) (h0 : tsum F T n ≠ 0) (h1 : ¬ 3723213977 < m / tsum F T n) (h2 : ¬ 2251799813685248 < m / tsum F T n * 604800 + nthV F T n (m % tsum F T n)) :
    pnV F T n m = m / tsum F T n * 604800 + nthV F T n (m % tsum F T n) ∧ pnE F T n m = 0 := by
  unfold pnV pnE
  rw [if_neg (by omega), if_neg h0, if_neg h1, if_neg h2, if_neg (by omega), if_neg h0, if_neg h1, if_neg h2]
  exact ⟨rfl, rfl⟩
theorem nth_bounds {F T : Nat → Int} {n : Nat} {m : Int} (h : Wk F T n) (h0 : 0 ≤ m) (h1 : m < tsum F T n) : 0 ≤ nthV F T n m ∧ nthV F T n m < 604800 := by
  obtain ⟨k, hk, h2, h3⟩ := tsum_find n h0 h1
  have e := nthV_at h.good hk h2 h3
  have h4 : tsum F T (k + 1) = tsum F T k + (T k - F k) := rfl
  have h5 := h.week k hk
  obtain ⟨g0, g1, g2, _⟩ := good_at h.good hk
  omega

/-- What the plan's Nth leaves behind. -/
def NthGot (base P C : Nat) (a : Option Addr) (n c : Nat) (F T : Nat → Int) (v e : Int) (w : World) (E : Ending) (w' : World) : Prop :=
  E = .returned (.tuple #[.int .i64 v, .int .i64 e]) ∧ Pl base P C a n c F T w' ∧ Stays base w w'
set_option maxRecDepth 100000 in
set_option maxHeartbeats 8000000 in
theorem nth_plan {base P C : Nat} {a : Option Addr} {n c : Nat} {F T : Nat → Int} {w : World} (m : Int) (h : Pl base P C a n c F T w) (hw : Wk F T n) (hb : base ≤ w.heap.size) (hm1 : m ≤ 9223372036854775807) :
    Calls Tryz.prog 89 #[.pointer (some ⟨P, 0, none⟩), .int .i64 m] w (NthGot base P C a n c F T (pnV F T n m) (pnE F T n m) w) := by
  have htot := total_any h hw.len hw.good
  obtain ⟨t0, t1⟩ := hw.total
  have HW := Lib.hid hw
  have HN := Lib.hid (fun h => @pn_neg F T n m h)
  have HCL := Lib.hid (fun h h0 => @pn_closed F T n m h h0)
  have HF := Lib.hid (fun h h0 h1 => @pn_far F T n m h h0 h1)
  have HPA := Lib.hid (fun h h0 h1 h2 => @pn_past F T n m h h0 h1 h2)
  have HOK := Lib.hid (fun h h0 h1 h2 => @pn_ok F T n m h h0 h1 h2)
  have HNB := Lib.hid (fun x (h0 : 0 ≤ x) (h1 : x < tsum F T n) => nth_bounds (m := x) hw h0 h1)
  have HNY := Lib.hid (fun x (h0 : 0 ≤ x) (h1 : x < tsum F T n) w1 (hS : Sps w1 a n F T) => nth_yes a n c F T x w1 hS hw.len hw.good h0 h1)
  obtain ⟨tot, ht⟩ : ∃ x, tsum F T n = x := ⟨_, rfl⟩
  rw [ht] at t0 t1 htot HCL HF HPA HOK HNB HNY
  obtain ⟨v, hv⟩ : ∃ x, pnV F T n m = x := ⟨_, rfl⟩
  obtain ⟨er, he⟩ : ∃ x, pnE F T n m = x := ⟨_, rfl⟩
  rw [hv, he] at HN HCL HF HPA HOK ⊢
  clear h hw ht hv he
  go_enter Tryz.func89, Tryz.ntmps89
  go_wp2_with fail
  refine htot.mono ?_
  rintro e w1 ⟨rfl, hP1, hO1⟩
  clear htot
  have hcr := created_yes P C w1 hP1.bef
  have HS1 := Lib.hid (show Stays base w w1 from ⟨hO1.size, fun W0 h => h.trans (hO1.toBelow hb fun k hk => by subst hk; exact hP1.hC)⟩)
  have hrow := hP1.row
  have HP1 := Lib.hid hP1
  clear hP1 hO1
  by_cases h0 : m < 0
  · have d0 : decide (m < 0) = true := decide_eq_true h0
    obtain ⟨rfl, rfl⟩ := HN.out h0
    go_wp2_with fail
    refine hcr.mono ?_
    rintro e w' ⟨rfl, rfl⟩
    go_wp2_with fail
    go_ret2
    exact ⟨rfl, HP1.out, HS1.out⟩
  have d0 : decide (m < 0) = false := decide_eq_false h0
  have m0 : 0 ≤ m := by omega
  by_cases hz : tot = 0
  · obtain ⟨rfl, rfl⟩ := HCL.out m0 hz
    have d1 : (tot == 0) = true := by simp [hz]
    clear hz
    go_wp2_with fail
    refine hcr.mono ?_
    rintro e w' ⟨rfl, rfl⟩
    go_wp2_with fail
    go_ret2
    exact ⟨rfl, HP1.out, HS1.out⟩
  have d1 : (tot == 0) = false := by simp [hz]
  have t2 : 1 ≤ tot := by omega
  have q0 : 0 ≤ m / tot := Int.ediv_nonneg m0 (by omega)
  have q1 : m / tot ≤ m := Int.ediv_le_self tot m0
  have r0 : 0 ≤ m % tot := Int.emod_nonneg m hz
  have r1 : m % tot < tot := Int.emod_lt_of_pos m (by omega)
  by_cases hf : 3723213977 < m / tot
  · obtain ⟨rfl, rfl⟩ := HF.out m0 hz hf
    have d2 : decide (3723213977 < m / tot) = true := decide_eq_true hf
    clear hz
    go_wp2_with fail
    refine hcr.mono ?_
    rintro e w' ⟨rfl, rfl⟩
    go_wp2_with fail
    go_ret2
    exact ⟨rfl, HP1.out, HS1.out⟩
  have d2 : decide (3723213977 < m / tot) = false := decide_eq_false hf
  have hny := HNY.out (m % tot) r0 r1
  have hnb := HNB.out (m % tot) r0 r1
  have HE : Hid (∀ x, x = nthV F T n (m % tot) → x = nthV F T n (m % tot)) := Lib.hid (fun x h => h)
  have HPA := Lib.hid (HPA.out m0 hz (by omega))
  have HOK := Lib.hid (HOK.out m0 hz (by omega))
  obtain ⟨z, hzz⟩ : ∃ z, nthV F T n (m % tot) = z := ⟨_, rfl⟩
  rw [hzz] at hny hnb HPA HOK
  have z0 := hnb.1
  have z1 := hnb.2
  have HNY := Lib.hid hny
  clear hny hnb HE hzz
  obtain ⟨q, hq⟩ : ∃ q, m / tot = q := ⟨_, rfl⟩
  obtain ⟨r, hr⟩ : ∃ r, m % tot = r := ⟨_, rfl⟩
  have q2 : q ≤ 3723213977 := by omega
  have HQ := Lib.hid hq
  have HR := Lib.hid hr
  rw [hq] at HPA HOK q0
  rw [hr] at r0 r1 HNY
  have hmod : m.tmod tot = r := by rw [Int.tmod_eq_emod_of_nonneg m0, hr]
  have hwr : IntKind.i64.wrap r = r := IntWalk.i64_in _ (by omega)
  have h0w : w1.drew.cell? ⟨P, 0, none⟩ = some (.slice a n c) := hrow
  clear hq hr q1 hf
  go_wp2_with fail
  refine hcr.mono ?_
  rintro e w' ⟨rfl, rfl⟩
  clear hcr
  go_wp2_with fail
  have HY := Lib.hid (HNY.out w1.drew (HP1.out.sps.kept (Below.refl _ _).drew))
  have HPD := Lib.hid (HP1.out.kept (Below.refl _ _).drew)
  have HSD : Hid (Stays base w1 w1.drew) := Lib.hid ⟨Nat.le_refl _, fun W0 h => h.drew⟩
  have hbd : base ≤ w1.drew.heap.size := Nat.le_trans hb HS1.out.1
  go_region_held3 (fun w' => w'.cell? ⟨P, 0, none⟩ = some (.slice a n c))
    (first | exact h0w | assumption)
    ((go_at_call 105; refine HY.out.mono ?_; rintro e w8 ⟨rfl, hb8⟩; have hS8 := (HPD.out.kept hb8).row; have HP8 := Lib.hid (HPD.out.kept hb8); have HS8 := Lib.hid (HS1.out.trans (HSD.out.trans (Stays.below hbd hb8))); clear hb8))
  all_goals
    have hq := HQ.out
    clear hmod hwr
    by_cases hp : 2251799813685248 < q * 604800 + z
    · have d3 : decide (2251799813685248 < q * 604800 + z) = true := decide_eq_true hp
      obtain ⟨rfl, rfl⟩ := HPA.out hp
      go_wp2_with fail
      go_ret2
      exact ⟨rfl, HP8.out, HS8.out⟩
    · have d3 : decide (2251799813685248 < q * 604800 + z) = false := decide_eq_false hp
      have HV := Lib.hid (HOK.out (by omega))
      go_wp2_with fail
      go_ret2
      exact ⟨ret_two HV.out.1.symm HV.out.2.symm, HP8.out, HS8.out⟩
theorem nth_plan_nil (m : Int) (w : World) : Calls Tryz.prog 89 #[.pointer none, .int .i64 m] w fun e w' => e = .returned (.tuple #[.int .i64 0, .int .i64 1]) ∧ w = w' := by
  have h1 := total_nil w
  have h2 := created_nil w
  go_enter Tryz.func89, Tryz.ntmps89
  go_wp2_with (first
    | (go_at_call 61; refine h1.mono ?_; rintro e w' ⟨rfl, rfl⟩)
    | (go_at_call 82; refine h2.mono ?_; rintro e w' ⟨rfl, rfl⟩))
  go_ret2
  exact ⟨rfl, rfl⟩
theorem nth_plan_no (P : Nat) (m : Int) (w : World) (h : w.cell? ⟨P, 1, none⟩ = some (.pointer none)) : Calls Tryz.prog 89 #[.pointer (some ⟨P, 0, none⟩), .int .i64 m] w fun e w' => e = .returned (.tuple #[.int .i64 0, .int .i64 1]) ∧ w = w' := by
  have h1 := total_no P w h
  have h2 := created_no P w h
  go_enter Tryz.func89, Tryz.ntmps89
  go_wp2_with (first
    | (go_at_call 61; refine h1.mono ?_; rintro e w' ⟨rfl, rfl⟩)
    | (go_at_call 82; refine h2.mono ?_; rintro e w' ⟨rfl, rfl⟩))
  go_ret2
  exact ⟨rfl, rfl⟩
/- New, and the reference's Wrong. -/
open Go.RowKit

def weekB (T : Nat → Int) : Nat → Bool
  | 0 => true
  | k + 1 => weekB T k && decide (T k ≤ 604800)
theorem weekB_iff {T : Nat → Int} : ∀ n, weekB T n = true ↔ ∀ k, k < n → T k ≤ 604800 := by
  intro n
  induction n with
  | zero => simp [weekB]
  | succ n ih =>
    simp only [weekB, Bool.and_eq_true, ih, decide_eq_true_eq]
    constructor
    · rintro ⟨h1, h2⟩ k hk
      by_cases e : k = n
      · subst e; exact h2
      · exact h1 k (by omega)
    · intro h
      exact ⟨fun k hk => h k (by omega), h n (by omega)⟩
/-- New's number. -/
def wrongE (F T : Nat → Int) (n : Nat) : Int := if rowE F T n = 0 then (if weekB T n = true then 0 else 2) else rowE F T n
theorem Sps.congr {w : World} {a : Option Addr} {n : Nat} {F T F' T' : Nat → Int} (h : Sps w a n F T) (he : ∀ k, k < n → F k = F' k ∧ T k = T' k) : Sps w a n F' T' := by
  refine ⟨h.1, fun hp => ?_⟩
  obtain ⟨ab, ao, e, hl, hc⟩ := h.2 hp
  exact ⟨ab, ao, e, hl, fun k hk => by rw [← (he k hk).1, ← (he k hk).2]; exact hc k hk⟩

/-- A plan made. -/
def Planned (n : Nat) (F T : Nat → Int) (w : World) (e : Ending) (w' : World) : Prop :=
  ∃ P C a c, e = .returned (.tuple #[.pointer (some ⟨P, 0, none⟩), .int .i64 0]) ∧ Pl w.heap.size P C a n c F T w' ∧ Below w.heap.size w w'
set_option maxRecDepth 100000 in
set_option maxHeartbeats 4000000 in
theorem new_ok (a : Option Addr) (n cap : Nat) (F T : Nat → Int) (w : World) (hS : Sps w a n F T) (hw : Wk F T n) :
    Calls Tryz.prog 57 #[.slice a n cap] w (Planned n F T w) := by
  have hr := row_any a n cap F T w hS
  rw [rowE_ok hw.len hw.good] at hr
  have HC := Lib.hid hS
  have HW := Lib.hid hw
  have hm := hw.len
  -- the clone, the plan's block, the cell
  have key : ∀ (w2 : World) (va : Option Addr) (vc : Nat) (w1 : World), OS w2 w1.heap.size (.slice va n vc) (pairs F T n) → Below w.heap.size w w1 → Below w1.heap.size w1 w2 →
      Pl w.heap.size w2.heap.size (w2.heap.size + 1) va n vc F T ((w2.alloc (.cells #[.slice va n vc, .pointer (some ⟨w2.heap.size + 1, 0, none⟩)] 135)).alloc (.cells #[.func (.func 81) #[.pointer (some ⟨w2.heap.size, 0, none⟩)] #[], .int .u32 0, .int .i32 0, .int .u32 0, .slice none 0 0, .int .u32 0, .int .i64 0] 163)) ∧ Below w.heap.size w ((w2.alloc (.cells #[.slice va n vc, .pointer (some ⟨w2.heap.size + 1, 0, none⟩)] 135)).alloc (.cells #[.func (.func 81) #[.pointer (some ⟨w2.heap.size, 0, none⟩)] #[], .int .u32 0, .int .i32 0, .int .u32 0, .slice none 0 0, .int .u32 0, .int .i64 0] 163)) := by
    intro w2 va vc w1 hO hb1 hb2
    have hsz : w.heap.size ≤ w2.heap.size := Nat.le_trans hb1.size hb2.size
    have hS2 : Sps w2 va n F T := by
      have h := (hO.sps (by
        intro s hs
        obtain ⟨k, hk, rfl⟩ := pairs_mem.1 hs
        obtain ⟨_, _, _, _, _, _, b⟩ := HC.out.at (Below.refl _ _) k hk
        exact b)).2
      exact h.congr fun k hk => pairs_at F T n k hk
    have hva : ∀ x, 0 < n → va = some x → x.block < w2.heap.size := by
      intro x hp e
      obtain ⟨ab, ao, e2, hl, _⟩ := hS2.2 hp
      rw [e] at e2
      injection e2 with e2
      subst e2
      exact hl
    generalize hW : ((w2.alloc (.cells #[.slice va n vc, .pointer (some ⟨w2.heap.size + 1, 0, none⟩)] 135)).alloc (.cells #[.func (.func 81) #[.pointer (some ⟨w2.heap.size, 0, none⟩)] #[], .int .u32 0, .int .i32 0, .int .u32 0, .slice none 0 0, .int .u32 0, .int .i64 0] 163)) = W
    have B2 : Below w2.heap.size w2 W := by
      rw [← hW]
      exact ((Below.refl _ _).alloc (Nat.le_refl _) _).alloc (by simp) _
    have p0 : W.cell? ⟨w2.heap.size, 0, none⟩ = some (.slice va n vc) := by rw [← hW, World.cell?_alloc_past _ _ _ (by simp)]; simp
    have p1 : W.cell? ⟨w2.heap.size, 1, none⟩ = some (.pointer (some ⟨w2.heap.size + 1, 0, none⟩)) := by rw [← hW, World.cell?_alloc_past _ _ _ (by simp)]; simp
    have cl : ∀ j, W.cell? ⟨w2.heap.size + 1, j, none⟩ = (#[.func (.func 81) #[.pointer (some ⟨w2.heap.size, 0, none⟩)] #[], .int .u32 0, .int .i32 0, .int .u32 0, .slice none 0 0, .int .u32 0, .int .i64 0] : Array Value)[j]? := fun j => by
      rw [← hW, World.cell?_alloc_at _ _ _ _ (by simp)]
    have fz : ∀ j, W.frozen? ⟨w2.heap.size + 1, j, none⟩ = false := fun j => by
      rw [← hW, frozen?_alloc_cells, frozen?_alloc_cells]
      simp [World.frozen?]
    have hWs : W.heap.size = w2.heap.size + 2 := by rw [← hW]; simp
    refine ⟨⟨hsz, by omega, by omega, by omega, p0, p1, hS2.kept B2, fun x hp e => by have := hva x hp e; omega, .inl ⟨0, ?_⟩⟩, (hb1.trans (hb2.mono hb1.size)).trans (B2.mono hsz)⟩
    exact ⟨(cl 0).trans rfl, (cl 1).trans rfl, (cl 2).trans rfl, (cl 4).trans rfl, (cl 5).trans rfl, (cl 6).trans rfl, fz⟩
  have KEY := Lib.hid key
  have hclone : ∀ w1, Below w.heap.size w w1 → Calls Tryz.prog 79 #[.slice a n cap] w1 (Copied (pairs F T n) w1) := fun w1 hb => clone_any a n cap F T w1 (HC.out.kept hb) (by omega)
  have HCL := Lib.hid hclone
  have HLN := Lib.hid (pairs_len F T n)
  clear hS hw key hclone
  cases n with
  | zero =>
    go_enter Tryz.func57, Tryz.ntmps57
    go_wp2_with fail
    refine hr.mono ?_
    rintro e w1 ⟨rfl, hb1⟩
    have hcl := HCL.out w1 hb1
    go_wp2_with fail
    refine hcl.mono ?_
    rintro e w2 ⟨v, rfl, hO, hb2⟩
    obtain ⟨va, vc, rfl, _, _⟩ := hO.shape
    rw [HLN.out] at hO ⊢
    have HK := Lib.hid (KEY.out w2 va vc w1 hO hb1 hb2)
    clear hcl hO hb1 hb2
    go_wp2_with (first | (go_at_call 80; refine (new_fn _ _ _ _).mono ?_; rintro e w' ⟨rfl, rfl⟩))
    go_ret2
    exact ⟨_, _, _, _, rfl, HK.out.1, HK.out.2⟩
  | succ p =>
    have hlast := HW.out.week p (by omega)
    obtain ⟨u, hu⟩ : ∃ u, T p = u := ⟨_, rfl⟩
    rw [hu] at hlast
    have d1 : decide (604800 < u) = false := decide_eq_false (by omega)
    have HU := Lib.hid hu
    clear hu
    go_enter Tryz.func57, Tryz.ntmps57
    go_wp2_with fail
    refine hr.mono ?_
    rintro e w1 ⟨rfl, hb1⟩
    have hcl := HCL.out w1 hb1
    obtain ⟨ab, ao, rfl, hab, _, c1, _⟩ := HC.out.at hb1 p (by omega)
    rw [HU.out] at c1
    have p0 : (0 : Int) ≤ (p : Int) := by omega
    have p1 : (p : Int) < (p : Int) + 1 := by omega
    have p2 : (p : Int) ≤ 32 := by omega
    go_wp2_with fail
    refine hcl.mono ?_
    rintro e w2 ⟨v, rfl, hO, hb2⟩
    obtain ⟨va, vc, rfl, _, _⟩ := hO.shape
    rw [HLN.out] at hO ⊢
    have HK := Lib.hid (KEY.out w2 va vc w1 hO hb1 hb2)
    clear hcl hO hb1 hb2
    go_wp2_with (first | (go_at_call 80; refine (new_fn _ _ _ _).mono ?_; rintro e w' ⟨rfl, rfl⟩))
    go_ret2
    exact ⟨_, _, _, _, rfl, HK.out.1, HK.out.2⟩
set_option maxRecDepth 100000 in
set_option maxHeartbeats 4000000 in
/-- New, where the row is no plan's. -/
theorem new_bad (a : Option Addr) (n cap : Nat) (F T : Nat → Int) (w : World) (hS : Sps w a n F T) (hw : (rowE F T n != 0) = true) :
    Calls Tryz.prog 57 #[.slice a n cap] w fun e w' => e = .returned (.tuple #[.pointer none, .int .i64 (rowE F T n)]) ∧ Below w.heap.size w w' := by
  have hr := row_any a n cap F T w hS
  clear hS
  generalize rowE F T n = z at hr hw ⊢
  go_enter Tryz.func57, Tryz.ntmps57
  go_wp2_with fail
  refine hr.mono ?_
  rintro e w1 ⟨rfl, hb1⟩
  clear hr
  go_wp2_with fail
  go_ret2
  exact ⟨rfl, hb1⟩
set_option maxRecDepth 100000 in
set_option maxHeartbeats 4000000 in
/-- New, where a span extends beyond a week. -/
theorem new_long (a : Option Addr) (p cap : Nat) (F T : Nat → Int) (w : World) (hS : Sps w a (p + 1) F T) (hn : p + 1 ≤ 32) (hg : good F T (p + 1) = true) (hw : 604800 < T p) :
    Calls Tryz.prog 57 #[.slice a (p + 1) cap] w fun e w' => e = .returned (.tuple #[.pointer none, .int .i64 2]) ∧ Below w.heap.size w w' := by
  have hr := row_any a (p + 1) cap F T w hS
  rw [rowE_ok hn hg] at hr
  have HC := Lib.hid hS
  obtain ⟨u, hu⟩ : ∃ u, T p = u := ⟨_, rfl⟩
  rw [hu] at hw
  have d1 : decide (604800 < u) = true := decide_eq_true (by omega)
  have HU := Lib.hid hu
  clear hu hS hg
  go_enter Tryz.func57, Tryz.ntmps57
  go_wp2_with fail
  refine hr.mono ?_
  rintro e w1 ⟨rfl, hb1⟩
  clear hr
  obtain ⟨ab, ao, rfl, hab, _, c1, _⟩ := HC.out.at hb1 p (by omega)
  rw [HU.out] at c1
  have p0 : (0 : Int) ≤ (p : Int) := by omega
  have p1 : (p : Int) < (p : Int) + 1 := by omega
  have p2 : (p : Int) ≤ 32 := by omega
  go_wp2_with fail
  go_ret2
  exact ⟨rfl, hb1⟩

set_option maxRecDepth 100000 in
set_option maxHeartbeats 4000000 in
/-- The reference's number of a row. -/
theorem wrong_any (a : Option Addr) (n cap : Nat) (F T : Nat → Int) (w : World) (hS : Sps w a n F T) :
    Calls Tryz.prog 29 #[.slice a n cap] w fun e w' => e = .returned (.int .i64 (wrongE F T n)) ∧ Below w.heap.size w w' := by
  have hm := hS.1
  unfold maxLen at hm
  have hr := rrow_any a n cap F T w hS
  have HC := Lib.hid hS
  clear hS
  by_cases hz : rowE F T n = 0
  · have HV := Lib.hid (show wrongE F T n = if weekB T n = true then 0 else 2 by unfold wrongE; rw [if_pos hz])
    rw [hz] at hr
    clear hz
    go_enter Tryz.func29, Tryz.ntmps29
    go_wp2_with fail
    refine hr.mono ?_
    rintro e w1 ⟨rfl, hb1⟩
    clear hr
    have HB1 := Lib.hid hb1
    clear hb1
    go_wp2_with fail
    go_loopw [4] (fun i wr => ∃ k : Nat, k ≤ n ∧ i = .int .i64 k ∧ weekB T k = true ∧ wr = w1) (fun i _ => n - (intOf i).toNat)
    case atStart => exact ⟨0, Nat.zero_le _, rfl, rfl, rfl⟩
    case round =>
      obtain ⟨k, hk, rfl, hwk, rfl⟩ := hrel
      by_cases hlt : k < n
      · obtain ⟨ab, ao, rfl, hab, _, c1, _⟩ := HC.out.at HB1.out k hlt
        have HK : Hid (weekB T (k + 1) = decide (T k ≤ 604800)) := Lib.hid (by simp [weekB, hwk])
        have HX := Lib.hid (fun h => (weekB_iff (T := T) n).1 h k hlt)
        obtain ⟨u, hu⟩ : ∃ u, T k = u := ⟨_, rfl⟩
        rw [hu] at c1 HK HX
        clear hu hwk
        have k0 : (0 : Int) ≤ (k : Int) := by omega
        have kl : (k : Int) < (n : Int) := by omega
        have d4 : decide ((k : Int) < (n : Int)) = true := by simp [hlt]
        by_cases hlw : u ≤ 604800
        · have d5 : decide (604800 < u) = false := decide_eq_false (by omega)
          go_wp2_with fail
          go_roundw
          case rel => exact ⟨k + 1, hlt, by go_num, by rw [HK.out]; exact decide_eq_true hlw, trivial⟩
          case measure => simp [intOf]; omega
        · have d5 : decide (604800 < u) = true := decide_eq_true (by omega)
          go_wp2_with fail
          go_ret
          exact ⟨ret_int (by rw [HV.out, if_neg (fun h => by have := HX.out h; omega)]), HB1.out⟩
      · obtain rfl : k = n := by omega
        have HWK := Lib.hid hwk
        clear hwk
        go_wp2_with fail
        go_ret
        exact ⟨ret_int (by rw [HV.out, if_pos HWK.out]), HB1.out⟩
  · have HV := Lib.hid (show wrongE F T n = rowE F T n by unfold wrongE; rw [if_neg hz])
    have hz' : (rowE F T n != 0) = true := by simpa using hz
    generalize rowE F T n = z at hr hz' HV
    clear hz
    go_enter Tryz.func29, Tryz.ntmps29
    go_wp2_with fail
    refine hr.mono ?_
    rintro e w1 ⟨rfl, hb1⟩
    clear hr
    go_wp2_with fail
    go_ret
    exact ⟨ret_int HV.out.symm, hb1⟩
/- The example of layer 8 holds in any world; WeekNobody. -/
open Go.RowKit

theorem lit_span (w : World) (a b : Int) (h : -9223372036854775808 ≤ a ∧ a ≤ 9223372036854775807 ∧ -9223372036854775808 ≤ b ∧ b ≤ 9223372036854775807) :
    Sps (w.alloc (.cells #[.int .i64 a, .int .i64 b] 61)) (some ⟨w.heap.size, 0, none⟩) 1 (fr [(a, b)]) (til [(a, b)]) := by
  refine ⟨by unfold maxLen; omega, fun _ => ⟨w.heap.size, 0, rfl, by simp, fun k hk => ?_⟩⟩
  obtain rfl : k = 0 := by omega
  refine ⟨by simp [fr], by simp [til], ?_⟩
  simp only [fr, til, List.getD_eq_getElem?_getD, List.getElem?_cons_zero, Option.getD_some]
  omega
theorem wk_ex : Wk (fr [(10, 20)]) (til [(10, 20)]) 1 := by
  refine ⟨by omega, by decide, fun k hk => ?_⟩
  have e : k = 0 := by omega
  subst e
  decide
/- WeekSteps, walked. -/
open Go.RowKit

theorem clip_step (f t r : Int) (h0 : 0 ≤ f) (h1 : f < t) (h2 : 0 ≤ r) : clip f t 0 (r + 1) = clip f t 0 r + clip f t r (r + 1) := by
  rcases clip_cases f t 0 (r + 1) with ⟨a1, a2⟩ | ⟨a1, a2⟩ <;> rcases clip_cases f t 0 r with ⟨b1, b2⟩ | ⟨b1, b2⟩ <;> rcases clip_cases f t r (r + 1) with ⟨c1, c2⟩ | ⟨c1, c2⟩ <;>
    rcases mx_cases f 0 with ⟨d1, d2⟩ | ⟨d1, d2⟩ <;> rcases mx_cases f r with ⟨e1, e2⟩ | ⟨e1, e2⟩ <;> rcases mn_cases t (r + 1) with ⟨g1, g2⟩ | ⟨g1, g2⟩ <;> rcases mn_cases t r with ⟨i1, i2⟩ | ⟨i1, i2⟩ <;> omega
theorem wsum_step {F T : Nat → Int} {n : Nat} (r : Int) (hr : 0 ≤ r) (hg : good F T n = true) : ∀ k, k ≤ n → wsum F T 0 (r + 1) k = wsum F T 0 r k + wsum F T r (r + 1) k := by
  intro k
  induction k with
  | zero => intro _; rfl
  | succ k ih =>
    intro hk
    obtain ⟨g0, g1, g2, _⟩ := good_at hg (show k < n by omega)
    simp only [wsum, ih (by omega), clip_step _ _ _ g0 g1 hr]
    omega
theorem wsum_week {F T : Nat → Int} {n : Nat} (h : Wk F T n) : ∀ k, k ≤ n → wsum F T 0 604800 k = tsum F T k := by
  intro k
  induction k with
  | zero => intro _; rfl
  | succ k ih =>
    intro hk
    obtain ⟨g0, g1, g2, _⟩ := good_at h.good (show k < n by omega)
    simp only [wsum, tsum, ih (by omega), clip_before _ _ _ g0 g1 (h.week k (by omega))]
theorem wsum_zero {F T : Nat → Int} {n : Nat} (hg : good F T n = true) : ∀ k, k ≤ n → wsum F T 0 0 k = 0 := by
  intro k
  induction k with
  | zero => intro _; rfl
  | succ k ih =>
    intro hk
    obtain ⟨g0, g1, g2, _⟩ := good_at hg (show k < n by omega)
    simp only [wsum, ih (by omega), clip_behind _ _ _ g0 g1 g0]
    rfl
theorem until_zero {F T : Nat → Int} {n : Nat} (h : Wk F T n) : untilV F T n 0 = 0 := by
  have e : cl 0 = 0 := by decide
  unfold untilV
  rw [e]
  have := wsum_zero h.good n (Nat.le_refl _)
  simp [this]
/-- One second more. -/
theorem until_step {F T : Nat → Int} {n : Nat} (h : Wk F T n) (t : Int) (h0 : 0 ≤ t) (h1 : t < 2251799813685248) : untilV F T n (t + 1) - untilV F T n t = if openB F T n t = true then 1 else 0 := by
  have e1 : cl t = t := by unfold cl; omega
  have e2 : cl (t + 1) = t + 1 := by unfold cl; omega
  have eo : openB F T n t = hasB F T (t % 604800) n := by
    unfold openB
    rw [decide_eq_true h0, decide_eq_true (show t ≤ 2251799813685248 by omega)]
    simp
  have hr0 : 0 ≤ t % 604800 := by omega
  have hs := wsum_step (t % 604800) hr0 h.good n (Nat.le_refl _)
  have ho := wsum_one h.good (t % 604800) n (Nat.le_refl _)
  rw [eo, ← ho]
  unfold untilV
  rw [e1, e2]
  by_cases hw : t % 604800 + 1 = 604800
  · have q1 : (t + 1) / 604800 = t / 604800 + 1 := by omega
    have q2 : (t + 1) % 604800 = 0 := by omega
    rw [q1, q2, wsum_zero h.good n (Nat.le_refl _), Int.add_mul]
    rw [hw, wsum_week h n (Nat.le_refl _)] at hs
    rw [hw]
    omega
  · have q1 : (t + 1) / 604800 = t / 604800 := by omega
    have q2 : (t + 1) % 604800 = t % 604800 + 1 := by omega
    rw [q1, q2]
    omega

/-- A row that Wrong lets by is a plan's. -/
theorem wk_of {F T : Nat → Int} {n : Nat} (h : (wrongE F T n != 0) = false) : Wk F T n := by
  have h0 : wrongE F T n = 0 := by simpa using h
  unfold wrongE at h0
  by_cases hz : rowE F T n = 0
  · rw [if_pos hz] at h0
    have hn : n ≤ 32 := by
      rcases Nat.lt_or_ge 32 n with h | h
      · rw [rowE_long h] at hz; cases hz
      · exact h
    have hg : good F T n = true := by
      cases h : good F T n with
      | true => rfl
      | false => rw [rowE_bad hn h] at hz; cases hz
    have hw : weekB T n = true := by
      cases h : weekB T n with
      | true => rfl
      | false => rw [h] at h0; cases h0
    exact ⟨hn, hg, (weekB_iff n).1 hw⟩
  · rw [if_neg hz] at h0
    exact absurd h0 hz
theorem wk_wrong {F T : Nat → Int} {n : Nat} (h : Wk F T n) : wrongE F T n = 0 := by
  unfold wrongE
  rw [if_pos (rowE_ok h.len h.good), if_pos ((weekB_iff n).2 h.week)]

/- WeekBack, walked. -/
open Go.RowKit

theorem clip_mono (f t x y : Int) (h0 : 0 ≤ f) (h1 : f < t) (h : x ≤ y) : clip f t 0 x ≤ clip f t 0 y := by
  rcases clip_cases f t 0 x with ⟨a1, a2⟩ | ⟨a1, a2⟩ <;> rcases clip_cases f t 0 y with ⟨b1, b2⟩ | ⟨b1, b2⟩ <;>
    rcases mx_cases f 0 with ⟨d1, d2⟩ | ⟨d1, d2⟩ <;> rcases mn_cases t x with ⟨g1, g2⟩ | ⟨g1, g2⟩ <;> rcases mn_cases t y with ⟨i1, i2⟩ | ⟨i1, i2⟩ <;> omega
theorem wsum_mono {F T : Nat → Int} {n : Nat} (x y : Int) (h : x ≤ y) (hg : good F T n = true) : ∀ k, k ≤ n → wsum F T 0 x k ≤ wsum F T 0 y k := by
  intro k
  induction k with
  | zero => intro _; exact Int.le_refl _
  | succ k ih =>
    intro hk
    obtain ⟨g0, g1, g2, _⟩ := good_at hg (show k < n by omega)
    have := ih (by omega)
    have := clip_mono (F k) (T k) x y g0 g1 h
    simp only [wsum]
    omega
theorem tsum_pos {F T : Nat → Int} {n : Nat} (hg : good F T n = true) (h : 0 < n) : 0 < tsum F T n := by
  have h1 := tsum_mono hg n 1 h (Nat.le_refl _)
  have h2 := (good_at hg h).2.1
  have h3 : tsum F T 1 = 0 + (T 0 - F 0) := rfl
  omega
/-- The second that has m open ones ahead. -/
theorem back_ok {F T : Nat → Int} {n : Nat} {m : Int} (h : Wk F T n) (he : pnE F T n m = 0) : openB F T n (pnV F T n m) = true ∧ untilV F T n (pnV F T n m) = m := by
  have h0 : 0 ≤ m := by
    rcases Int.lt_or_le m 0 with h1 | h1
    · rw [(pn_neg h1).2] at he; cases he
    · exact h1
  have ht : tsum F T n ≠ 0 := by
    intro h1
    rw [(pn_closed h0 h1).2] at he; cases he
  have hf : ¬ 3723213977 < m / tsum F T n := by
    intro h1
    rw [(pn_far h0 ht h1).2] at he; cases he
  have hp : ¬ 2251799813685248 < m / tsum F T n * 604800 + nthV F T n (m % tsum F T n) := by
    intro h1
    rw [(pn_past h0 ht hf h1).2] at he; cases he
  rw [(pn_ok h0 ht hf hp).1]
  obtain ⟨t0, t1⟩ := h.total
  have q0 : 0 ≤ m / tsum F T n := Int.ediv_nonneg h0 t0
  have r0 : 0 ≤ m % tsum F T n := Int.emod_nonneg m ht
  have r1 : m % tsum F T n < tsum F T n := Int.emod_lt_of_pos m (by omega)
  have hm : tsum F T n * (m / tsum F T n) + m % tsum F T n = m := Int.mul_ediv_add_emod m _
  obtain ⟨w1, w2⟩ := within_nth h.good r0 r1
  obtain ⟨s0, s1⟩ := nth_bounds h r0 r1
  generalize nthV F T n (m % tsum F T n) = s at *
  generalize m / tsum F T n = q at *
  have e1 : cl (q * 604800 + s) = q * 604800 + s := by unfold cl; omega
  have e2 : (q * 604800 + s) / 604800 = q := by omega
  have e3 : (q * 604800 + s) % 604800 = s := by omega
  refine ⟨?_, ?_⟩
  · unfold openB
    rw [e3, w1, decide_eq_true (show 0 ≤ q * 604800 + s by omega), decide_eq_true (show q * 604800 + s ≤ 2251799813685248 by omega)]
    rfl
  · unfold untilV
    rw [e1, e2, e3, w2, Int.mul_comm]
    exact hm
theorem back_no {F T : Nat → Int} {n : Nat} {m : Int} (h : Wk F T n) (he : pnE F T n m ≠ 0) : pnV F T n m = 0 ∧ (m < 0 ∨ n = 0 ∨ untilV F T n 2251799813685248 ≤ m) := by
  rcases Int.lt_or_le m 0 with h0 | h0
  · exact ⟨(pn_neg h0).1, .inl h0⟩
  by_cases ht : tsum F T n = 0
  · refine ⟨(pn_closed h0 ht).1, .inr (.inl ?_)⟩
    rcases Nat.eq_zero_or_pos n with h1 | h1
    · exact h1
    · have := tsum_pos h.good h1
      omega
  obtain ⟨t0, t1⟩ := h.total
  have r0 : 0 ≤ m % tsum F T n := Int.emod_nonneg m ht
  have r1 : m % tsum F T n < tsum F T n := Int.emod_lt_of_pos m (by omega)
  have hm : tsum F T n * (m / tsum F T n) + m % tsum F T n = m := Int.mul_ediv_add_emod m _
  have hu : untilV F T n 2251799813685248 = 3723213977 * tsum F T n + wsum F T 0 (2251799813685248 % 604800) n := by
    have e1 : cl 2251799813685248 = 2251799813685248 := by decide
    unfold untilV
    rw [e1]
    rfl
  obtain ⟨l0, l1⟩ := wsum_le (2251799813685248 % 604800) h.good n (Nat.le_refl _)
  by_cases hf : 3723213977 < m / tsum F T n
  · refine ⟨(pn_far h0 ht hf).1, .inr (.inr ?_)⟩
    have hq : tsum F T n * 3723213978 ≤ tsum F T n * (m / tsum F T n) := Int.mul_le_mul_of_nonneg_left (by omega) t0
    rw [hu]
    omega
  by_cases hp : 2251799813685248 < m / tsum F T n * 604800 + nthV F T n (m % tsum F T n)
  · refine ⟨(pn_past h0 ht hf hp).1, .inr (.inr ?_)⟩
    obtain ⟨w1, w2⟩ := within_nth h.good r0 r1
    obtain ⟨s0, s1⟩ := nth_bounds h r0 r1
    have hmo := wsum_mono (2251799813685248 % 604800) (nthV F T n (m % tsum F T n)) (by omega) h.good n (Nat.le_refl _)
    have hq : m / tsum F T n = 3723213977 := by omega
    rw [hq] at hm
    rw [hu]
    omega
  · exact absurd (pn_ok h0 ht hf hp).2 he

end Go.Proofs.YthnnbmofpmedhaaGreat

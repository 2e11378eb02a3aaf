/- The plan's methods: Until, Between, Open, Row. -/
import Derived.Test.YtfeegohjgecjgaaWkC
namespace Go.Proofs.Ytfeegohjgecjgaa
open Go.RowKit

/-- A row within a week. -/
structure Wk (F T : Nat → Int) (n : Nat) : Prop where
  len : n ≤ 32
  good : good F T n = true
  week : ∀ k, k < n → T k ≤ 604800
theorem tsum_end {F T : Nat → Int} {n : Nat} (hg : Go.Proofs.Ytfeegohjgecjgaa.good F T n = true) : ∀ k, k ≤ n → tsum F T k ≤ endF T k := by
  intro k
  induction k with
  | zero => intro _; exact Int.le_refl _
  | succ k ih =>
    intro hk
    have h := ih (by omega)
    obtain ⟨g0, g1, g2, g3⟩ := good_at hg (show k < n by omega)
    have e : endF T (k + 1) = T k := rfl
    have e2 : endF T k ≤ F k := by
      cases k with
      | zero => exact g0
      | succ k =>
        have e3 : k + 1 - 1 = k := rfl
        rw [e3] at g3
        show T k ≤ _
        omega
    simp only [tsum]
    omega
theorem Wk.total {F T : Nat → Int} {n : Nat} (h : Wk F T n) : 0 ≤ tsum F T n ∧ tsum F T n ≤ 604800 := by
  refine ⟨(tsum_bounds h.good n (Nat.le_refl _)).1, ?_⟩
  have h1 := tsum_end h.good n (Nat.le_refl _)
  cases n with
  | zero => show (0 : Int) ≤ _; omega
  | succ n =>
    have h2 := h.week n (by omega)
    have e : endF T (n + 1) = T n := rfl
    omega
theorem wsum_le {F T : Nat → Int} {n : Nat} (t : Int) (hg : good F T n = true) : ∀ k, k ≤ n → 0 ≤ wsum F T 0 t k ∧ wsum F T 0 t k ≤ tsum F T k := by
  intro k
  induction k with
  | zero => intro _; exact ⟨Int.le_refl _, Int.le_refl _⟩
  | succ k ih =>
    intro hk
    obtain ⟨h1, h2⟩ := ih (by omega)
    obtain ⟨g0, g1, g2, _⟩ := good_at hg (show k < n by omega)
    have := clip_bounds (F k) (T k) 0 t g0 g1 g2
    simp only [wsum, tsum]
    omega
def cl (t : Int) : Int := min (max t 0) 2251799813685248
theorem cl_bounds (t : Int) : 0 ≤ cl t ∧ cl t ≤ 2251799813685248 := by unfold cl; omega
/-- How many open seconds there are before t. -/
def untilV (F T : Nat → Int) (n : Nat) (t : Int) : Int := cl t / 604800 * tsum F T n + wsum F T 0 (cl t % 604800) n
theorem until_bounds {F T : Nat → Int} {n : Nat} (h : Wk F T n) (t : Int) : 0 ≤ cl t / 604800 * tsum F T n ∧ cl t / 604800 * tsum F T n ≤ 2251800000000000 ∧ 0 ≤ untilV F T n t ∧ untilV F T n t ≤ 2251800000604800 := by
  obtain ⟨h1, h2⟩ := cl_bounds t
  obtain ⟨h3, h4⟩ := h.total
  obtain ⟨h5, h6⟩ := wsum_le (cl t % 604800) h.good n (Nat.le_refl _)
  have q0 : 0 ≤ cl t / 604800 := by omega
  have q1 : cl t / 604800 ≤ 3723213977 := by omega
  have m0 : 0 ≤ cl t / 604800 * tsum F T n := Int.mul_nonneg q0 h3
  have m1 : cl t / 604800 * tsum F T n ≤ 3723213977 * 604800 := Int.mul_le_mul q1 h4 h3 (by omega)
  unfold untilV
  omega

set_option maxRecDepth 100000 in
set_option maxHeartbeats 4000000 in
theorem until_any {base P C : Nat} {a : Option Addr} {n c : Nat} {F T : Nat → Int} {w : World} (t : Int) (h : Pl base P C a n c F T w) (hw : Wk F T n) (hb : base ≤ w.heap.size) :
    Calls Try.prog 86 #[.pointer (some ⟨P, 0, none⟩), .int .i64 t] w fun e w' => e = .returned (.int .i64 (untilV F T n t)) ∧ Pl base P C a n c F T w' ∧ Stays base w w' := by
  have hcr := created_yes P C w h.bef
  have htot := total_any h hw.len hw.good
  have HB := Lib.hid (until_bounds hw t)
  obtain ⟨t0, t1⟩ := hw.total
  obtain ⟨x0, x1⟩ := cl_bounds t
  have HU := Lib.hid (show untilV F T n t = cl t / 604800 * tsum F T n + wsum F T 0 (cl t % 604800) n from rfl)
  have HWL := Lib.hid (wsum_le (cl t % 604800) hw.good n (Nat.le_refl _))
  have hx : min (max t 0) 2251799813685248 = cl t := rfl
  obtain ⟨x, hcl⟩ : ∃ x, cl t = x := ⟨_, rfl⟩
  rw [hcl] at x0 x1 HU HB HWL hx
  obtain ⟨tot, ht⟩ : ∃ x, tsum F T n = x := ⟨_, rfl⟩
  rw [ht] at t0 t1 htot HB HU HWL
  have HX := Lib.hid hx
  have HW := Lib.hid hw
  clear h hcl hw hx ht
  have y0 : 0 ≤ min (max t 0) 2251799813685248 := by omega
  have y1 : min (max t 0) 2251799813685248 ≤ 2251799813685248 := by omega
  go_enter Try.func86, Try.ntmps86
  go_wp2_with fail
  refine hcr.mono ?_
  rintro e w' ⟨rfl, rfl⟩
  clear hcr
  go_wp2_with fail
  rw [HX.out]
  clear y0 y1
  obtain ⟨q, hq⟩ : ∃ q, x / 604800 = q := ⟨_, rfl⟩
  have q0 : 0 ≤ q := by omega
  have q1 : q ≤ 3723213977 := by omega
  obtain ⟨r, hr⟩ : ∃ r, x % 604800 = r := ⟨_, rfl⟩
  have r0 : 0 ≤ r := by omega
  have r1 : r ≤ 604799 := by omega
  rw [hq] at HU HB ⊢
  rw [hr] at HU HWL
  obtain ⟨m0, m1, _, _⟩ := HB.out
  have HR := Lib.hid hr
  clear hq hr
  refine htot.mono ?_
  rintro e w1 ⟨rfl, hP1, hO1⟩
  clear htot
  have hwi := within_plan r hP1 HW.out.len HW.out.good (Nat.le_trans hb hO1.size) r0 (by omega)
  obtain ⟨z, hz⟩ : ∃ z, wsum F T 0 r n = z := ⟨_, rfl⟩
  rw [hz] at hwi HU HWL
  obtain ⟨z0, z1⟩ := HWL.out
  have z2 : z ≤ 604800 := by omega
  have HS1 := Lib.hid (show Stays base w w1 from ⟨hO1.size, fun W0 h => h.trans (hO1.toBelow hb fun k hk => by subst hk; exact hP1.hC)⟩)
  clear hP1 hO1 hz
  go_wp2_with fail
  rw [HR.out]
  refine hwi.mono ?_
  rintro e w2 ⟨rfl, hP2, hS2⟩
  have HP2 := Lib.hid hP2
  have HS2 := Lib.hid (HS1.out.trans hS2)
  clear hwi hP2 hS2
  go_wp2_with fail
  go_ret
  exact ⟨ret_int HU.out.symm, HP2.out, HS2.out⟩

theorem until_nil (t : Int) (w : World) : Calls Try.prog 86 #[.pointer none, .int .i64 t] w fun e w' => e = .returned (.int .i64 0) ∧ w = w' := by
  have hcr := created_nil w
  go_enter Try.func86, Try.ntmps86
  go_wp2_with fail
  refine hcr.mono ?_
  rintro e w' ⟨rfl, rfl⟩
  go_wp2_with fail
  go_ret
  exact ⟨rfl, rfl⟩
theorem until_no (P : Nat) (t : Int) (w : World) (h : w.cell? ⟨P, 1, none⟩ = some (.pointer none)) : Calls Try.prog 86 #[.pointer (some ⟨P, 0, none⟩), .int .i64 t] w fun e w' => e = .returned (.int .i64 0) ∧ w = w' := by
  have hcr := created_no P w h
  go_enter Try.func86, Try.ntmps86
  go_wp2_with fail
  refine hcr.mono ?_
  rintro e w' ⟨rfl, rfl⟩
  go_wp2_with fail
  go_ret
  exact ⟨rfl, rfl⟩

def betweenV (F T : Nat → Int) (n : Nat) (x y : Int) : Int := max 0 (untilV F T n y - untilV F T n x)
theorem between_any {base P C : Nat} {a : Option Addr} {n c : Nat} {F T : Nat → Int} {w : World} (x y : Int) (h : Pl base P C a n c F T w) (hw : Wk F T n) (hb : base ≤ w.heap.size) :
    Calls Try.prog 82 #[.pointer (some ⟨P, 0, none⟩), .int .i64 x, .int .i64 y] w fun e w' => e = .returned (.int .i64 (betweenV F T n x y)) ∧ Pl base P C a n c F T w' ∧ Stays base w w' := by
  have h1 := until_any y h hw hb
  have HX := Lib.hid (fun w1 (h : Pl base P C a n c F T w1) (hb : base ≤ w1.heap.size) => until_any x h hw hb)
  obtain ⟨_, _, b0, b1⟩ := until_bounds hw y
  obtain ⟨_, _, b2, b3⟩ := until_bounds hw x
  have HV := Lib.hid (show betweenV F T n x y = max 0 (untilV F T n y - untilV F T n x) from rfl)
  obtain ⟨u, hu⟩ : ∃ u, untilV F T n y = u := ⟨_, rfl⟩
  obtain ⟨v, hv⟩ : ∃ u, untilV F T n x = u := ⟨_, rfl⟩
  rw [hu] at b0 b1 HV h1
  rw [hv] at b2 b3 HV
  have HE := Lib.hid hv
  clear h hw hu hv
  go_enter Try.func82, Try.ntmps82
  go_wp2_with fail
  refine h1.mono ?_
  rintro e w1 ⟨rfl, hP1, hS1⟩
  have h2 := HX.out w1 hP1 (Nat.le_trans hb hS1.1)
  rw [HE.out] at h2
  have HS1 := Lib.hid hS1
  clear h1 hP1 hS1
  go_wp2_with fail
  refine h2.mono ?_
  rintro e w2 ⟨rfl, hP2, hS2⟩
  have HP2 := Lib.hid hP2
  have HS2 := Lib.hid (HS1.out.trans hS2)
  clear h2 hP2 hS2
  go_wp2_with fail
  go_ret
  exact ⟨ret_int HV.out.symm, HP2.out, HS2.out⟩
theorem between_nil (x y : Int) (w : World) : Calls Try.prog 82 #[.pointer none, .int .i64 x, .int .i64 y] w fun e w' => e = .returned (.int .i64 0) ∧ w = w' := by
  have h := fun t => until_nil t w
  go_enter Try.func82, Try.ntmps82
  go_wp2_with (go_at_call 86; refine (h _).mono ?_; rintro e w' ⟨rfl, rfl⟩)
  go_ret
  exact ⟨rfl, rfl⟩
theorem between_no (P : Nat) (x y : Int) (w : World) (hc : w.cell? ⟨P, 1, none⟩ = some (.pointer none)) : Calls Try.prog 82 #[.pointer (some ⟨P, 0, none⟩), .int .i64 x, .int .i64 y] w fun e w' => e = .returned (.int .i64 0) ∧ w = w' := by
  have h := fun t => until_no P t w hc
  go_enter Try.func82, Try.ntmps82
  go_wp2_with (go_at_call 86; refine (h _).mono ?_; rintro e w' ⟨rfl, rfl⟩)
  go_ret
  exact ⟨rfl, rfl⟩

/-- Whether a second is open. -/
def openB (F T : Nat → Int) (n : Nat) (t : Int) : Bool := decide (0 ≤ t) && (decide (t ≤ 2251799813685248) && hasB F T (t % 604800) n)
theorem open_any {base P C : Nat} {a : Option Addr} {n c : Nat} {F T : Nat → Int} {w : World} (t : Int) (h : Pl base P C a n c F T w) (hw : Wk F T n) (hb : base ≤ w.heap.size) :
    Calls Try.prog 59 #[.pointer (some ⟨P, 0, none⟩), .int .i64 t] w fun e w' => e = .returned (.bool (openB F T n t)) ∧ Pl base P C a n c F T w' ∧ Stays base w w' := by
  have hcr := created_yes P C w h.bef
  have hh := has_ok a n c F T (t % 604800) w h.sps hw.len hw.good
  have e1 := h.row
  have HO := Lib.hid (show openB F T n t = (decide (0 ≤ t) && (decide (t ≤ 2251799813685248) && hasB F T (t % 604800) n)) from rfl)
  obtain ⟨b, hbb⟩ : ∃ b, hasB F T (t % 604800) n = b := ⟨_, rfl⟩
  rw [hbb] at hh HO
  have HP := Lib.hid h
  clear h hbb
  by_cases h0 : 0 ≤ t
  · have d0 : decide (0 ≤ t) = true := decide_eq_true h0
    by_cases h1 : t ≤ 2251799813685248
    · have d1 : decide (t ≤ 2251799813685248) = true := decide_eq_true h1
      rw [d0, d1] at HO
      go_enter Try.func59, Try.ntmps59
      go_wp2_with fail
      refine hcr.mono ?_
      rintro e w' ⟨rfl, rfl⟩
      clear hcr
      go_wp2_with fail
      refine hh.mono ?_
      rintro e w1 ⟨rfl, hb1⟩
      clear hh
      go_wp2_with fail
      go_ret
      exact ⟨ret_bool (by rw [HO.out]; simp), HP.out.kept hb1, Stays.below hb hb1⟩
    · have d1 : decide (t ≤ 2251799813685248) = false := decide_eq_false h1
      rw [d0, d1] at HO
      clear hh
      go_enter Try.func59, Try.ntmps59
      go_wp2_with fail
      refine hcr.mono ?_
      rintro e w' ⟨rfl, rfl⟩
      clear hcr
      go_wp2_with fail
      go_ret
      exact ⟨ret_bool (by rw [HO.out]; rfl), HP.out, Stays.refl _ _⟩
  · have d0 : decide (0 ≤ t) = false := decide_eq_false h0
    rw [d0] at HO
    clear hh
    go_enter Try.func59, Try.ntmps59
    go_wp2_with fail
    refine hcr.mono ?_
    rintro e w' ⟨rfl, rfl⟩
    clear hcr
    go_wp2_with fail
    go_ret
    exact ⟨ret_bool (by rw [HO.out]; rfl), HP.out, Stays.refl _ _⟩
theorem open_nil (t : Int) (w : World) : Calls Try.prog 59 #[.pointer none, .int .i64 t] w fun e w' => e = .returned (.bool false) ∧ w = w' := by
  have hcr := created_nil w
  go_enter Try.func59, Try.ntmps59
  go_wp2_with (go_at_call 80; refine hcr.mono ?_; rintro e w' ⟨rfl, rfl⟩)
  go_ret
  exact ⟨rfl, rfl⟩
theorem open_no (P : Nat) (t : Int) (w : World) (h : w.cell? ⟨P, 1, none⟩ = some (.pointer none)) : Calls Try.prog 59 #[.pointer (some ⟨P, 0, none⟩), .int .i64 t] w fun e w' => e = .returned (.bool false) ∧ w = w' := by
  have hcr := created_no P w h
  go_enter Try.func59, Try.ntmps59
  go_wp2_with (go_at_call 80; refine hcr.mono ?_; rintro e w' ⟨rfl, rfl⟩)
  go_ret
  exact ⟨rfl, rfl⟩

/-- The plan's row, copied. -/
def RowOf (base P C : Nat) (a : Option Addr) (n c : Nat) (F T : Nat → Int) (w : World) (e : Ending) (w' : World) : Prop := ∃ v, e = .returned v ∧ OS w' w.heap.size v (pairs F T n) ∧ Pl base P C a n c F T w' ∧ Below w.heap.size w w'
theorem row_plan {base P C : Nat} {a : Option Addr} {n c : Nat} {F T : Nat → Int} {w : World} (h : Pl base P C a n c F T w) (hw : Wk F T n) :
    Calls Try.prog 61 #[.pointer (some ⟨P, 0, none⟩)] w (RowOf base P C a n c F T w) := by
  have hcr := created_yes P C w h.bef
  have hcl := clone_any a n c F T w h.sps (by have := hw.len; omega)
  have e1 := h.row
  have HP := Lib.hid h
  clear h
  go_enter Try.func61, Try.ntmps61
  go_wp2_with fail
  refine hcr.mono ?_
  rintro e w' ⟨rfl, rfl⟩
  clear hcr
  go_wp2_with fail
  refine hcl.mono ?_
  rintro e w1 ⟨v, rfl, hO, hb1⟩
  have HO := Lib.hid hO
  clear hcl hO
  go_wp2_with fail
  go_ret
  exact ⟨v, rfl, HO.out, HP.out.kept hb1, hb1⟩
theorem row_nil (w : World) : Calls Try.prog 61 #[.pointer none] w fun e w' => e = .returned (.slice none 0 0) ∧ w = w' := by
  have hcr := created_nil w
  go_enter Try.func61, Try.ntmps61
  go_wp2_with (go_at_call 80; refine hcr.mono ?_; rintro e w' ⟨rfl, rfl⟩)
  go_ret
  exact ⟨rfl, rfl⟩
theorem row_no (P : Nat) (w : World) (h : w.cell? ⟨P, 1, none⟩ = some (.pointer none)) : Calls Try.prog 61 #[.pointer (some ⟨P, 0, none⟩)] w fun e w' => e = .returned (.slice none 0 0) ∧ w = w' := by
  have hcr := created_no P w h
  go_enter Try.func61, Try.ntmps61
  go_wp2_with (go_at_call 80; refine hcr.mono ?_; rintro e w' ⟨rfl, rfl⟩)
  go_ret
  exact ⟨rfl, rfl⟩
end Go.Proofs.Ytfeegohjgecjgaa

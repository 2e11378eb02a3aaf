/- The reference for plans: Open, Until, Between, Nth. -/
import Derived.Test.YtfeegohjgecjgaaRfB
import Derived.Test.YtfeegohjgecjgaaWkE
namespace Go.Proofs.Ytfeegohjgecjgaa
open Go.RowKit

set_option maxRecDepth 100000 in
set_option maxHeartbeats 4000000 in
theorem runtil_any (a : Option Addr) (n cap : Nat) (F T : Nat → Int) (t : Int) (w : World) (hS : Sps w a n F T) (hw : Wk F T n) :
    Calls Try.prog 99 #[.slice a n cap, .int .i64 t] w fun e w' => e = .returned (.int .i64 (untilV F T n t)) ∧ Below w.heap.size w w' := by
  have hl := rlen_any a n cap F T w hS hw.len hw.good
  have HWI := Lib.hid (fun y w1 (hb : Below w.heap.size w w1) => rwithin_any a n cap F T 0 y w1 (hS.kept hb) hw.len hw.good)
  have HB := Lib.hid (until_bounds hw t)
  obtain ⟨t0, t1⟩ := hw.total
  obtain ⟨x0, x1⟩ := cl_bounds t
  have HU := Lib.hid (show untilV F T n t = cl t / 604800 * tsum F T n + wsum F T 0 (cl t % 604800) n from rfl)
  have HWL := Lib.hid (wsum_le (cl t % 604800) hw.good n (Nat.le_refl _))
  obtain ⟨x, hcl⟩ : ∃ x, cl t = x := ⟨_, rfl⟩
  rw [hcl] at x0 x1 HU HB HWL
  obtain ⟨tot, ht⟩ : ∃ x, tsum F T n = x := ⟨_, rfl⟩
  rw [ht] at t0 t1 hl HB HU HWL
  have hcl' : min (max t 0) 2251799813685248 = x := hcl
  clear hS hw ht hcl
  obtain ⟨r, hr⟩ : ∃ r, x % 604800 = r := ⟨_, rfl⟩
  obtain ⟨q, hq⟩ : ∃ q, x / 604800 = q := ⟨_, rfl⟩
  have q0 : 0 ≤ q := by omega
  have q1 : q ≤ 3723213977 := by omega
  have r0 : 0 ≤ r := by omega
  rw [hr] at HU HWL
  rw [hq] at HU HB
  obtain ⟨m0, m1, _, _⟩ := HB.out
  obtain ⟨z, hz⟩ : ∃ z, wsum F T 0 r n = z := ⟨_, rfl⟩
  rw [hz] at HU HWL
  have HZ := Lib.hid hz
  obtain ⟨z0, z1⟩ := HWL.out
  have z2 : z ≤ 604800 := by omega
  clear hz
  by_cases hn : t < 0
  · have d1 : decide (t < 0) = true := decide_eq_true hn
    obtain rfl : x = 0 := by omega
    obtain rfl : q = 0 := by omega
    obtain rfl : r = 0 := by omega
    clear hq hr hcl' hn
    go_enter Try.func99, Try.ntmps99
    go_wp2_with fail
    refine hl.mono ?_
    rintro e w1 ⟨rfl, hb1⟩
    clear hl
    have HB1 := Lib.hid hb1
    clear hb1
    go_wp2_with fail
    refine (HWI.out 0 w1 HB1.out).mono ?_
    rintro e w2 ⟨rfl, hb2⟩
    rw [HZ.out]
    go_wp2_with fail
    go_ret
    exact ⟨ret_int (by rw [HU.out]; omega), HB1.out.trans (hb2.mono HB1.out.size)⟩
  · have d1 : decide (t < 0) = false := decide_eq_false hn
    by_cases hp : 2251799813685248 < t
    · have d2 : decide (2251799813685248 < t) = true := decide_eq_true hp
      obtain rfl : x = 2251799813685248 := by omega
      obtain rfl : q = 3723213977 := by omega
      have hr2 : r = 2251799813685248 % 604800 := hr.symm
      have HR := Lib.hid hr2
      clear hq hr hr2 hcl' hn hp
      go_enter Try.func99, Try.ntmps99
      go_wp2_with fail
      refine hl.mono ?_
      rintro e w1 ⟨rfl, hb1⟩
      clear hl
      have HB1 := Lib.hid hb1
      clear hb1
      go_wp2_with fail
      refine (HWI.out _ w1 HB1.out).mono ?_
      rintro e w2 ⟨rfl, hb2⟩
      have e1 : wsum F T 0 (2251799813685248 % 604800) n = z := by rw [← HR.out]; exact HZ.out
      have e1' := e1
      simp only [Int.reduceMod] at e1'
      rw [e1']
      clear e1 e1'
      go_wp2_with fail
      go_ret
      exact ⟨ret_int (by rw [HU.out]), HB1.out.trans (hb2.mono HB1.out.size)⟩
    · have d2 : decide (2251799813685248 < t) = false := decide_eq_false hp
      obtain rfl : x = t := by omega
      have HR := Lib.hid hr
      have HQ := Lib.hid hq
      have x2 : x ≤ 2251799813685248 := by omega
      clear hcl' hn hp hr hq
      go_enter Try.func99, Try.ntmps99
      go_wp2_with fail
      rw [HQ.out]
      refine hl.mono ?_
      rintro e w1 ⟨rfl, hb1⟩
      clear hl
      have HB1 := Lib.hid hb1
      clear hb1
      go_wp2_with fail
      rw [HR.out]
      refine (HWI.out r w1 HB1.out).mono ?_
      rintro e w2 ⟨rfl, hb2⟩
      rw [HZ.out]
      go_wp2_with fail
      go_ret
      exact ⟨ret_int HU.out.symm, HB1.out.trans (hb2.mono HB1.out.size)⟩

theorem rbetween_any (a : Option Addr) (n cap : Nat) (F T : Nat → Int) (x y : Int) (w : World) (hS : Sps w a n F T) (hw : Wk F T n) :
    Calls Try.prog 91 #[.slice a n cap, .int .i64 x, .int .i64 y] w fun e w' => e = .returned (.int .i64 (betweenV F T n x y)) ∧ Below w.heap.size w w' := by
  have h1 := runtil_any a n cap F T y w hS hw
  have HX := Lib.hid (fun w1 (hb : Below w.heap.size w w1) => runtil_any a n cap F T x w1 (hS.kept hb) hw)
  obtain ⟨_, _, b0, b1⟩ := until_bounds hw y
  obtain ⟨_, _, b2, b3⟩ := until_bounds hw x
  have HV := Lib.hid (show betweenV F T n x y = max 0 (untilV F T n y - untilV F T n x) from rfl)
  obtain ⟨u, hu⟩ : ∃ u, untilV F T n y = u := ⟨_, rfl⟩
  obtain ⟨v, hv⟩ : ∃ u, untilV F T n x = u := ⟨_, rfl⟩
  rw [hu] at b0 b1 HV h1
  rw [hv] at b2 b3 HV
  have HE := Lib.hid hv
  clear hS hw hu hv
  by_cases hlt : u - v < 0
  · have d1 : decide (u - v < 0) = true := decide_eq_true hlt
    go_enter Try.func91, Try.ntmps91
    go_wp2_with fail
    refine h1.mono ?_
    rintro e w1 ⟨rfl, hb1⟩
    have h2 := HX.out w1 hb1
    rw [HE.out] at h2
    have HB1 := Lib.hid hb1
    clear h1 hb1
    go_wp2_with fail
    refine h2.mono ?_
    rintro e w2 ⟨rfl, hb2⟩
    have HB2 := Lib.hid (HB1.out.trans (hb2.mono HB1.out.size))
    clear h2 hb2
    go_wp2_with fail
    go_ret
    exact ⟨ret_int (by rw [HV.out]; omega), HB2.out⟩
  · have d1 : decide (u - v < 0) = false := decide_eq_false hlt
    go_enter Try.func91, Try.ntmps91
    go_wp2_with fail
    refine h1.mono ?_
    rintro e w1 ⟨rfl, hb1⟩
    have h2 := HX.out w1 hb1
    rw [HE.out] at h2
    have HB1 := Lib.hid hb1
    clear h1 hb1
    go_wp2_with fail
    refine h2.mono ?_
    rintro e w2 ⟨rfl, hb2⟩
    have HB2 := Lib.hid (HB1.out.trans (hb2.mono HB1.out.size))
    clear h2 hb2
    go_wp2_with fail
    go_ret
    exact ⟨ret_int (by rw [HV.out]; omega), HB2.out⟩

end Go.Proofs.Ytfeegohjgecjgaa

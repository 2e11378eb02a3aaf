/- The reference for plans: Open, Until, Between, Nth. -/
import Derived.Test.YthlmeppahcjlgaaRfB
import Derived.Test.YthlmeppahcjlgaaWkE
namespace Go.Proofs.Ythlmeppahcjlgaa
open Go.RowKit

theorem ropen_any (a : Option Addr) (n cap : Nat) (F T : Nat → Int) (t : Int) (w : World) (hS : Sps w a n F T) (hw : Wk F T n) :
    Calls Try.prog 35 #[.slice a n cap, .int .i64 t] w fun e w' => e = .returned (.bool (openB F T n t)) ∧ Below w.heap.size w w' := by
  have hh := rhas_any a n cap F T (t % 604800) w hS hw.len hw.good
  have HO := Lib.hid (show openB F T n t = (decide (0 ≤ t) && (decide (t ≤ 2251799813685248) && hasB F T (t % 604800) n)) from rfl)
  obtain ⟨b, hbb⟩ : ∃ b, hasB F T (t % 604800) n = b := ⟨_, rfl⟩
  rw [hbb] at hh HO
  clear hS hw hbb
  by_cases h0 : 0 ≤ t
  · have d0 : decide (0 ≤ t) = true := decide_eq_true h0
    by_cases h1 : t ≤ 2251799813685248
    · have d1 : decide (t ≤ 2251799813685248) = true := decide_eq_true h1
      rw [d0, d1] at HO
      go_enter Try.func35, Try.ntmps35
      go_wp2_with fail
      refine hh.mono ?_
      rintro e w1 ⟨rfl, hb1⟩
      clear hh
      go_wp2_with fail
      go_ret
      exact ⟨ret_bool (by rw [HO.out]; simp), hb1⟩
    · have d1 : decide (t ≤ 2251799813685248) = false := decide_eq_false h1
      rw [d0, d1] at HO
      clear hh
      go_enter Try.func35, Try.ntmps35
      go_wp2_with fail
      go_ret
      exact ⟨ret_bool (by rw [HO.out]; rfl), Below.refl _ _⟩
  · have d0 : decide (0 ≤ t) = false := decide_eq_false h0
    rw [d0] at HO
    clear hh
    go_enter Try.func35, Try.ntmps35
    go_wp2_with fail
    go_ret
    exact ⟨ret_bool (by rw [HO.out]; rfl), Below.refl _ _⟩

set_option maxRecDepth 100000 in
set_option maxHeartbeats 4000000 in
theorem runtil_any (a : Option Addr) (n cap : Nat) (F T : Nat → Int) (t : Int) (w : World) (hS : Sps w a n F T) (hw : Wk F T n) :
    Calls Try.prog 40 #[.slice a n cap, .int .i64 t] w fun e w' => e = .returned (.int .i64 (untilV F T n t)) ∧ Below w.heap.size w w' := by
  have hl := rlen_any a n cap F T w hS hw.len hw.good
  have HWI := Lib.hid (fun y w1 (hb : Below w.heap.size w w1) => rwithin_any a n cap F T 0 y w1 (hS.kept hb) hw.len hw.good)
  have HB := Lib.hid (until_bounds hw t)
  obtain ⟨t0, t1⟩ := hw.total
  obtain ⟨x0, x1⟩ := cl_bounds t
  have HU := Lib.hid (show untilV F T n t = cl t / 604800 * tsum F T n + wsum F T 0 (cl t % 604800) n from rfl)
  have HWL := Lib.hid (wsum_le (cl t % 604800) hw.good n (Nat.le_refl _))
  obtain ⟨x, hcl⟩ : ∃ x, cl t = x := ⟨_, rfl⟩
  rw [hcl] at x0 x1 HU HB HWL
  obtain ⟨tot, ht⟩ : ∃ x, tsum F T n = x := ⟨_, rfl⟩
  rw [ht] at t0 t1 hl HB HU HWL
  have hcl' : min (max t 0) 2251799813685248 = x := hcl
  clear hS hw ht hcl
  obtain ⟨r, hr⟩ : ∃ r, x % 604800 = r := ⟨_, rfl⟩
  obtain ⟨q, hq⟩ : ∃ q, x / 604800 = q := ⟨_, rfl⟩
  have q0 : 0 ≤ q := by omega
  have q1 : q ≤ 3723213977 := by omega
  have r0 : 0 ≤ r := by omega
  rw [hr] at HU HWL
  rw [hq] at HU HB
  obtain ⟨m0, m1, _, _⟩ := HB.out
  obtain ⟨z, hz⟩ : ∃ z, wsum F T 0 r n = z := ⟨_, rfl⟩
  rw [hz] at HU HWL
  have HZ := Lib.hid hz
  obtain ⟨z0, z1⟩ := HWL.out
  have z2 : z ≤ 604800 := by omega
  clear hz
  by_cases hn : t < 0
  · have d1 : decide (t < 0) = true := decide_eq_true hn
    obtain rfl : x = 0 := by omega
    obtain rfl : q = 0 := by omega
    obtain rfl : r = 0 := by omega
    clear hq hr hcl' hn
    go_enter Try.func40, Try.ntmps40
    go_wp2_with fail
    refine hl.mono ?_
    rintro e w1 ⟨rfl, hb1⟩
    clear hl
    have HB1 := Lib.hid hb1
    clear hb1
    go_wp2_with fail
    refine (HWI.out 0 w1 HB1.out).mono ?_
    rintro e w2 ⟨rfl, hb2⟩
    rw [HZ.out]
    go_wp2_with fail
    go_ret
    exact ⟨ret_int (by rw [HU.out]; omega), HB1.out.trans (hb2.mono HB1.out.size)⟩
  · have d1 : decide (t < 0) = false := decide_eq_false hn
    by_cases hp : 2251799813685248 < t
    · have d2 : decide (2251799813685248 < t) = true := decide_eq_true hp
      obtain rfl : x = 2251799813685248 := by omega
      obtain rfl : q = 3723213977 := by omega
      have hr2 : r = 2251799813685248 % 604800 := hr.symm
      have HR := Lib.hid hr2
      clear hq hr hr2 hcl' hn hp
      go_enter Try.func40, Try.ntmps40
      go_wp2_with fail
      refine hl.mono ?_
      rintro e w1 ⟨rfl, hb1⟩
      clear hl
      have HB1 := Lib.hid hb1
      clear hb1
      go_wp2_with fail
      refine (HWI.out _ w1 HB1.out).mono ?_
      rintro e w2 ⟨rfl, hb2⟩
      have e1 : wsum F T 0 (2251799813685248 % 604800) n = z := by rw [← HR.out]; exact HZ.out
      have e1' := e1
      simp only [Int.reduceMod] at e1'
      rw [e1']
      clear e1 e1'
      go_wp2_with fail
      go_ret
      exact ⟨ret_int (by rw [HU.out]), HB1.out.trans (hb2.mono HB1.out.size)⟩
    · have d2 : decide (2251799813685248 < t) = false := decide_eq_false hp
      obtain rfl : x = t := by omega
      have HR := Lib.hid hr
      have HQ := Lib.hid hq
      have x2 : x ≤ 2251799813685248 := by omega
      clear hcl' hn hp hr hq
      go_enter Try.func40, Try.ntmps40
      go_wp2_with fail
      rw [HQ.out]
      refine hl.mono ?_
      rintro e w1 ⟨rfl, hb1⟩
      clear hl
      have HB1 := Lib.hid hb1
      clear hb1
      go_wp2_with fail
      rw [HR.out]
      refine (HWI.out r w1 HB1.out).mono ?_
      rintro e w2 ⟨rfl, hb2⟩
      rw [HZ.out]
      go_wp2_with fail
      go_ret
      exact ⟨ret_int HU.out.symm, HB1.out.trans (hb2.mono HB1.out.size)⟩

theorem rbetween_any (a : Option Addr) (n cap : Nat) (F T : Nat → Int) (x y : Int) (w : World) (hS : Sps w a n F T) (hw : Wk F T n) :
    Calls Try.prog 42 #[.slice a n cap, .int .i64 x, .int .i64 y] w fun e w' => e = .returned (.int .i64 (betweenV F T n x y)) ∧ Below w.heap.size w w' := by
  have h1 := runtil_any a n cap F T y w hS hw
  have HX := Lib.hid (fun w1 (hb : Below w.heap.size w w1) => runtil_any a n cap F T x w1 (hS.kept hb) hw)
  obtain ⟨_, _, b0, b1⟩ := until_bounds hw y
  obtain ⟨_, _, b2, b3⟩ := until_bounds hw x
  have HV := Lib.hid (show betweenV F T n x y = max 0 (untilV F T n y - untilV F T n x) from rfl)
  obtain ⟨u, hu⟩ : ∃ u, untilV F T n y = u := ⟨_, rfl⟩
  obtain ⟨v, hv⟩ : ∃ u, untilV F T n x = u := ⟨_, rfl⟩
  rw [hu] at b0 b1 HV h1
  rw [hv] at b2 b3 HV
  have HE := Lib.hid hv
  clear hS hw hu hv
  by_cases hlt : u - v < 0
  · have d1 : decide (u - v < 0) = true := decide_eq_true hlt
    go_enter Try.func42, Try.ntmps42
    go_wp2_with fail
    refine h1.mono ?_
    rintro e w1 ⟨rfl, hb1⟩
    have h2 := HX.out w1 hb1
    rw [HE.out] at h2
    have HB1 := Lib.hid hb1
    clear h1 hb1
    go_wp2_with fail
    refine h2.mono ?_
    rintro e w2 ⟨rfl, hb2⟩
    have HB2 := Lib.hid (HB1.out.trans (hb2.mono HB1.out.size))
    clear h2 hb2
    go_wp2_with fail
    go_ret
    exact ⟨ret_int (by rw [HV.out]; omega), HB2.out⟩
  · have d1 : decide (u - v < 0) = false := decide_eq_false hlt
    go_enter Try.func42, Try.ntmps42
    go_wp2_with fail
    refine h1.mono ?_
    rintro e w1 ⟨rfl, hb1⟩
    have h2 := HX.out w1 hb1
    rw [HE.out] at h2
    have HB1 := Lib.hid hb1
    clear h1 hb1
    go_wp2_with fail
    refine h2.mono ?_
    rintro e w2 ⟨rfl, hb2⟩
    have HB2 := Lib.hid (HB1.out.trans (hb2.mono HB1.out.size))
    clear h2 hb2
    go_wp2_with fail
    go_ret
    exact ⟨ret_int (by rw [HV.out]; omega), HB2.out⟩

set_option maxRecDepth 100000 in
set_option maxHeartbeats 8000000 in
theorem rnth8_any (a : Option Addr) (n cap : Nat) (F T : Nat → Int) (m : Int) (w : World) (hS : Sps w a n F T) (hw : Wk F T n) (hm1 : m ≤ 9223372036854775807) :
    Calls Try.prog 38 #[.slice a n cap, .int .i64 m] w fun e w' => e = .returned (.tuple #[.int .i64 (pnV F T n m), .int .i64 (pnE F T n m)]) ∧ Below w.heap.size w w' := by
  have htot := rlen_any a n cap F T w hS hw.len hw.good
  obtain ⟨t0, t1⟩ := hw.total
  have HN := Lib.hid (fun h => @pn_neg F T n m h)
  have HCL := Lib.hid (fun h h0 => @pn_closed F T n m h h0)
  have HF := Lib.hid (fun h h0 h1 => @pn_far F T n m h h0 h1)
  have HPA := Lib.hid (fun h h0 h1 h2 => @pn_past F T n m h h0 h1 h2)
  have HOK := Lib.hid (fun h h0 h1 h2 => @pn_ok F T n m h h0 h1 h2)
  have HNB := Lib.hid (fun x (h0 : 0 ≤ x) (h1 : x < tsum F T n) => nth_bounds (m := x) hw h0 h1)
  have HNY := Lib.hid (fun x (h0 : 0 ≤ x) (h1 : x < tsum F T n) w1 (hb : Below w.heap.size w w1) => rnth_yes a n cap F T x w1 (hS.kept hb) hw.len hw.good h0 h1)
  obtain ⟨tot, ht⟩ : ∃ x, tsum F T n = x := ⟨_, rfl⟩
  rw [ht] at t0 t1 htot HCL HF HPA HOK HNB HNY
  obtain ⟨v, hv⟩ : ∃ x, pnV F T n m = x := ⟨_, rfl⟩
  obtain ⟨er, he⟩ : ∃ x, pnE F T n m = x := ⟨_, rfl⟩
  rw [hv, he] at HN HCL HF HPA HOK ⊢
  clear hS hw ht hv he
  by_cases h0 : m < 0
  · have d0 : decide (m < 0) = true := decide_eq_true h0
    obtain ⟨rfl, rfl⟩ := HN.out h0
    go_enter Try.func38, Try.ntmps38
    go_wp2_with fail
    go_ret2
    exact ⟨rfl, Below.refl _ _⟩
  have d0 : decide (m < 0) = false := decide_eq_false h0
  have m0 : 0 ≤ m := by omega
  by_cases hz : tot = 0
  · obtain ⟨rfl, rfl⟩ := HCL.out m0 hz
    have d1 : (tot == 0) = true := by simp [hz]
    clear hz
    go_enter Try.func38, Try.ntmps38
    go_wp2_with fail
    refine htot.mono ?_
    rintro e w1 ⟨rfl, hb1⟩
    go_wp2_with fail
    go_ret2
    exact ⟨rfl, hb1⟩
  have d1 : (tot == 0) = false := by simp [hz]
  have t2 : 1 ≤ tot := by omega
  have q0 : 0 ≤ m / tot := Int.ediv_nonneg m0 (by omega)
  have q1 : m / tot ≤ m := Int.ediv_le_self tot m0
  have r0 : 0 ≤ m % tot := Int.emod_nonneg m hz
  have r1 : m % tot < tot := Int.emod_lt_of_pos m (by omega)
  by_cases hf : 3723213977 < m / tot
  · obtain ⟨rfl, rfl⟩ := HF.out m0 hz hf
    have d2 : decide (3723213977 < m / tot) = true := decide_eq_true hf
    clear hz
    go_enter Try.func38, Try.ntmps38
    go_wp2_with fail
    refine htot.mono ?_
    rintro e w1 ⟨rfl, hb1⟩
    go_wp2_with fail
    go_ret2
    exact ⟨rfl, hb1⟩
  have d2 : decide (3723213977 < m / tot) = false := decide_eq_false hf
  have hny := HNY.out (m % tot) r0 r1
  have hnb := HNB.out (m % tot) r0 r1
  have HPB := Lib.hid (HPA.out m0 hz (by omega))
  have HOL := Lib.hid (HOK.out m0 hz (by omega))
  obtain ⟨z, hzz⟩ : ∃ z, nthV F T n (m % tot) = z := ⟨_, rfl⟩
  rw [hzz] at hnb HPB HOL
  simp only [hzz] at hny
  have z0 := hnb.1
  have z1 := hnb.2
  have HNY := Lib.hid hny
  clear hny hnb hzz
  obtain ⟨q, hq⟩ : ∃ q, m / tot = q := ⟨_, rfl⟩
  obtain ⟨r, hr⟩ : ∃ r, m % tot = r := ⟨_, rfl⟩
  have q2 : q ≤ 3723213977 := by omega
  have HQ := Lib.hid hq
  have HR := Lib.hid hr
  rw [hq] at HPB HOL q0
  rw [hr] at r0 r1 HNY
  clear hr q1 hf
  go_enter Try.func38, Try.ntmps38
  go_wp2_with fail
  refine htot.mono ?_
  rintro e w1 ⟨rfl, hb1⟩
  clear htot
  have HB1 := Lib.hid hb1
  clear hb1
  have hr := HR.out
  go_wp2_with fail
  refine (HNY.out w1 HB1.out).mono ?_
  rintro e w2 ⟨rfl, hb2⟩
  have HB2 := Lib.hid (HB1.out.trans (hb2.mono HB1.out.size))
  clear hb2
  by_cases hp : 2251799813685248 < q * 604800 + z
  · have d3 : decide (2251799813685248 < z + q * 604800) = true := decide_eq_true (by omega)
    obtain ⟨rfl, rfl⟩ := HPB.out hp
    go_wp2_with fail
    go_ret2
    exact ⟨rfl, HB2.out⟩
  · have d3 : decide (2251799813685248 < z + q * 604800) = false := decide_eq_false (by omega)
    have HV := Lib.hid (HOL.out (by omega))
    go_wp2_with fail
    go_ret2
    exact ⟨ret_two (by rw [HV.out.1]; omega) HV.out.2.symm, HB2.out⟩
end Go.Proofs.Ythlmeppahcjlgaa

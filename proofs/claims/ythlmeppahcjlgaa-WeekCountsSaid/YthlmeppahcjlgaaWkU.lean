/- WeekCounts, walked. -/
import Derived.Test.YthlmeppahcjlgaaWkT
namespace Go.Proofs.Ythlmeppahcjlgaa
open Go.RowKit

theorem counts_skip (a : Option Addr) (n cap : Nat) (F T : Nat → Int) (x y m : Int) (w : World) (hS : Sps w a n F T) (h : 100 < n ∨ (n ≤ 100 ∧ (wrongE F T n != 0) = true)) :
    Calls Try.prog 8 #[.slice a n cap, .int .i64 x, .int .i64 y, .int .i64 m] w fun e w' => e = .returned (.bool true) ∧ Below w.heap.size w w' := by
  have hm := hS.1
  unfold maxLen at hm
  have hr := wrong_any a n cap F T w hS
  clear hS
  rcases h with h | ⟨h, hz⟩
  · have hl := lives8 w
    have d1 : decide (100 < (n : Int)) = true := decide_eq_true (by omega)
    go_enter Try.func8, Try.ntmps8
    go_wp2_with fail
    refine hl.mono ?_
    rintro e w1 ⟨rfl, hb⟩
    go_wp2_with fail
    go_ret
    exact ⟨rfl, hb⟩
  · have d1 : decide (100 < (n : Int)) = false := decide_eq_false (by omega)
    generalize wrongE F T n = z at hr hz
    go_enter Try.func8, Try.ntmps8
    go_wp2_with fail
    refine hr.mono ?_
    rintro e w1 ⟨rfl, hb⟩
    clear hr
    have hl := lives8 w1
    go_wp2_with fail
    refine hl.mono ?_
    rintro e w2 ⟨rfl, hb2⟩
    go_wp2_with fail
    go_ret
    exact ⟨rfl, hb.trans (hb2.mono hb.size)⟩

set_option maxRecDepth 100000 in
set_option maxHeartbeats 8000000 in
theorem counts_ok (a : Option Addr) (n cap : Nat) (F T : Nat → Int) (x y m : Int) (w : World) (hS : Sps w a n F T) (hw : Wk F T n) (hm1 : m ≤ 9223372036854775807) :
    Calls Try.prog 8 #[.slice a n cap, .int .i64 x, .int .i64 y, .int .i64 m] w fun e w' => e = .returned (.bool true) ∧ Below w.heap.size w w' := by
  have hn := hw.len
  have d1 : decide (100 < (n : Int)) = false := decide_eq_false (by omega)
  have h1 := wrong_any a n cap F T w hS
  rw [wk_wrong hw] at h1
  have HC := Lib.hid hS
  have HW := Lib.hid hw
  have HM : Hid (m ≤ 9223372036854775807) := Lib.hid hm1
  obtain ⟨v, hv⟩ : ∃ v, pnV F T n m = v := ⟨_, rfl⟩
  obtain ⟨er, he⟩ : ∃ v, pnE F T n m = v := ⟨_, rfl⟩
  obtain ⟨u, hu⟩ : ∃ v, untilV F T n x = v := ⟨_, rfl⟩
  obtain ⟨bt, hbt⟩ : ∃ v, betweenV F T n x y = v := ⟨_, rfl⟩
  have HV := Lib.hid hv
  have HE := Lib.hid he
  have HU := Lib.hid hu
  have HBT := Lib.hid hbt
  clear hS hw hv he hu hbt hm1
  go_enter Try.func8, Try.ntmps8
  go_wp2_with fail
  refine h1.mono ?_
  rintro e w1 ⟨rfl, hb1⟩
  have h2 := new_ok a n cap F T w1 (HC.out.kept hb1) HW.out
  have HB1 := Lib.hid hb1
  clear h1 hb1
  go_wp2_with fail
  refine h2.mono ?_
  rintro e w2 ⟨P, C, pa, pc, rfl, hP2, hb2⟩
  have HB2 := Lib.hid (HB1.out.trans (hb2.mono HB1.out.size))
  have hP2' : Pl w.heap.size P C pa n pc F T w2 := { hP2 with hP := Nat.le_trans HB1.out.size hP2.hP, hC := Nat.le_trans HB1.out.size hP2.hC }
  have h3 := nth_plan m hP2' HW.out HB2.out.size HM.out
  rw [HV.out, HE.out] at h3
  clear h2 hb2 hP2 hP2'
  go_wp2_with fail
  refine h3.mono ?_
  rintro e w3 ⟨rfl, hP3, hS3⟩
  have HB3 := Lib.hid (hS3.2 w HB2.out)
  have h4 := rnth8_any a n cap F T m w3 (HC.out.kept HB3.out) HW.out HM.out
  rw [HV.out, HE.out] at h4
  have HP3 := Lib.hid hP3
  clear h3 hP3 hS3
  go_wp2_with fail
  refine h4.mono ?_
  rintro e w4 ⟨rfl, hb4⟩
  have HB4 := Lib.hid (HB3.out.trans (hb4.mono HB3.out.size))
  have h5 := until_any x (HP3.out.kept hb4) HW.out HB4.out.size
  rw [HU.out] at h5
  clear h4 hb4
  go_wp2_with fail
  refine h5.mono ?_
  rintro e w5 ⟨rfl, hP5, hS5⟩
  have HB5 := Lib.hid (hS5.2 w HB4.out)
  have h6 := runtil_any a n cap F T x w5 (HC.out.kept HB5.out) HW.out
  rw [HU.out] at h6
  have HP5 := Lib.hid hP5
  clear h5 hP5 hS5
  go_wp2_with fail
  refine h6.mono ?_
  rintro e w6 ⟨rfl, hb6⟩
  have HB6 := Lib.hid (HB5.out.trans (hb6.mono HB5.out.size))
  have h7 := between_any x y (HP5.out.kept hb6) HW.out HB6.out.size
  rw [HBT.out] at h7
  clear h6 hb6
  go_wp2_with fail
  refine h7.mono ?_
  rintro e w7 ⟨rfl, hP7, hS7⟩
  have HB7 := Lib.hid (hS7.2 w HB6.out)
  have h8 := rbetween_any a n cap F T x y w7 (HC.out.kept HB7.out) HW.out
  rw [HBT.out] at h8
  clear h7 hP7 hS7
  go_wp2_with fail
  refine h8.mono ?_
  rintro e w8 ⟨rfl, hb8⟩
  have HB8 := Lib.hid (HB7.out.trans (hb8.mono HB7.out.size))
  clear h8 hb8
  have hl := lives8 w8
  go_wp2_with fail
  refine hl.mono ?_
  rintro e w9 ⟨rfl, hb9⟩
  go_wp2_with fail
  go_ret
  exact ⟨rfl, HB8.out.trans (hb9.mono HB8.out.size)⟩
end Go.Proofs.Ythlmeppahcjlgaa

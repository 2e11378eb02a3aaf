/- SpanSides, walked. -/
import Derived.Test.YthlmeppahcjlgaaSpS
namespace Go.Proofs.Ythlmeppahcjlgaa
open Go.RowKit

/-- What leads past the law's work: the example alone. -/
theorem sides_skip (a : Option Addr) (n cap : Nat) (F T : Nat → Int) (x m : Int) (w : World) (hS : Sps w a n F T) (h : 100 < n ∨ (n ≤ 100 ∧ (rowE F T n != 0) = true) ∨ (n ≤ 100 ∧ (rowE F T n != 0) = false ∧ (x < 0 ∨ 1125899906842624 < x))) :
    Calls Try.prog 5 #[.slice a n cap, .int .i64 x, .int .i64 m] w fun e w' => e = .returned (.bool true) ∧ Below w.heap.size w w' := by
  have hm := hS.1
  unfold maxLen at hm
  have hr := row_any a n cap F T w hS
  clear hS
  rcases h with h | ⟨h, hz⟩ | ⟨h, hz, hx⟩
  · have hl := lives7 w
    have d1 : decide (100 < (n : Int)) = true := decide_eq_true (by omega)
    go_enter Try.func5, Try.ntmps5
    go_wp2_with fail
    refine hl.mono ?_
    rintro e w1 ⟨rfl, hb⟩
    go_wp2_with fail
    go_ret
    exact ⟨rfl, hb⟩
  · have d1 : decide (100 < (n : Int)) = false := decide_eq_false (by omega)
    generalize rowE F T n = z at hr hz
    go_enter Try.func5, Try.ntmps5
    go_wp2_with fail
    refine hr.mono ?_
    rintro e w1 ⟨rfl, hb⟩
    clear hr
    have hl := lives7 w1
    go_wp2_with fail
    refine hl.mono ?_
    rintro e w2 ⟨rfl, hb2⟩
    go_wp2_with fail
    go_ret
    exact ⟨rfl, hb.trans (hb2.mono hb.size)⟩
  · have d1 : decide (100 < (n : Int)) = false := decide_eq_false (by omega)
    generalize rowE F T n = z at hr hz
    by_cases hx0 : x < 0
    · have d2 : decide (x < 0) = true := decide_eq_true hx0
      go_enter Try.func5, Try.ntmps5
      go_wp2_with fail
      refine hr.mono ?_
      rintro e w1 ⟨rfl, hb⟩
      clear hr
      have hl := lives7 w1
      go_wp2_with fail
      refine hl.mono ?_
      rintro e w2 ⟨rfl, hb2⟩
      go_wp2_with fail
      go_ret
      exact ⟨rfl, hb.trans (hb2.mono hb.size)⟩
    · have d2 : decide (x < 0) = false := decide_eq_false hx0
      have d3 : decide (1125899906842624 < x) = true := decide_eq_true (by omega)
      go_enter Try.func5, Try.ntmps5
      go_wp2_with fail
      refine hr.mono ?_
      rintro e w1 ⟨rfl, hb⟩
      clear hr
      have hl := lives7 w1
      go_wp2_with fail
      refine hl.mono ?_
      rintro e w2 ⟨rfl, hb2⟩
      go_wp2_with fail
      go_ret
      exact ⟨rfl, hb.trans (hb2.mono hb.size)⟩

set_option maxRecDepth 100000 in
set_option maxHeartbeats 8000000 in
theorem sides_ok (a : Option Addr) (n cap : Nat) (F T : Nat → Int) (x m : Int) (w : World) (hS : Sps w a n F T) (hn : n ≤ 32) (hg : good F T n = true) (hx0 : 0 ≤ x) (hx1 : x ≤ 1125899906842624) (hm1 : m ≤ 9223372036854775807) :
    Calls Try.prog 5 #[.slice a n cap, .int .i64 x, .int .i64 m] w fun e w' => e = .returned (.bool true) ∧ Below w.heap.size w w' := by
  have hr := row_any a n cap F T w hS
  rw [rowE_ok hn hg] at hr
  have HW := Lib.hid (fun y z w1 hb => within_ok a n cap F T y z w1 (hS.kept hb) hn hg)
  have HL := Lib.hid (fun w1 hb => len_ok a n cap F T w1 (hS.kept hb) hn hg)
  have HH := Lib.hid (fun y w1 hb => has_ok a n cap F T y w1 (hS.kept hb) hn hg)
  have HY := Lib.hid (fun h0 h1 w1 hb => nth_yes a n cap F T m w1 (hS.kept hb) hn hg h0 h1)
  have HP := Lib.hid (fun h0 h1 w1 hb => nth_past a n cap F T m w1 (hS.kept hb) hn hg h0 hm1 h1)
  have HS1 := Lib.hid (wsum_sides hg x hx0 hx1 n (Nat.le_refl _))
  have HS2 := Lib.hid (wsum_all hg n (Nat.le_refl _))
  have HS3 := Lib.hid (fun h0 h1 => within_nth (m := m) hg h0 h1)
  have HS4 := Lib.hid (wsum_one hg x n (Nat.le_refl _))
  have t0 := (tsum_bounds hg n (Nat.le_refl _)).1
  have t1 : tsum F T n ≤ 36028797018963968 := by have := (tsum_bounds hg n (Nat.le_refl _)).2; omega
  have p0 := wsum_bounds 0 x hg n (Nat.le_refl _)
  have p1 := wsum_bounds x 1125899906842624 hg n (Nat.le_refl _)
  have d1 : decide (100 < (n : Int)) = false := decide_eq_false (by omega)
  have d2 : decide (x < 0) = false := decide_eq_false (by omega)
  have d3 : decide (1125899906842624 < x) = false := decide_eq_false (by omega)
  clear hS
  obtain ⟨s0, e0⟩ : ∃ z, wsum F T 0 x n = z := ⟨_, rfl⟩
  obtain ⟨s1, e1⟩ : ∃ z, wsum F T x 1125899906842624 n = z := ⟨_, rfl⟩
  obtain ⟨ts, e2⟩ : ∃ z, tsum F T n = z := ⟨_, rfl⟩
  have HE0 := Lib.hid e0
  have HE1 := Lib.hid e1
  have HE2 := Lib.hid e2
  rw [e0, e1, e2] at HS1
  rw [e2] at HS2
  rw [e0] at p0
  rw [e1] at p1
  rw [e2] at t0 t1
  have q1 : s0 + s1 = ts := HS1.out
  have q2 : IntKind.i64.wrap (s0 + s1) = ts := by rw [q1]; exact IntWalk.i64_in _ (by omega)
  have q3 : (ts != ts) = false := by simp
  have P0 : 0 ≤ s0 := p0.1
  have P0' : s0 ≤ 36028797018963968 := by omega
  have P1 : 0 ≤ s1 := p1.1
  have P1' : s1 ≤ 36028797018963968 := by omega
  have Q1 := Lib.hid q1
  clear e0 e1 e2 p0 p1 q1 hg
  go_enter Try.func5, Try.ntmps5
  go_wp2_with fail
  refine hr.mono ?_
  rintro e w1 ⟨rfl, hb1⟩
  clear hr
  have HB1 := Lib.hid hb1
  go_wp2_with fail
  refine (HW.out 0 x w1 HB1.out).mono ?_
  rintro e w2 ⟨rfl, hb2⟩
  rw [HE0.out]
  have HB2 := Lib.hid (HB1.out.trans (hb2.mono HB1.out.size))
  clear hb1 hb2
  go_wp2_with fail
  refine (HW.out x 1125899906842624 w2 HB2.out).mono ?_
  rintro e w3 ⟨rfl, hb3⟩
  rw [HE1.out]
  have HB3 := Lib.hid (HB2.out.trans (hb3.mono HB2.out.size))
  clear hb3
  go_wp2_with fail
  refine (HL.out w3 HB3.out).mono ?_
  rintro e w4 ⟨rfl, hb4⟩
  rw [HS2.out]
  have HB4 := Lib.hid (HB3.out.trans (hb4.mono HB3.out.size))
  clear hb4
  -- GENERATED
  by_cases hm0 : 0 ≤ m
  · have d4 : decide (0 ≤ m) = true := decide_eq_true hm0
    by_cases hmt : m < ts
    · have d5 : decide (m < ts) = true := decide_eq_true hmt
      obtain ⟨z1, z2⟩ := HS3.out hm0 (by rw [HE2.out]; exact hmt)
      have hy := HY.out hm0 (by rw [HE2.out]; exact hmt) w4 HB4.out
      obtain ⟨v, hv⟩ : ∃ v, nthV F T n m = v := ⟨_, rfl⟩
      rw [hv] at hy z1 z2
      have Z1 := Lib.hid z1
      have Z2 := Lib.hid z2
      have q5 : (m != m) = false := by simp
      clear hv z1 z2
      go_wp2_with fail
      refine hy.mono ?_
      rintro e w5 ⟨rfl, hb5⟩
      have HB5 := Lib.hid (HB4.out.trans (hb5.mono HB4.out.size))
      clear hb5 hy
      go_wp2_with fail
      refine (HL.out w5 HB5.out).mono ?_
      rintro e w6 ⟨rfl, hb6⟩
      rw [HS2.out]
      have HB6 := Lib.hid (HB5.out.trans (hb6.mono HB5.out.size))
      clear hb6
      go_wp2_with fail
      refine (HH.out v w6 HB6.out).mono ?_
      rintro e w7 ⟨rfl, hb7⟩
      rw [Z1.out]
      have HB7 := Lib.hid (HB6.out.trans (hb7.mono HB6.out.size))
      clear hb7
      go_wp2_with fail
      refine (HW.out 0 v w7 HB7.out).mono ?_
      rintro e w8 ⟨rfl, hb8⟩
      rw [Z2.out]
      have HB8 := Lib.hid (HB7.out.trans (hb8.mono HB7.out.size))
      clear hb8
      by_cases hh : hasB F T x n = true
      · by_cases hx : x = 1125899906842624
        · have dH : (x == 1125899906842624) = true := by simp [hx]
          have x5 : x + 1 ≤ 1125899906842625 := by omega
          clear hx
          go_wp2_with fail
          refine (HH.out x w8 HB8.out).mono ?_
          rintro e x1 ⟨rfl, hbx1⟩
          rw [hh]
          have HX1 := Lib.hid (HB8.out.trans (hbx1.mono HB8.out.size))
          clear hbx1
          have hl := lives7 x1
          go_wp2_with fail
          refine hl.mono ?_
          rintro e x2 ⟨rfl, hbx2⟩
          go_wp2_with fail
          go_ret
          exact ⟨rfl, HX1.out.trans (hbx2.mono HX1.out.size)⟩
        · have dH : (x == 1125899906842624) = false := by simp [hx]
          have HS4' := HS4.out
          have HE5 : (if hasB F T x n = true then (1 : Int) else 0) = 1 := if_pos hh
          have HS4' := Lib.hid HS4'
          have HE5 := Lib.hid HE5
          have x5 : x + 1 ≤ 1125899906842625 := by omega
          clear hx
          go_wp2_with fail
          refine (HH.out x w8 HB8.out).mono ?_
          rintro e x1 ⟨rfl, hbx1⟩
          rw [hh]
          have HX1 := Lib.hid (HB8.out.trans (hbx1.mono HB8.out.size))
          clear hbx1
          go_wp2_with fail
          refine (HW.out x (x + 1) x1 HX1.out).mono ?_
          rintro e x2 ⟨rfl, hbx2⟩
          rw [HS4'.out, HE5.out]
          have HX2 := Lib.hid (HX1.out.trans (hbx2.mono HX1.out.size))
          clear hbx2
          have hl := lives7 x2
          go_wp2_with fail
          refine hl.mono ?_
          rintro e x3 ⟨rfl, hbx3⟩
          go_wp2_with fail
          go_ret
          exact ⟨rfl, HX2.out.trans (hbx3.mono HX2.out.size)⟩
      · have hh : hasB F T x n = false := by simpa using hh
        by_cases hx : x = 1125899906842624
        · have dH : (x == 1125899906842624) = true := by simp [hx]
          have x5 : x + 1 ≤ 1125899906842625 := by omega
          clear hx
          go_wp2_with fail
          refine (HH.out x w8 HB8.out).mono ?_
          rintro e x1 ⟨rfl, hbx1⟩
          rw [hh]
          have HX1 := Lib.hid (HB8.out.trans (hbx1.mono HB8.out.size))
          clear hbx1
          have hl := lives7 x1
          go_wp2_with fail
          refine hl.mono ?_
          rintro e x2 ⟨rfl, hbx2⟩
          go_wp2_with fail
          go_ret
          exact ⟨rfl, HX1.out.trans (hbx2.mono HX1.out.size)⟩
        · have dH : (x == 1125899906842624) = false := by simp [hx]
          have HS4' := HS4.out
          have HE5 : (if hasB F T x n = true then (1 : Int) else 0) = 0 := if_neg (by simp [hh])
          have HS4' := Lib.hid HS4'
          have HE5 := Lib.hid HE5
          have x5 : x + 1 ≤ 1125899906842625 := by omega
          clear hx
          go_wp2_with fail
          refine (HH.out x w8 HB8.out).mono ?_
          rintro e x1 ⟨rfl, hbx1⟩
          rw [hh]
          have HX1 := Lib.hid (HB8.out.trans (hbx1.mono HB8.out.size))
          clear hbx1
          go_wp2_with fail
          refine (HW.out x (x + 1) x1 HX1.out).mono ?_
          rintro e x2 ⟨rfl, hbx2⟩
          rw [HS4'.out, HE5.out]
          have HX2 := Lib.hid (HX1.out.trans (hbx2.mono HX1.out.size))
          clear hbx2
          have hl := lives7 x2
          go_wp2_with fail
          refine hl.mono ?_
          rintro e x3 ⟨rfl, hbx3⟩
          go_wp2_with fail
          go_ret
          exact ⟨rfl, HX2.out.trans (hbx3.mono HX2.out.size)⟩
    · have d5 : decide (m < ts) = false := decide_eq_false hmt
      have hy := HP.out hm0 (by rw [HE2.out]; omega) w4 HB4.out
      go_wp2_with fail
      refine hy.mono ?_
      rintro e w5 ⟨rfl, hb5⟩
      have HB5 := Lib.hid (HB4.out.trans (hb5.mono HB4.out.size))
      clear hb5 hy
      go_wp2_with fail
      refine (HL.out w5 HB5.out).mono ?_
      rintro e w6 ⟨rfl, hb6⟩
      rw [HS2.out]
      have HB6 := Lib.hid (HB5.out.trans (hb6.mono HB5.out.size))
      clear hb6
      by_cases hh : hasB F T x n = true
      · by_cases hx : x = 1125899906842624
        · have dH : (x == 1125899906842624) = true := by simp [hx]
          have x5 : x + 1 ≤ 1125899906842625 := by omega
          clear hx
          go_wp2_with fail
          refine (HH.out x w6 HB6.out).mono ?_
          rintro e x1 ⟨rfl, hbx1⟩
          rw [hh]
          have HX1 := Lib.hid (HB6.out.trans (hbx1.mono HB6.out.size))
          clear hbx1
          have hl := lives7 x1
          go_wp2_with fail
          refine hl.mono ?_
          rintro e x2 ⟨rfl, hbx2⟩
          go_wp2_with fail
          go_ret
          exact ⟨rfl, HX1.out.trans (hbx2.mono HX1.out.size)⟩
        · have dH : (x == 1125899906842624) = false := by simp [hx]
          have HS4' := HS4.out
          have HE5 : (if hasB F T x n = true then (1 : Int) else 0) = 1 := if_pos hh
          have HS4' := Lib.hid HS4'
          have HE5 := Lib.hid HE5
          have x5 : x + 1 ≤ 1125899906842625 := by omega
          clear hx
          go_wp2_with fail
          refine (HH.out x w6 HB6.out).mono ?_
          rintro e x1 ⟨rfl, hbx1⟩
          rw [hh]
          have HX1 := Lib.hid (HB6.out.trans (hbx1.mono HB6.out.size))
          clear hbx1
          go_wp2_with fail
          refine (HW.out x (x + 1) x1 HX1.out).mono ?_
          rintro e x2 ⟨rfl, hbx2⟩
          rw [HS4'.out, HE5.out]
          have HX2 := Lib.hid (HX1.out.trans (hbx2.mono HX1.out.size))
          clear hbx2
          have hl := lives7 x2
          go_wp2_with fail
          refine hl.mono ?_
          rintro e x3 ⟨rfl, hbx3⟩
          go_wp2_with fail
          go_ret
          exact ⟨rfl, HX2.out.trans (hbx3.mono HX2.out.size)⟩
      · have hh : hasB F T x n = false := by simpa using hh
        by_cases hx : x = 1125899906842624
        · have dH : (x == 1125899906842624) = true := by simp [hx]
          have x5 : x + 1 ≤ 1125899906842625 := by omega
          clear hx
          go_wp2_with fail
          refine (HH.out x w6 HB6.out).mono ?_
          rintro e x1 ⟨rfl, hbx1⟩
          rw [hh]
          have HX1 := Lib.hid (HB6.out.trans (hbx1.mono HB6.out.size))
          clear hbx1
          have hl := lives7 x1
          go_wp2_with fail
          refine hl.mono ?_
          rintro e x2 ⟨rfl, hbx2⟩
          go_wp2_with fail
          go_ret
          exact ⟨rfl, HX1.out.trans (hbx2.mono HX1.out.size)⟩
        · have dH : (x == 1125899906842624) = false := by simp [hx]
          have HS4' := HS4.out
          have HE5 : (if hasB F T x n = true then (1 : Int) else 0) = 0 := if_neg (by simp [hh])
          have HS4' := Lib.hid HS4'
          have HE5 := Lib.hid HE5
          have x5 : x + 1 ≤ 1125899906842625 := by omega
          clear hx
          go_wp2_with fail
          refine (HH.out x w6 HB6.out).mono ?_
          rintro e x1 ⟨rfl, hbx1⟩
          rw [hh]
          have HX1 := Lib.hid (HB6.out.trans (hbx1.mono HB6.out.size))
          clear hbx1
          go_wp2_with fail
          refine (HW.out x (x + 1) x1 HX1.out).mono ?_
          rintro e x2 ⟨rfl, hbx2⟩
          rw [HS4'.out, HE5.out]
          have HX2 := Lib.hid (HX1.out.trans (hbx2.mono HX1.out.size))
          clear hbx2
          have hl := lives7 x2
          go_wp2_with fail
          refine hl.mono ?_
          rintro e x3 ⟨rfl, hbx3⟩
          go_wp2_with fail
          go_ret
          exact ⟨rfl, HX2.out.trans (hbx3.mono HX2.out.size)⟩
  · have d4 : decide (0 ≤ m) = false := decide_eq_false hm0
    have hy := nth_neg a n cap m w4 (by omega)
    go_wp2_with fail
    refine hy.mono ?_
    rintro e w5 ⟨rfl, hb5⟩
    have HB5 := Lib.hid (HB4.out.trans (hb5.mono HB4.out.size))
    clear hb5 hy
    by_cases hh : hasB F T x n = true
    · by_cases hx : x = 1125899906842624
      · have dH : (x == 1125899906842624) = true := by simp [hx]
        have x5 : x + 1 ≤ 1125899906842625 := by omega
        clear hx
        go_wp2_with fail
        refine (HH.out x w5 HB5.out).mono ?_
        rintro e x1 ⟨rfl, hbx1⟩
        rw [hh]
        have HX1 := Lib.hid (HB5.out.trans (hbx1.mono HB5.out.size))
        clear hbx1
        have hl := lives7 x1
        go_wp2_with fail
        refine hl.mono ?_
        rintro e x2 ⟨rfl, hbx2⟩
        go_wp2_with fail
        go_ret
        exact ⟨rfl, HX1.out.trans (hbx2.mono HX1.out.size)⟩
      · have dH : (x == 1125899906842624) = false := by simp [hx]
        have HS4' := HS4.out
        have HE5 : (if hasB F T x n = true then (1 : Int) else 0) = 1 := if_pos hh
        have HS4' := Lib.hid HS4'
        have HE5 := Lib.hid HE5
        have x5 : x + 1 ≤ 1125899906842625 := by omega
        clear hx
        go_wp2_with fail
        refine (HH.out x w5 HB5.out).mono ?_
        rintro e x1 ⟨rfl, hbx1⟩
        rw [hh]
        have HX1 := Lib.hid (HB5.out.trans (hbx1.mono HB5.out.size))
        clear hbx1
        go_wp2_with fail
        refine (HW.out x (x + 1) x1 HX1.out).mono ?_
        rintro e x2 ⟨rfl, hbx2⟩
        rw [HS4'.out, HE5.out]
        have HX2 := Lib.hid (HX1.out.trans (hbx2.mono HX1.out.size))
        clear hbx2
        have hl := lives7 x2
        go_wp2_with fail
        refine hl.mono ?_
        rintro e x3 ⟨rfl, hbx3⟩
        go_wp2_with fail
        go_ret
        exact ⟨rfl, HX2.out.trans (hbx3.mono HX2.out.size)⟩
    · have hh : hasB F T x n = false := by simpa using hh
      by_cases hx : x = 1125899906842624
      · have dH : (x == 1125899906842624) = true := by simp [hx]
        have x5 : x + 1 ≤ 1125899906842625 := by omega
        clear hx
        go_wp2_with fail
        refine (HH.out x w5 HB5.out).mono ?_
        rintro e x1 ⟨rfl, hbx1⟩
        rw [hh]
        have HX1 := Lib.hid (HB5.out.trans (hbx1.mono HB5.out.size))
        clear hbx1
        have hl := lives7 x1
        go_wp2_with fail
        refine hl.mono ?_
        rintro e x2 ⟨rfl, hbx2⟩
        go_wp2_with fail
        go_ret
        exact ⟨rfl, HX1.out.trans (hbx2.mono HX1.out.size)⟩
      · have dH : (x == 1125899906842624) = false := by simp [hx]
        have HS4' := HS4.out
        have HE5 : (if hasB F T x n = true then (1 : Int) else 0) = 0 := if_neg (by simp [hh])
        have HS4' := Lib.hid HS4'
        have HE5 := Lib.hid HE5
        have x5 : x + 1 ≤ 1125899906842625 := by omega
        clear hx
        go_wp2_with fail
        refine (HH.out x w5 HB5.out).mono ?_
        rintro e x1 ⟨rfl, hbx1⟩
        rw [hh]
        have HX1 := Lib.hid (HB5.out.trans (hbx1.mono HB5.out.size))
        clear hbx1
        go_wp2_with fail
        refine (HW.out x (x + 1) x1 HX1.out).mono ?_
        rintro e x2 ⟨rfl, hbx2⟩
        rw [HS4'.out, HE5.out]
        have HX2 := Lib.hid (HX1.out.trans (hbx2.mono HX1.out.size))
        clear hbx2
        have hl := lives7 x2
        go_wp2_with fail
        refine hl.mono ?_
        rintro e x3 ⟨rfl, hbx3⟩
        go_wp2_with fail
        go_ret
        exact ⟨rfl, HX2.out.trans (hbx3.mono HX2.out.size)⟩
end Go.Proofs.Ythlmeppahcjlgaa

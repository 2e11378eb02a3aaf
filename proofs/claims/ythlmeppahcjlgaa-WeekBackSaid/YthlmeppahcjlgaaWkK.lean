/- WeekBack, walked. -/
import Derived.Test.YthlmeppahcjlgaaWkS
namespace Go.Proofs.Ythlmeppahcjlgaa
open Go.RowKit

theorem clip_mono (f t x y : Int) (h0 : 0 ≤ f) (h1 : f < t) (h : x ≤ y) : clip f t 0 x ≤ clip f t 0 y := by
  rcases clip_cases f t 0 x with ⟨a1, a2⟩ | ⟨a1, a2⟩ <;> rcases clip_cases f t 0 y with ⟨b1, b2⟩ | ⟨b1, b2⟩ <;>
    rcases mx_cases f 0 with ⟨d1, d2⟩ | ⟨d1, d2⟩ <;> rcases mn_cases t x with ⟨g1, g2⟩ | ⟨g1, g2⟩ <;> rcases mn_cases t y with ⟨i1, i2⟩ | ⟨i1, i2⟩ <;> omega
theorem wsum_mono {F T : Nat → Int} {n : Nat} (x y : Int) (h : x ≤ y) (hg : good F T n = true) : ∀ k, k ≤ n → wsum F T 0 x k ≤ wsum F T 0 y k := by
  intro k
  induction k with
  | zero => intro _; exact Int.le_refl _
  | succ k ih =>
    intro hk
    obtain ⟨g0, g1, g2, _⟩ := good_at hg (show k < n by omega)
    have := ih (by omega)
    have := clip_mono (F k) (T k) x y g0 g1 h
    simp only [wsum]
    omega
theorem tsum_pos {F T : Nat → Int} {n : Nat} (hg : good F T n = true) (h : 0 < n) : 0 < tsum F T n := by
  have h1 := tsum_mono hg n 1 h (Nat.le_refl _)
  have h2 := (good_at hg h).2.1
  have h3 : tsum F T 1 = 0 + (T 0 - F 0) := rfl
  omega
/-- The second that has m open ones ahead. -/
theorem back_ok {F T : Nat → Int} {n : Nat} {m : Int} (h : Wk F T n) (he : pnE F T n m = 0) : openB F T n (pnV F T n m) = true ∧ untilV F T n (pnV F T n m) = m := by
  have h0 : 0 ≤ m := by
    rcases Int.lt_or_le m 0 with h1 | h1
    · rw [(pn_neg h1).2] at he; cases he
    · exact h1
  have ht : tsum F T n ≠ 0 := by
    intro h1
    rw [(pn_closed h0 h1).2] at he; cases he
  have hf : ¬ 3723213977 < m / tsum F T n := by
    intro h1
    rw [(pn_far h0 ht h1).2] at he; cases he
  have hp : ¬ 2251799813685248 < m / tsum F T n * 604800 + nthV F T n (m % tsum F T n) := by
    intro h1
    rw [(pn_past h0 ht hf h1).2] at he; cases he
  rw [(pn_ok h0 ht hf hp).1]
  obtain ⟨t0, t1⟩ := h.total
  have q0 : 0 ≤ m / tsum F T n := Int.ediv_nonneg h0 t0
  have r0 : 0 ≤ m % tsum F T n := Int.emod_nonneg m ht
  have r1 : m % tsum F T n < tsum F T n := Int.emod_lt_of_pos m (by omega)
  have hm : tsum F T n * (m / tsum F T n) + m % tsum F T n = m := Int.mul_ediv_add_emod m _
  obtain ⟨w1, w2⟩ := within_nth h.good r0 r1
  obtain ⟨s0, s1⟩ := nth_bounds h r0 r1
  generalize nthV F T n (m % tsum F T n) = s at *
  generalize m / tsum F T n = q at *
  have e1 : cl (q * 604800 + s) = q * 604800 + s := by unfold cl; omega
  have e2 : (q * 604800 + s) / 604800 = q := by omega
  have e3 : (q * 604800 + s) % 604800 = s := by omega
  refine ⟨?_, ?_⟩
  · unfold openB
    rw [e3, w1, decide_eq_true (show 0 ≤ q * 604800 + s by omega), decide_eq_true (show q * 604800 + s ≤ 2251799813685248 by omega)]
    rfl
  · unfold untilV
    rw [e1, e2, e3, w2, Int.mul_comm]
    exact hm
theorem back_no {F T : Nat → Int} {n : Nat} {m : Int} (h : Wk F T n) (he : pnE F T n m ≠ 0) : pnV F T n m = 0 ∧ (m < 0 ∨ n = 0 ∨ untilV F T n 2251799813685248 ≤ m) := by
  rcases Int.lt_or_le m 0 with h0 | h0
  · exact ⟨(pn_neg h0).1, .inl h0⟩
  by_cases ht : tsum F T n = 0
  · refine ⟨(pn_closed h0 ht).1, .inr (.inl ?_)⟩
    rcases Nat.eq_zero_or_pos n with h1 | h1
    · exact h1
    · have := tsum_pos h.good h1
      omega
  obtain ⟨t0, t1⟩ := h.total
  have r0 : 0 ≤ m % tsum F T n := Int.emod_nonneg m ht
  have r1 : m % tsum F T n < tsum F T n := Int.emod_lt_of_pos m (by omega)
  have hm : tsum F T n * (m / tsum F T n) + m % tsum F T n = m := Int.mul_ediv_add_emod m _
  have hu : untilV F T n 2251799813685248 = 3723213977 * tsum F T n + wsum F T 0 (2251799813685248 % 604800) n := by
    have e1 : cl 2251799813685248 = 2251799813685248 := by decide
    unfold untilV
    rw [e1]
    rfl
  obtain ⟨l0, l1⟩ := wsum_le (2251799813685248 % 604800) h.good n (Nat.le_refl _)
  by_cases hf : 3723213977 < m / tsum F T n
  · refine ⟨(pn_far h0 ht hf).1, .inr (.inr ?_)⟩
    have hq : tsum F T n * 3723213978 ≤ tsum F T n * (m / tsum F T n) := Int.mul_le_mul_of_nonneg_left (by omega) t0
    rw [hu]
    omega
  by_cases hp : 2251799813685248 < m / tsum F T n * 604800 + nthV F T n (m % tsum F T n)
  · refine ⟨(pn_past h0 ht hf hp).1, .inr (.inr ?_)⟩
    obtain ⟨w1, w2⟩ := within_nth h.good r0 r1
    obtain ⟨s0, s1⟩ := nth_bounds h r0 r1
    have hmo := wsum_mono (2251799813685248 % 604800) (nthV F T n (m % tsum F T n)) (by omega) h.good n (Nat.le_refl _)
    have hq : m / tsum F T n = 3723213977 := by omega
    rw [hq] at hm
    rw [hu]
    omega
  · exact absurd (pn_ok h0 ht hf hp).2 he

theorem back_skip (a : Option Addr) (n cap : Nat) (F T : Nat → Int) (t : Int) (w : World) (hS : Sps w a n F T) (h : 100 < n ∨ (n ≤ 100 ∧ (wrongE F T n != 0) = true)) :
    Calls Try.prog 10 #[.slice a n cap, .int .i64 t] w fun e w' => e = .returned (.bool true) ∧ Below w.heap.size w w' := by
  have hm := hS.1
  unfold maxLen at hm
  have hr := wrong_any a n cap F T w hS
  clear hS
  rcases h with h | ⟨h, hz⟩
  · have hl := lives8 w
    have d1 : decide (100 < (n : Int)) = true := decide_eq_true (by omega)
    go_enter Try.func10, Try.ntmps10
    go_wp2_with fail
    refine hl.mono ?_
    rintro e w1 ⟨rfl, hb⟩
    go_wp2_with fail
    go_ret
    exact ⟨rfl, hb⟩
  · have d1 : decide (100 < (n : Int)) = false := decide_eq_false (by omega)
    generalize wrongE F T n = z at hr hz
    go_enter Try.func10, Try.ntmps10
    go_wp2_with fail
    refine hr.mono ?_
    rintro e w1 ⟨rfl, hb⟩
    clear hr
    have hl := lives8 w1
    go_wp2_with fail
    refine hl.mono ?_
    rintro e w2 ⟨rfl, hb2⟩
    go_wp2_with fail
    go_ret
    exact ⟨rfl, hb.trans (hb2.mono hb.size)⟩

set_option maxRecDepth 100000 in
set_option maxHeartbeats 8000000 in
theorem back_walk (a : Option Addr) (n cap : Nat) (F T : Nat → Int) (m : Int) (w : World) (hS : Sps w a n F T) (hw : Wk F T n) (hm1 : m ≤ 9223372036854775807) :
    Calls Try.prog 10 #[.slice a n cap, .int .i64 m] w fun e w' => e = .returned (.bool true) ∧ Below w.heap.size w w' := by
  have hr := wrong_any a n cap F T w hS
  rw [wk_wrong hw] at hr
  have HC := Lib.hid hS
  have HW := Lib.hid hw
  have hn := hw.len
  have d1 : decide (100 < (n : Int)) = false := decide_eq_false (by omega)
  have HOK := Lib.hid (fun h => back_ok (m := m) hw h)
  have HNO := Lib.hid (fun h => back_no (m := m) hw h)
  have HM : Hid (m ≤ 9223372036854775807) := Lib.hid hm1
  clear hS hw hm1
  obtain ⟨er, he⟩ : ∃ x, pnE F T n m = x := ⟨_, rfl⟩
  obtain ⟨v, hv⟩ : ∃ x, pnV F T n m = x := ⟨_, rfl⟩
  rw [he] at HOK HNO
  rw [hv] at HOK HNO
  have HE := Lib.hid he
  have HV := Lib.hid hv
  clear he hv
  go_enter Try.func10, Try.ntmps10
  go_wp2_with fail
  refine hr.mono ?_
  rintro e w1 ⟨rfl, hb1⟩
  clear hr
  have hnew := new_ok a n cap F T w1 (HC.out.kept hb1) HW.out
  have HB1 := Lib.hid hb1
  clear hb1
  go_wp2_with fail
  refine hnew.mono ?_
  rintro e w2 ⟨P, C, pa, pc, rfl, hP, hb2⟩
  clear hnew
  have HB2 := Lib.hid (HB1.out.trans (hb2.mono HB1.out.size))
  have hbase : w1.heap.size ≤ w2.heap.size := hb2.size
  have hnt := nth_plan m hP HW.out hbase HM.out
  rw [HE.out, HV.out] at hnt
  clear hP hb2
  go_wp2_with fail
  refine hnt.mono ?_
  rintro e w3 ⟨rfl, hP3, hS3⟩
  have HS3 := Lib.hid hS3
  have hbase3 : w1.heap.size ≤ w3.heap.size := Nat.le_trans hbase hS3.1
  have HP3 := Lib.hid hP3
  clear hnt hP3 hS3
  have FIN : Hid (∀ w8 w9 : World, Stays w1.heap.size w2 w8 → Below w8.heap.size w8 w9 → Below w.heap.size w w9) := Lib.hid (fun w8 w9 h1 h2 => by
    have hB : Below w1.heap.size w2 w8 := h1.2 w2 (Below.refl _ _)
    have hB2 : Below w.heap.size w w8 := HB2.out.trans (hB.mono HB1.out.size)
    exact hB2.trans (h2.mono hB2.size))
  by_cases hz : er = 0
  · obtain ⟨o1, o2⟩ := HOK.out hz
    have d2 : (er != 0) = false := by simp [hz]
    have hop := open_any v HP3.out HW.out hbase3
    rw [o1] at hop
    have O2 := Lib.hid o2
    clear o1 o2 hz
    go_wp2_with fail
    refine hop.mono ?_
    rintro e w4 ⟨rfl, hP4, hS4⟩
    have HS4 := Lib.hid (HS3.out.trans hS4)
    have hu := until_any v hP4 HW.out (Nat.le_trans hbase HS4.out.1)
    rw [O2.out] at hu
    clear hop hP4 hS4
    go_wp2_with fail
    refine hu.mono ?_
    rintro e w5 ⟨rfl, hP5, hS5⟩
    have HS5 := Lib.hid (HS4.out.trans hS5)
    clear hu hP5 hS5
    have hl := lives8 w5
    go_wp2_with fail
    refine hl.mono ?_
    rintro e w6 ⟨rfl, hb6⟩
    go_wp2_with fail
    go_ret
    exact ⟨rfl, FIN.out _ _ HS5.out hb6⟩
  · have d2 : (er != 0) = true := by simp [hz]
    obtain ⟨rfl, ho⟩ := HNO.out hz
    clear hz
    by_cases hm0 : m < 0
    · have d3 : decide (m < 0) = true := decide_eq_true hm0
      have hl := lives8 w3
      clear ho
      go_wp2_with fail
      refine hl.mono ?_
      rintro e w6 ⟨rfl, hb6⟩
      go_wp2_with fail
      go_ret
      exact ⟨rfl, FIN.out _ _ HS3.out hb6⟩
    · have d3 : decide (m < 0) = false := decide_eq_false hm0
      by_cases hn0 : n = 0
      · have d4 : ((n : Int) == 0) = true := by simp [hn0]
        have d5 : (n == 0) = true := by simp [hn0]
        have hl := lives8 w3
        clear ho hn0
        go_wp2_with fail
        refine hl.mono ?_
        rintro e w6 ⟨rfl, hb6⟩
        go_wp2_with fail
        go_ret
        exact ⟨rfl, FIN.out _ _ HS3.out hb6⟩
      · have d4 : ((n : Int) == 0) = false := by simp [hn0]
        have d5 : (n == 0) = false := by simp [hn0]
        have hu := until_any 2251799813685248 HP3.out HW.out hbase3
        have hle : untilV F T n 2251799813685248 ≤ m := by rcases ho with h | h | h <;> first | exact h | (exfalso; omega)
        obtain ⟨u, huu⟩ : ∃ u, untilV F T n 2251799813685248 = u := ⟨_, rfl⟩
        rw [huu] at hu hle
        have d6 : decide (u ≤ m) = true := decide_eq_true hle
        clear ho hn0 huu hm0
        go_wp2_with fail
        refine hu.mono ?_
        rintro e w4 ⟨rfl, hP4, hS4⟩
        have HS4 := Lib.hid (HS3.out.trans hS4)
        clear hu hP4 hS4
        have hl := lives8 w4
        go_wp2_with fail
        refine hl.mono ?_
        rintro e w6 ⟨rfl, hb6⟩
        go_wp2_with fail
        go_ret
        exact ⟨rfl, FIN.out _ _ HS4.out hb6⟩
end Go.Proofs.Ythlmeppahcjlgaa

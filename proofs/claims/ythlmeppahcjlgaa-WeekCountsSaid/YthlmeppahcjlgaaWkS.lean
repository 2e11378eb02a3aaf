/- WeekSteps, walked. -/
import Derived.Test.YthlmeppahcjlgaaWkG
namespace Go.Proofs.Ythlmeppahcjlgaa
open Go.RowKit

theorem clip_step (f t r : Int) (h0 : 0 ≤ f) (h1 : f < t) (h2 : 0 ≤ r) : clip f t 0 (r + 1) = clip f t 0 r + clip f t r (r + 1) := by
  rcases clip_cases f t 0 (r + 1) with ⟨a1, a2⟩ | ⟨a1, a2⟩ <;> rcases clip_cases f t 0 r with ⟨b1, b2⟩ | ⟨b1, b2⟩ <;> rcases clip_cases f t r (r + 1) with ⟨c1, c2⟩ | ⟨c1, c2⟩ <;>
    rcases mx_cases f 0 with ⟨d1, d2⟩ | ⟨d1, d2⟩ <;> rcases mx_cases f r with ⟨e1, e2⟩ | ⟨e1, e2⟩ <;> rcases mn_cases t (r + 1) with ⟨g1, g2⟩ | ⟨g1, g2⟩ <;> rcases mn_cases t r with ⟨i1, i2⟩ | ⟨i1, i2⟩ <;> omega
theorem wsum_step {F T : Nat → Int} {n : Nat} (r : Int) (hr : 0 ≤ r) (hg : good F T n = true) : ∀ k, k ≤ n → wsum F T 0 (r + 1) k = wsum F T 0 r k + wsum F T r (r + 1) k := by
  intro k
  induction k with
  | zero => intro _; rfl
  | succ k ih =>
    intro hk
    obtain ⟨g0, g1, g2, _⟩ := good_at hg (show k < n by omega)
    simp only [wsum, ih (by omega), clip_step _ _ _ g0 g1 hr]
    omega
theorem wsum_week {F T : Nat → Int} {n : Nat} (h : Wk F T n) : ∀ k, k ≤ n → wsum F T 0 604800 k = tsum F T k := by
  intro k
  induction k with
  | zero => intro _; rfl
  | succ k ih =>
    intro hk
    obtain ⟨g0, g1, g2, _⟩ := good_at h.good (show k < n by omega)
    simp only [wsum, tsum, ih (by omega), clip_before _ _ _ g0 g1 (h.week k (by omega))]
theorem wsum_zero {F T : Nat → Int} {n : Nat} (hg : good F T n = true) : ∀ k, k ≤ n → wsum F T 0 0 k = 0 := by
  intro k
  induction k with
  | zero => intro _; rfl
  | succ k ih =>
    intro hk
    obtain ⟨g0, g1, g2, _⟩ := good_at hg (show k < n by omega)
    simp only [wsum, ih (by omega), clip_behind _ _ _ g0 g1 g0]
    rfl
theorem until_zero {F T : Nat → Int} {n : Nat} (h : Wk F T n) : untilV F T n 0 = 0 := by
  have e : cl 0 = 0 := by decide
  unfold untilV
  rw [e]
  have := wsum_zero h.good n (Nat.le_refl _)
  simp [this]
/-- One second more. -/
theorem until_step {F T : Nat → Int} {n : Nat} (h : Wk F T n) (t : Int) (h0 : 0 ≤ t) (h1 : t < 2251799813685248) : untilV F T n (t + 1) - untilV F T n t = if openB F T n t = true then 1 else 0 := by
  have e1 : cl t = t := by unfold cl; omega
  have e2 : cl (t + 1) = t + 1 := by unfold cl; omega
  have eo : openB F T n t = hasB F T (t % 604800) n := by
    unfold openB
    rw [decide_eq_true h0, decide_eq_true (show t ≤ 2251799813685248 by omega)]
    simp
  have hr0 : 0 ≤ t % 604800 := by omega
  have hs := wsum_step (t % 604800) hr0 h.good n (Nat.le_refl _)
  have ho := wsum_one h.good (t % 604800) n (Nat.le_refl _)
  rw [eo, ← ho]
  unfold untilV
  rw [e1, e2]
  by_cases hw : t % 604800 + 1 = 604800
  · have q1 : (t + 1) / 604800 = t / 604800 + 1 := by omega
    have q2 : (t + 1) % 604800 = 0 := by omega
    rw [q1, q2, wsum_zero h.good n (Nat.le_refl _), Int.add_mul]
    rw [hw, wsum_week h n (Nat.le_refl _)] at hs
    rw [hw]
    omega
  · have q1 : (t + 1) / 604800 = t / 604800 := by omega
    have q2 : (t + 1) % 604800 = t % 604800 + 1 := by omega
    rw [q1, q2]
    omega

set_option maxRecDepth 100000 in
set_option maxHeartbeats 4000000 in
theorem steps_skip (a : Option Addr) (n cap : Nat) (F T : Nat → Int) (t : Int) (w : World) (hS : Sps w a n F T) (h : 100 < n ∨ (n ≤ 100 ∧ (wrongE F T n != 0) = true) ∨ (n ≤ 100 ∧ (wrongE F T n != 0) = false ∧ (t < 0 ∨ 2251799813685248 ≤ t))) :
    Calls Try.prog 9 #[.slice a n cap, .int .i64 t] w fun e w' => e = .returned (.bool true) ∧ Below w.heap.size w w' := by
  have hm := hS.1
  unfold maxLen at hm
  have hr := wrong_any a n cap F T w hS
  clear hS
  rcases h with h | ⟨h, hz⟩ | ⟨h, hz, hx⟩
  · have hl := lives8 w
    have d1 : decide (100 < (n : Int)) = true := decide_eq_true (by omega)
    go_enter Try.func9, Try.ntmps9
    go_wp2_with fail
    refine hl.mono ?_
    rintro e w1 ⟨rfl, hb⟩
    go_wp2_with fail
    go_ret
    exact ⟨rfl, hb⟩
  · have d1 : decide (100 < (n : Int)) = false := decide_eq_false (by omega)
    generalize wrongE F T n = z at hr hz
    go_enter Try.func9, Try.ntmps9
    go_wp2_with fail
    refine hr.mono ?_
    rintro e w1 ⟨rfl, hb⟩
    clear hr
    have hl := lives8 w1
    go_wp2_with fail
    refine hl.mono ?_
    rintro e w2 ⟨rfl, hb2⟩
    go_wp2_with fail
    go_ret
    exact ⟨rfl, hb.trans (hb2.mono hb.size)⟩
  · have d1 : decide (100 < (n : Int)) = false := decide_eq_false (by omega)
    generalize wrongE F T n = z at hr hz
    by_cases hx0 : t < 0
    · have d2 : decide (t < 0) = true := decide_eq_true hx0
      go_enter Try.func9, Try.ntmps9
      go_wp2_with fail
      refine hr.mono ?_
      rintro e w1 ⟨rfl, hb⟩
      clear hr
      have hl := lives8 w1
      go_wp2_with fail
      refine hl.mono ?_
      rintro e w2 ⟨rfl, hb2⟩
      go_wp2_with fail
      go_ret
      exact ⟨rfl, hb.trans (hb2.mono hb.size)⟩
    · have d2 : decide (t < 0) = false := decide_eq_false hx0
      have d3 : decide (2251799813685248 ≤ t) = true := decide_eq_true (by omega)
      go_enter Try.func9, Try.ntmps9
      go_wp2_with fail
      refine hr.mono ?_
      rintro e w1 ⟨rfl, hb⟩
      clear hr
      have hl := lives8 w1
      go_wp2_with fail
      refine hl.mono ?_
      rintro e w2 ⟨rfl, hb2⟩
      go_wp2_with fail
      go_ret
      exact ⟨rfl, hb.trans (hb2.mono hb.size)⟩
/-- A row that Wrong lets by is a plan's. -/
theorem wk_of {F T : Nat → Int} {n : Nat} (h : (wrongE F T n != 0) = false) : Wk F T n := by
  have h0 : wrongE F T n = 0 := by simpa using h
  unfold wrongE at h0
  by_cases hz : rowE F T n = 0
  · rw [if_pos hz] at h0
    have hn : n ≤ 32 := by
      rcases Nat.lt_or_ge 32 n with h | h
      · rw [rowE_long h] at hz; cases hz
      · exact h
    have hg : good F T n = true := by
      cases h : good F T n with
      | true => rfl
      | false => rw [rowE_bad hn h] at hz; cases hz
    have hw : weekB T n = true := by
      cases h : weekB T n with
      | true => rfl
      | false => rw [h] at h0; cases h0
    exact ⟨hn, hg, (weekB_iff n).1 hw⟩
  · rw [if_neg hz] at h0
    exact absurd h0 hz
theorem wk_wrong {F T : Nat → Int} {n : Nat} (h : Wk F T n) : wrongE F T n = 0 := by
  unfold wrongE
  rw [if_pos (rowE_ok h.len h.good), if_pos ((weekB_iff n).2 h.week)]

set_option maxRecDepth 100000 in
set_option maxHeartbeats 8000000 in
theorem steps_ok (a : Option Addr) (n cap : Nat) (F T : Nat → Int) (t : Int) (w : World) (hS : Sps w a n F T) (hw : Wk F T n) (h0 : 0 ≤ t) (h1 : t < 2251799813685248) :
    Calls Try.prog 9 #[.slice a n cap, .int .i64 t] w fun e w' => e = .returned (.bool true) ∧ Below w.heap.size w w' := by
  have hr := wrong_any a n cap F T w hS
  rw [wk_wrong hw] at hr
  have HC := Lib.hid hS
  have HW := Lib.hid hw
  have hn := hw.len
  have d1 : decide (100 < (n : Int)) = false := decide_eq_false (by omega)
  have d2 : decide (t < 0) = false := decide_eq_false (by omega)
  have d3 : decide (2251799813685248 ≤ t) = false := decide_eq_false (by omega)
  have hst := until_step hw t h0 h1
  obtain ⟨_, _, u0, u1⟩ := until_bounds hw t
  obtain ⟨_, _, v0, v1⟩ := until_bounds hw (t + 1)
  have hbt : betweenV F T n t (t + 1) = max 0 (untilV F T n (t + 1) - untilV F T n t) := rfl
  have hz := until_zero hw
  obtain ⟨o, ho⟩ : ∃ o, openB F T n t = o := ⟨_, rfl⟩
  obtain ⟨u, hu⟩ : ∃ u, untilV F T n t = u := ⟨_, rfl⟩
  obtain ⟨v, hv⟩ : ∃ u, untilV F T n (t + 1) = u := ⟨_, rfl⟩
  rw [hu] at u0 u1 hst hbt
  rw [hv] at v0 v1 hst hbt
  rw [ho] at hst
  have HO := Lib.hid ho
  have HU := Lib.hid hu
  have HV := Lib.hid hv
  have HZ := Lib.hid hz
  have HBT : Hid (betweenV F T n t (t + 1) = if o = true then 1 else 0) := Lib.hid (by rw [hbt, hst]; cases o <;> decide)
  have HST := Lib.hid hst
  clear hS hw hst hbt hz ho hu hv
  cases o
  all_goals
    have hst := HST.out
    simp only [if_true, if_false, Bool.false_eq_true] at hst
    have hbt := HBT.out
    simp only [if_true, if_false, Bool.false_eq_true] at hbt
    have HBT := Lib.hid hbt
    have HST := Lib.hid hst
    clear hbt
    go_enter Try.func9, Try.ntmps9
    clear hst
    go_wp2_with fail
    refine hr.mono ?_
    rintro e w1 ⟨rfl, hb1⟩
    clear hr
    have hnew := new_ok a n cap F T w1 (HC.out.kept hb1) HW.out
    have HB1 := Lib.hid hb1
    clear hb1
    go_wp2_with fail
    refine hnew.mono ?_
    rintro e w2 ⟨P, C, pa, pc, rfl, hP, hb2⟩
    clear hnew
    have HB2 := Lib.hid (HB1.out.trans (hb2.mono HB1.out.size))
    have hbase : w1.heap.size ≤ w2.heap.size := hb2.size
    have hop := open_any t hP HW.out hbase
    rw [HO.out] at hop
    clear hP hb2
    go_wp2_with fail
    refine hop.mono ?_
    rintro e w3 ⟨rfl, hP3, hS3⟩
    have hu1 := until_any (t + 1) hP3 HW.out (Nat.le_trans hbase hS3.1)
    rw [HV.out] at hu1
    have HS3 := Lib.hid hS3
    clear hop hP3 hS3
    go_wp2_with fail
    refine hu1.mono ?_
    rintro e w4 ⟨rfl, hP4, hS4⟩
    have HS4 := Lib.hid (HS3.out.trans hS4)
    have hu2 := until_any t hP4 HW.out (Nat.le_trans hbase HS4.out.1)
    rw [HU.out] at hu2
    clear hu1 hP4 hS4
    have d9 := HST.out
    go_wp2_with fail
    refine hu2.mono ?_
    rintro e w5 ⟨rfl, hP5, hS5⟩
    have HS5 := Lib.hid (HS4.out.trans hS5)
    have hbw := between_any t (t + 1) hP5 HW.out (Nat.le_trans hbase HS5.out.1)
    rw [HBT.out] at hbw
    clear hu2 hP5 hS5
    go_wp2_with fail
    refine hbw.mono ?_
    rintro e w6 ⟨rfl, hP6, hS6⟩
    have HS6 := Lib.hid (HS5.out.trans hS6)
    have hu3 := until_any 0 hP6 HW.out (Nat.le_trans hbase HS6.out.1)
    rw [HZ.out] at hu3
    clear hbw hP6 hS6
    go_wp2_with fail
    refine hu3.mono ?_
    rintro e w7 ⟨rfl, hP7, hS7⟩
    have HS7 := Lib.hid (HS6.out.trans hS7)
    clear hu3 hP7 hS7
    have hl := lives8 w7
    go_wp2_with fail
    refine hl.mono ?_
    rintro e w8 ⟨rfl, hb8⟩
    go_wp2_with fail
    go_ret
    have hB : Below w1.heap.size w2 w7 := HS7.out.2 w2 (Below.refl _ _)
    have hB2 : Below w.heap.size w w7 := HB2.out.trans (hB.mono HB1.out.size)
    exact ⟨rfl, hB2.trans (hb8.mono hB2.size)⟩
end Go.Proofs.Ythlmeppahcjlgaa

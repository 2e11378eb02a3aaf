import Derived.Test.YtibjboacjobaoaaGreatMgAU
import Derived.Deep.RegionHeld3
namespace Go.Proofs.YtibjboacjobaoaaGreat
open Go.RowKit
/- The example of layer 8 holds in any world; WeekNobody. -/
open Go.RowKit

theorem lit_span (w : World) (a b : Int) (h : -9223372036854775808 ≤ a ∧ a ≤ 9223372036854775807 ∧ -9223372036854775808 ≤ b ∧ b ≤ 9223372036854775807) :
    Sps (w.alloc (.cells #[.int .i64 a, .int .i64 b] 101)) (some ⟨w.heap.size, 0, none⟩) 1 (fr [(a, b)]) (til [(a, b)]) := by
  refine ⟨by unfold maxLen; omega, fun _ => ⟨w.heap.size, 0, rfl, by simp, fun k hk => ?_⟩⟩
  obtain rfl : k = 0 := by omega
  refine ⟨by simp [fr], by simp [til], ?_⟩
  simp only [fr, til, List.getD_eq_getElem?_getD, List.getElem?_cons_zero, Option.getD_some]
  omega
theorem wk_ex : Wk (fr [(10, 20)]) (til [(10, 20)]) 1 := by
  refine ⟨by omega, by decide, fun k hk => ?_⟩
  have e : k = 0 := by omega
  subst e
  decide
/- WeekSteps, walked. -/
open Go.RowKit

theorem clip_step (f t r : Int) (h0 : 0 ≤ f) (h1 : f < t) (h2 : 0 ≤ r) : clip f t 0 (r + 1) = clip f t 0 r + clip f t r (r + 1) := by
  rcases clip_cases f t 0 (r + 1) with ⟨a1, a2⟩ | ⟨a1, a2⟩ <;> rcases clip_cases f t 0 r with ⟨b1, b2⟩ | ⟨b1, b2⟩ <;> rcases clip_cases f t r (r + 1) with ⟨c1, c2⟩ | ⟨c1, c2⟩ <;>
    rcases mx_cases f 0 with ⟨d1, d2⟩ | ⟨d1, d2⟩ <;> rcases mx_cases f r with ⟨e1, e2⟩ | ⟨e1, e2⟩ <;> rcases mn_cases t (r + 1) with ⟨g1, g2⟩ | ⟨g1, g2⟩ <;> rcases mn_cases t r with ⟨i1, i2⟩ | ⟨i1, i2⟩ <;> omega
theorem wsum_step {F T : Nat → Int} {n : Nat} (r : Int) (hr : 0 ≤ r) (hg : good F T n = true) : ∀ k, k ≤ n → wsum F T 0 (r + 1) k = wsum F T 0 r k + wsum F T r (r + 1) k := by
  intro k
  induction k with
  | zero => intro _; rfl
  | succ k ih =>
    intro hk
    obtain ⟨g0, g1, g2, _⟩ := good_at hg (show k < n by omega)
    simp only [wsum, ih (by omega), clip_step _ _ _ g0 g1 hr]
    omega
theorem wsum_week {F T : Nat → Int} {n : Nat} (h : Wk F T n) : ∀ k, k ≤ n → wsum F T 0 604800 k = tsum F T k := by
  intro k
  induction k with
  | zero => intro _; rfl
  | succ k ih =>
    intro hk
    obtain ⟨g0, g1, g2, _⟩ := good_at h.good (show k < n by omega)
    simp only [wsum, tsum, ih (by omega), clip_before _ _ _ g0 g1 (h.week k (by omega))]
theorem wsum_zero {F T : Nat → Int} {n : Nat} (hg : good F T n = true) : ∀ k, k ≤ n → wsum F T 0 0 k = 0 := by
  intro k
  induction k with
  | zero => intro _; rfl
  | succ k ih =>
    intro hk
    obtain ⟨g0, g1, g2, _⟩ := good_at hg (show k < n by omega)
    simp only [wsum, ih (by omega), clip_behind _ _ _ g0 g1 g0]
    rfl
theorem until_zero {F T : Nat → Int} {n : Nat} (h : Wk F T n) : untilV F T n 0 = 0 := by
  have e : cl 0 = 0 := by decide
  unfold untilV
  rw [e]
  have := wsum_zero h.good n (Nat.le_refl _)
  simp [this]
/-- One second more. -/
theorem until_step {F T : Nat → Int} {n : Nat} (h : Wk F T n) (t : Int) (h0 : 0 ≤ t) (h1 : t < 2251799813685248) : untilV F T n (t + 1) - untilV F T n t = if openB F T n t = true then 1 else 0 := by
  have e1 : cl t = t := by unfold cl; omega
  have e2 : cl (t + 1) = t + 1 := by unfold cl; omega
  have eo : openB F T n t = hasB F T (t % 604800) n := by
    unfold openB
    rw [decide_eq_true h0, decide_eq_true (show t ≤ 2251799813685248 by omega)]
    simp
  have hr0 : 0 ≤ t % 604800 := by omega
  have hs := wsum_step (t % 604800) hr0 h.good n (Nat.le_refl _)
  have ho := wsum_one h.good (t % 604800) n (Nat.le_refl _)
  rw [eo, ← ho]
  unfold untilV
  rw [e1, e2]
  by_cases hw : t % 604800 + 1 = 604800
  · have q1 : (t + 1) / 604800 = t / 604800 + 1 := by omega
    have q2 : (t + 1) % 604800 = 0 := by omega
    rw [q1, q2, wsum_zero h.good n (Nat.le_refl _), Int.add_mul]
    rw [hw, wsum_week h n (Nat.le_refl _)] at hs
    rw [hw]
    omega
  · have q1 : (t + 1) / 604800 = t / 604800 := by omega
    have q2 : (t + 1) % 604800 = t % 604800 + 1 := by omega
    rw [q1, q2]
    omega

/-- A row that Wrong lets by is a plan's. -/
theorem wk_of {F T : Nat → Int} {n : Nat} (h : (wrongE F T n != 0) = false) : Wk F T n := by
  have h0 : wrongE F T n = 0 := by simpa using h
  unfold wrongE at h0
  by_cases hz : rowE F T n = 0
  · rw [if_pos hz] at h0
    have hn : n ≤ 32 := by
      rcases Nat.lt_or_ge 32 n with h | h
      · rw [rowE_long h] at hz; cases hz
      · exact h
    have hg : good F T n = true := by
      cases h : good F T n with
      | true => rfl
      | false => rw [rowE_bad hn h] at hz; cases hz
    have hw : weekB T n = true := by
      cases h : weekB T n with
      | true => rfl
      | false => rw [h] at h0; cases h0
    exact ⟨hn, hg, (weekB_iff n).1 hw⟩
  · rw [if_neg hz] at h0
    exact absurd h0 hz
theorem wk_wrong {F T : Nat → Int} {n : Nat} (h : Wk F T n) : wrongE F T n = 0 := by
  unfold wrongE
  rw [if_pos (rowE_ok h.len h.good), if_pos ((weekB_iff n).2 h.week)]

/- WeekBack, walked. -/
open Go.RowKit

theorem clip_mono (f t x y : Int) (h0 : 0 ≤ f) (h1 : f < t) (h : x ≤ y) : clip f t 0 x ≤ clip f t 0 y := by
  rcases clip_cases f t 0 x with ⟨a1, a2⟩ | ⟨a1, a2⟩ <;> rcases clip_cases f t 0 y with ⟨b1, b2⟩ | ⟨b1, b2⟩ <;>
    rcases mx_cases f 0 with ⟨d1, d2⟩ | ⟨d1, d2⟩ <;> rcases mn_cases t x with ⟨g1, g2⟩ | ⟨g1, g2⟩ <;> rcases mn_cases t y with ⟨i1, i2⟩ | ⟨i1, i2⟩ <;> omega
theorem wsum_mono {F T : Nat → Int} {n : Nat} (x y : Int) (h : x ≤ y) (hg : good F T n = true) : ∀ k, k ≤ n → wsum F T 0 x k ≤ wsum F T 0 y k := by
  intro k
  induction k with
  | zero => intro _; exact Int.le_refl _
  | succ k ih =>
    intro hk
    obtain ⟨g0, g1, g2, _⟩ := good_at hg (show k < n by omega)
    have := ih (by omega)
    have := clip_mono (F k) (T k) x y g0 g1 h
    simp only [wsum]
    omega
theorem tsum_pos {F T : Nat → Int} {n : Nat} (hg : good F T n = true) (h : 0 < n) : 0 < tsum F T n := by
  have h1 := tsum_mono hg n 1 h (Nat.le_refl _)
  have h2 := (good_at hg h).2.1
  have h3 : tsum F T 1 = 0 + (T 0 - F 0) := rfl
  omega
/-- The second that has m open ones ahead. -/
theorem back_ok {F T : Nat → Int} {n : Nat} {m : Int} (h : Wk F T n) (he : pnE F T n m = 0) : openB F T n (pnV F T n m) = true ∧ untilV F T n (pnV F T n m) = m := by
  have h0 : 0 ≤ m := by
    rcases Int.lt_or_le m 0 with h1 | h1
    · rw [(pn_neg h1).2] at he; cases he
    · exact h1
  have ht : tsum F T n ≠ 0 := by
    intro h1
    rw [(pn_closed h0 h1).2] at he; cases he
  have hf : ¬ 3723213977 < m / tsum F T n := by
    intro h1
    rw [(pn_far h0 ht h1).2] at he; cases he
  have hp : ¬ 2251799813685248 < m / tsum F T n * 604800 + nthV F T n (m % tsum F T n) := by
    intro h1
    rw [(pn_past h0 ht hf h1).2] at he; cases he
  rw [(pn_ok h0 ht hf hp).1]
  obtain ⟨t0, t1⟩ := h.total
  have q0 : 0 ≤ m / tsum F T n := Int.ediv_nonneg h0 t0
  have r0 : 0 ≤ m % tsum F T n := Int.emod_nonneg m ht
  have r1 : m % tsum F T n < tsum F T n := Int.emod_lt_of_pos m (by omega)
  have hm : tsum F T n * (m / tsum F T n) + m % tsum F T n = m := Int.mul_ediv_add_emod m _
  obtain ⟨w1, w2⟩ := within_nth h.good r0 r1
  obtain ⟨s0, s1⟩ := nth_bounds h r0 r1
  generalize nthV F T n (m % tsum F T n) = s at *
  generalize m / tsum F T n = q at *
  have e1 : cl (q * 604800 + s) = q * 604800 + s := by unfold cl; omega
  have e2 : (q * 604800 + s) / 604800 = q := by omega
  have e3 : (q * 604800 + s) % 604800 = s := by omega
  refine ⟨?_, ?_⟩
  · unfold openB
    rw [e3, w1, decide_eq_true (show 0 ≤ q * 604800 + s by omega), decide_eq_true (show q * 604800 + s ≤ 2251799813685248 by omega)]
    rfl
  · unfold untilV
    rw [e1, e2, e3, w2, Int.mul_comm]
    exact hm
theorem back_no {F T : Nat → Int} {n : Nat} {m : Int} (h : Wk F T n) (he : pnE F T n m ≠ 0) : pnV F T n m = 0 ∧ (m < 0 ∨ n = 0 ∨ untilV F T n 2251799813685248 ≤ m) := by
  rcases Int.lt_or_le m 0 with h0 | h0
  · exact ⟨(pn_neg h0).1, .inl h0⟩
  by_cases ht : tsum F T n = 0
  · refine ⟨(pn_closed h0 ht).1, .inr (.inl ?_)⟩
    rcases Nat.eq_zero_or_pos n with h1 | h1
    · exact h1
    · have := tsum_pos h.good h1
      omega
  obtain ⟨t0, t1⟩ := h.total
  have r0 : 0 ≤ m % tsum F T n := Int.emod_nonneg m ht
  have r1 : m % tsum F T n < tsum F T n := Int.emod_lt_of_pos m (by omega)
  have hm : tsum F T n * (m / tsum F T n) + m % tsum F T n = m := Int.mul_ediv_add_emod m _
  have hu : untilV F T n 2251799813685248 = 3723213977 * tsum F T n + wsum F T 0 (2251799813685248 % 604800) n := by
    have e1 : cl 2251799813685248 = 2251799813685248 := by decide
    unfold untilV
    rw [e1]
    rfl
  obtain ⟨l0, l1⟩ := wsum_le (2251799813685248 % 604800) h.good n (Nat.le_refl _)
  by_cases hf : 3723213977 < m / tsum F T n
  · refine ⟨(pn_far h0 ht hf).1, .inr (.inr ?_)⟩
    have hq : tsum F T n * 3723213978 ≤ tsum F T n * (m / tsum F T n) := Int.mul_le_mul_of_nonneg_left (by omega) t0
    rw [hu]
    omega
  by_cases hp : 2251799813685248 < m / tsum F T n * 604800 + nthV F T n (m % tsum F T n)
  · refine ⟨(pn_past h0 ht hf hp).1, .inr (.inr ?_)⟩
    obtain ⟨w1, w2⟩ := within_nth h.good r0 r1
    obtain ⟨s0, s1⟩ := nth_bounds h r0 r1
    have hmo := wsum_mono (2251799813685248 % 604800) (nthV F T n (m % tsum F T n)) (by omega) h.good n (Nat.le_refl _)
    have hq : m / tsum F T n = 3723213977 := by omega
    rw [hq] at hm
    rw [hu]
    omega
  · exact absurd (pn_ok h0 ht hf hp).2 he

end Go.Proofs.YtibjboacjobaoaaGreat

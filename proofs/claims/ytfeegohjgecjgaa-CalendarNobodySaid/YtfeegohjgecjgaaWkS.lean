/- WeekSteps, walked. -/
import Derived.Test.YtfeegohjgecjgaaWkG
namespace Go.Proofs.Ytfeegohjgecjgaa
open Go.RowKit

theorem clip_step (f t r : Int) (h0 : 0 ≤ f) (h1 : f < t) (h2 : 0 ≤ r) : clip f t 0 (r + 1) = clip f t 0 r + clip f t r (r + 1) := by
  rcases clip_cases f t 0 (r + 1) with ⟨a1, a2⟩ | ⟨a1, a2⟩ <;> rcases clip_cases f t 0 r with ⟨b1, b2⟩ | ⟨b1, b2⟩ <;> rcases clip_cases f t r (r + 1) with ⟨c1, c2⟩ | ⟨c1, c2⟩ <;>
    rcases mx_cases f 0 with ⟨d1, d2⟩ | ⟨d1, d2⟩ <;> rcases mx_cases f r with ⟨e1, e2⟩ | ⟨e1, e2⟩ <;> rcases mn_cases t (r + 1) with ⟨g1, g2⟩ | ⟨g1, g2⟩ <;> rcases mn_cases t r with ⟨i1, i2⟩ | ⟨i1, i2⟩ <;> omega
theorem wsum_step {F T : Nat → Int} {n : Nat} (r : Int) (hr : 0 ≤ r) (hg : good F T n = true) : ∀ k, k ≤ n → wsum F T 0 (r + 1) k = wsum F T 0 r k + wsum F T r (r + 1) k := by
  intro k
  induction k with
  | zero => intro _; rfl
  | succ k ih =>
    intro hk
    obtain ⟨g0, g1, g2, _⟩ := good_at hg (show k < n by omega)
    simp only [wsum, ih (by omega), clip_step _ _ _ g0 g1 hr]
    omega
theorem wsum_week {F T : Nat → Int} {n : Nat} (h : Wk F T n) : ∀ k, k ≤ n → wsum F T 0 604800 k = tsum F T k := by
  intro k
  induction k with
  | zero => intro _; rfl
  | succ k ih =>
    intro hk
    obtain ⟨g0, g1, g2, _⟩ := good_at h.good (show k < n by omega)
    simp only [wsum, tsum, ih (by omega), clip_before _ _ _ g0 g1 (h.week k (by omega))]
theorem wsum_zero {F T : Nat → Int} {n : Nat} (hg : good F T n = true) : ∀ k, k ≤ n → wsum F T 0 0 k = 0 := by
  intro k
  induction k with
  | zero => intro _; rfl
  | succ k ih =>
    intro hk
    obtain ⟨g0, g1, g2, _⟩ := good_at hg (show k < n by omega)
    simp only [wsum, ih (by omega), clip_behind _ _ _ g0 g1 g0]
    rfl
theorem until_zero {F T : Nat → Int} {n : Nat} (h : Wk F T n) : untilV F T n 0 = 0 := by
  have e : cl 0 = 0 := by decide
  unfold untilV
  rw [e]
  have := wsum_zero h.good n (Nat.le_refl _)
  simp [this]
/-- One second more. -/
theorem until_step {F T : Nat → Int} {n : Nat} (h : Wk F T n) (t : Int) (h0 : 0 ≤ t) (h1 : t < 2251799813685248) : untilV F T n (t + 1) - untilV F T n t = if openB F T n t = true then 1 else 0 := by
  have e1 : cl t = t := by unfold cl; omega
  have e2 : cl (t + 1) = t + 1 := by unfold cl; omega
  have eo : openB F T n t = hasB F T (t % 604800) n := by
    unfold openB
    rw [decide_eq_true h0, decide_eq_true (show t ≤ 2251799813685248 by omega)]
    simp
  have hr0 : 0 ≤ t % 604800 := by omega
  have hs := wsum_step (t % 604800) hr0 h.good n (Nat.le_refl _)
  have ho := wsum_one h.good (t % 604800) n (Nat.le_refl _)
  rw [eo, ← ho]
  unfold untilV
  rw [e1, e2]
  by_cases hw : t % 604800 + 1 = 604800
  · have q1 : (t + 1) / 604800 = t / 604800 + 1 := by omega
    have q2 : (t + 1) % 604800 = 0 := by omega
    rw [q1, q2, wsum_zero h.good n (Nat.le_refl _), Int.add_mul]
    rw [hw, wsum_week h n (Nat.le_refl _)] at hs
    rw [hw]
    omega
  · have q1 : (t + 1) / 604800 = t / 604800 := by omega
    have q2 : (t + 1) % 604800 = t % 604800 + 1 := by omega
    rw [q1, q2]
    omega

/-- A row that Wrong lets by is a plan's. -/
theorem wk_of {F T : Nat → Int} {n : Nat} (h : (wrongE F T n != 0) = false) : Wk F T n := by
  have h0 : wrongE F T n = 0 := by simpa using h
  unfold wrongE at h0
  by_cases hz : rowE F T n = 0
  · rw [if_pos hz] at h0
    have hn : n ≤ 32 := by
      rcases Nat.lt_or_ge 32 n with h | h
      · rw [rowE_long h] at hz; cases hz
      · exact h
    have hg : good F T n = true := by
      cases h : good F T n with
      | true => rfl
      | false => rw [rowE_bad hn h] at hz; cases hz
    have hw : weekB T n = true := by
      cases h : weekB T n with
      | true => rfl
      | false => rw [h] at h0; cases h0
    exact ⟨hn, hg, (weekB_iff n).1 hw⟩
  · rw [if_neg hz] at h0
    exact absurd h0 hz
theorem wk_wrong {F T : Nat → Int} {n : Nat} (h : Wk F T n) : wrongE F T n = 0 := by
  unfold wrongE
  rw [if_pos (rowE_ok h.len h.good), if_pos ((weekB_iff n).2 h.week)]

end Go.Proofs.Ytfeegohjgecjgaa

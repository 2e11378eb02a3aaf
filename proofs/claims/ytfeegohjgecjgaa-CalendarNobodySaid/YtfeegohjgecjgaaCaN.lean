/- What is due: the arithmetic. -/
import Derived.Test.YtfeegohjgecjgaaCaM
namespace Go.Proofs.Ytfeegohjgecjgaa
open Go.RowKit

theorem until_mono {F T : Nat → Int} {n : Nat} (h : Wk F T n) {a b : Int} (h0 : 0 ≤ a) (hab : a ≤ b) (h1 : b ≤ 2251799813685248) : untilV F T n a ≤ untilV F T n b := by
  obtain ⟨k, rfl⟩ := up_to hab
  clear hab
  induction k with
  | zero => simp
  | succ k ih =>
    have h2 := ih (by omega)
    have := until_step h (a + k) (by omega) (by omega)
    rw [show a + ((k + 1 : Nat) : Int) = a + k + 1 by omega]
    split at this <;> omega
/-- Where a budget is spent within a free span. -/
theorem Cal.nth_due {D : Cal} (h : D.ok) (hn : 0 < D.n) {f t bl : Int} (f0 : 0 ≤ f) (ft : f < t) (t1 : t ≤ 1125899906842624) (hfree : ∀ z, f ≤ z → z < t → hasB D.G D.U z D.m = false) (b0 : 1 ≤ bl) (b1 : bl ≤ D.V t - D.V f) :
    0 ≤ pnV D.F D.T D.n (D.V f + (bl - 1)) ∧ pnV D.F D.T D.n (D.V f + (bl - 1)) ≤ 2251799813685248 ∧
      f < pnV D.F D.T D.n (D.V f + (bl - 1)) + D.off - 604800 + 1 ∧ pnV D.F D.T D.n (D.V f + (bl - 1)) + D.off - 604800 + 1 ≤ t ∧
      D.g (pnV D.F D.T D.n (D.V f + (bl - 1)) + D.off - 604800 + 1) = D.g f + bl ∧ D.opB (pnV D.F D.T D.n (D.V f + (bl - 1)) + D.off - 604800) = true := by
  have o0 := h.off0
  have o1 := h.off1
  have hVf : D.V f = untilV D.F D.T D.n (f - D.off + 604800) := rfl
  have hVt : D.V t = untilV D.F D.T D.n (t - D.off + 604800) := rfl
  obtain ⟨_, _, u0, _⟩ := until_bounds h.wk (f - D.off + 604800)
  have hlast := until_mono h.wk (a := t - D.off + 604800) (b := 2251799813685248) (by omega) (by omega) (Int.le_refl _)
  have he : pnE D.F D.T D.n (D.V f + (bl - 1)) = 0 := by
    rcases Int.decEq (pnE D.F D.T D.n (D.V f + (bl - 1))) 0 with hne | heq
    · obtain ⟨_, h2⟩ := back_no h.wk hne
      omega
    · exact heq
  obtain ⟨h3, h4⟩ := back_ok h.wk he
  obtain ⟨r, hr⟩ : ∃ r, pnV D.F D.T D.n (D.V f + (bl - 1)) = r := ⟨_, rfl⟩
  rw [hr] at h3 h4 ⊢
  have h5 : 0 ≤ r ∧ r ≤ 2251799813685248 := by
    unfold openB at h3
    simp only [Bool.and_eq_true, decide_eq_true_eq] at h3
    exact ⟨h3.1, h3.2.1⟩
  have hlow : f ≤ r + D.off - 604800 := by
    rcases Int.lt_or_le (r + D.off - 604800) f with hc | hc
    · have h6 := until_step h.wk r h5.1 (by omega)
      rw [h3] at h6
      have h7 := until_mono h.wk (a := r + 1) (b := f - D.off + 604800) (by omega) (by omega) (by omega)
      simp only [if_true] at h6
      omega
    · exact hc
  have hhigh : r + D.off - 604800 < t := by
    rcases Int.lt_or_le (r + D.off - 604800) t with hc | hc
    · exact hc
    · have h7 := until_mono h.wk (a := t - D.off + 604800) (b := r) (by omega) (by omega) h5.2
      omega
  have hq : D.V (r + D.off - 604800) = D.V f + (bl - 1) := by
    show untilV D.F D.T D.n (r + D.off - 604800 - D.off + 604800) = _
    rw [show r + D.off - 604800 - D.off + 604800 = r by omega, h4]
  have hop : D.opB (r + D.off - 604800) = true := by
    unfold Cal.opB
    rw [hfree _ hlow hhigh, show r + D.off - 604800 - D.off + 604800 = r by omega, h3]
    rfl
  have hgf := D.g_free h f0 hlow (by omega) (fun z z1 z2 => hfree z z1 (by omega))
  have hst := D.g_step (r + D.off - 604800) (by omega)
  rw [hop] at hst
  simp only [if_true] at hst
  exact ⟨h5.1, h5.2, by omega, by omega, by omega, hop⟩

/-- What is due for a budget above zero, where the plan is not empty: a number and an error's. -/
def Cal.DueIs (D : Cal) (s b v e : Int) : Prop :=
  (e = 10 ∧ v = 0 ∧ D.g 1125899906842624 - D.g s < b) ∨ (e = 0 ∧ D.g v = D.g s + b ∧ D.opB (v - 1) = true ∧ s < v ∧ v ≤ 1125899906842624)
/-- What is due. -/
def Cal.Dues (D : Cal) (s b v e : Int) : Prop :=
  (¬ (0 ≤ s ∧ s ≤ 1125899906842624 ∧ 0 ≤ b) ∧ v = 0 ∧ e = 2) ∨ (0 ≤ s ∧ s ≤ 1125899906842624 ∧ b = 0 ∧ v = s ∧ e = 0) ∨
    (0 ≤ s ∧ s ≤ 1125899906842624 ∧ 0 < b ∧ tsum D.F D.T D.n = 0 ∧ v = 0 ∧ e = 40) ∨ (0 ≤ s ∧ s ≤ 1125899906842624 ∧ 0 < b ∧ tsum D.F D.T D.n ≠ 0 ∧ D.DueIs s b v e)
end Go.Proofs.Ytfeegohjgecjgaa

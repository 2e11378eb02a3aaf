/- What is lost and what is free: all there is. -/
import Derived.Test.YtfeegohjgecjgaaAmJ
namespace Go.Proofs.Ytfeegohjgecjgaa
open Go.RowKit

theorem clip_max (f t a b : Int) : clip f t a b = max 0 (min b t - max a f) := by
  rcases clip_cases f t a b with ⟨h, e⟩ | ⟨h, e⟩ <;> rw [e] <;> rcases mx_cases f a with ⟨h1, h2⟩ | ⟨h1, h2⟩ <;> rcases mn_cases t b with ⟨h3, h4⟩ | ⟨h3, h4⟩ <;> omega
theorem sumL_append (b : List (Int × Int)) : ∀ a, sumL (a ++ b) = sumL a + sumL b := by
  have e0 : sumL [] = 0 := rfl
  induction b with
  | nil => intro a; rw [List.append_nil, e0]; omega
  | cons x b ih =>
    intro a
    have h1 : a ++ x :: b = (a ++ [x]) ++ b := by simp
    have h2 : x :: b = ([] ++ [x]) ++ b := rfl
    rw [h1, ih, sumL_snoc, h2, ih, sumL_snoc, e0]
    omega
theorem sumL_gap (x y : Int) : sumL (gap x y) = max 0 (y - x) := by
  unfold gap
  split
  · show 0 + (y - x) = _; omega
  · show (0 : Int) = _; omega
theorem all_from {F T : Nat → Int} {n : Nat} (x y : Int) (hg : good F T n = true) : ∀ m i at_, i + m = n → x ≤ at_ → (0 < m → at_ < T i) → (at_ = x ∨ 0 < m → at_ = x ∨ at_ ≤ F i) →
    wsum F T x y n - wsum F T x y i + sumL (freeG F T y m i at_) = max 0 (y - at_) := by
  intro m
  induction m with
  | zero =>
    intro i a h _ _ _
    obtain rfl : i = n := by omega
    simp only [freeG, sumL_gap]
    omega
  | succ m ih =>
    intro i a h hx hT hF
    obtain ⟨g0, g1, g2, _⟩ := good_at hg (show i < n by omega)
    have h1 := hT (by omega)
    have h2 := hF (.inr (by omega))
    have h3 := ih (i + 1) (T i) (by omega) (by omega) (fun hm => by
      have := good_order hg (i + 1) i (by omega) (by omega)
      have := (good_at hg (show i + 1 < n by omega)).2.1
      omega) (fun hor => by
      by_cases hm : 0 < m
      · exact .inr (good_order hg (i + 1) i (by omega) (by omega))
      · exact .inl (hor.resolve_right hm))
    simp only [freeG, sumL_append, sumL_gap]
    have e : wsum F T x y (i + 1) = wsum F T x y i + clip (F i) (T i) x y := rfl
    rw [clip_max] at e
    rcases h2 with h2 | h2
    · by_cases h4 : a ≤ F i
      · omega
      · omega
    · omega
theorem wsum_none {F T : Nat → Int} {n : Nat} (x y : Int) (hg : good F T n = true) : ∀ k, k ≤ idx T x n → wsum F T x y k = 0 := by
  intro k
  induction k with
  | zero => intro _; rfl
  | succ k ih =>
    intro hk
    have h1 := idx_lo hg k (show k < idx T x n by omega)
    simp only [wsum, ih (by omega), clip_max]
    omega
theorem all_there {F T : Nat → Int} {n : Nat} (x y : Int) (hg : good F T n = true) (hxy : x ≤ y) : wsum F T x y n + sumL (freeL F T n x y) = y - x := by
  have h1 := idx_le T x n
  have h2 := all_from x y hg (n - idx T x n) (idx T x n) x (by omega) (Int.le_refl _) (fun hm => idx_hi n _ (Nat.le_refl _) (by omega)) (fun _ => .inl rfl)
  rw [wsum_none x y hg _ (Nat.le_refl _)] at h2
  unfold freeL
  omega
theorem free_apart {F T : Nat → Int} {n : Nat} (y : Int) (hg : good F T n = true) : ∀ m i at_, i + m = n → (∀ j, j < i → T j ≤ at_) → ∀ s ∈ freeG F T y m i at_, ∀ j, j < n → T j ≤ s.1 ∨ s.2 ≤ F j := by
  intro m
  induction m with
  | zero =>
    intro i a h hT s hs j hj
    simp only [freeG, gap] at hs
    split at hs
    · simp only [List.mem_singleton] at hs
      subst hs
      exact .inl (hT j (by omega))
    · cases hs
  | succ m ih =>
    intro i a h hT s hs j hj
    simp only [freeG, List.mem_append, gap] at hs
    rcases hs with hs | hs
    · split at hs
      · simp only [List.mem_singleton] at hs
        subst hs
        by_cases hji : j < i
        · exact .inl (hT j hji)
        · refine .inr ?_
          show min y (F i) ≤ F j
          by_cases e : j = i
          · subst e; omega
          · have := good_order hg j i (by omega) hj
            have := (good_at hg (show i < n by omega)).2.1
            omega
      · cases hs
    · refine ih (i + 1) (T i) (by omega) (fun j hj => ?_) s hs j hj
      exact good_mono hg j i (by omega) (by omega)
theorem freeL_apart {F T : Nat → Int} {n : Nat} (x y : Int) (hg : good F T n = true) : ∀ s ∈ freeL F T n x y, ∀ j, j < n → T j ≤ s.1 ∨ s.2 ≤ F j := by
  have h1 := idx_le T x n
  exact free_apart y hg _ _ x (by omega) fun j hj => idx_lo hg j hj
theorem freeL_open {F T : Nat → Int} {n : Nat} {x y : Int} (hg : good F T n = true) {s : Int × Int} (hs : s ∈ freeL F T n x y) (t : Int) (h1 : s.1 ≤ t) (h2 : t < s.2) : hasB F T t n = false := by
  cases hh : hasB F T t n with
  | false => rfl
  | true =>
    obtain ⟨k, hk, h3, h4⟩ := (hasB_iff n).1 hh
    have := freeL_apart x y hg s hs k hk
    omega
theorem freeL_within {F T : Nat → Int} {n : Nat} {x y : Int} (hg : good F T n = true) {s : Int × Int} (hs : s ∈ freeL F T n x y) : wsum F T s.1 s.2 n = 0 := by
  have h1 := (freeL_mem x y s hs).2.1
  have key : ∀ k, k ≤ n → wsum F T s.1 s.2 k = 0 := by
    intro k
    induction k with
    | zero => intro _; rfl
    | succ k ih =>
      intro hk
      have := freeL_apart x y hg s hs k (by omega)
      simp only [wsum, ih (by omega), clip_max]
      omega
  exact key n (Nat.le_refl _)
/-- The lengths of what is closed, added up. -/
def valD (u v : Int) : Int := wrap64 (v - u)
theorem lostC_sum : ∀ (l : List (Int × Int)) (acc : Int), (∀ s ∈ l, 0 ≤ s.1 ∧ s.1 < s.2 ∧ s.2 ≤ 1125899906842624) → 0 ≤ acc → acc + l.length * 1125899906842624 ≤ 9007199254740992000 → lostC valD l acc = acc + sumL l := by
  intro l
  induction l with
  | nil => intro acc _ _ _; show acc = acc + 0; omega
  | cons s l ih =>
    intro acc h h0 h1
    obtain ⟨a, b, c⟩ := h s (by simp)
    simp only [List.length_cons] at h1
    have e : wrap64 (acc + valD s.1 s.2) = acc + (s.2 - s.1) := by unfold valD wrap64; omega
    show lostC valD l (wrap64 (acc + valD s.1 s.2)) = _
    rw [e, ih _ (fun s hs => h s (by simp [hs])) (by omega) (by omega)]
    have h2 : s :: l = ([] ++ [s]) ++ l := rfl
    rw [h2, sumL_append, sumL_snoc]
    show _ = acc + (0 + (s.2 - s.1) + sumL l)
    omega
theorem lost_lengths {F T : Nat → Int} {n : Nat} (x y : Int) (hn : n ≤ 32) (hg : good F T n = true) : lostV valD F T n x y = wsum F T x y n := by
  have h1 := cutL_len F T x y n
  rw [lostV_cut valD x y hg, lostC_sum _ 0 (cutL_right x y hg n (Nat.le_refl _)) (by omega) (by omega), sumL_cut]
  omega
end Go.Proofs.Ytfeegohjgecjgaa

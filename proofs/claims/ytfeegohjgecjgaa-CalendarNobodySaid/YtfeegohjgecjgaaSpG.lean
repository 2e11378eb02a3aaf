/- Within and Len of a row of spans. -/
import Derived.Test.YtfeegohjgecjgaaSpF
namespace Go.Proofs.Ytfeegohjgecjgaa
open Go.RowKit

/-- How many seconds of a span are in a range. -/
def clip (f t a b : Int) : Int := comT f t a b - comF f t a b
theorem clip_cases (f t a b : Int) : (mn t b ≤ mx f a ∧ clip f t a b = 0) ∨ (mx f a < mn t b ∧ clip f t a b = mn t b - mx f a) := by
  unfold clip
  rcases com_cases f t a b with ⟨h, h1, h2⟩ | ⟨h, h1, h2⟩
  · exact .inl ⟨h, by rw [h1, h2]; rfl⟩
  · exact .inr ⟨h, by rw [h1, h2]⟩
theorem clip_bounds (f t a b : Int) (h0 : 0 ≤ f) (h1 : f < t) (h2 : t ≤ 1125899906842624) : 0 ≤ clip f t a b ∧ clip f t a b ≤ t - f := by
  rcases clip_cases f t a b with ⟨h, e⟩ | ⟨h, e⟩ <;> rcases mx_cases f a with ⟨h3, e3⟩ | ⟨h3, e3⟩ <;> rcases mn_cases t b with ⟨h4, e4⟩ | ⟨h4, e4⟩ <;> omega
def wsum (F T : Nat → Int) (a b : Int) : Nat → Int
  | 0 => 0
  | k + 1 => wsum F T a b k + clip (F k) (T k) a b
theorem wsum_bounds {F T : Nat → Int} {n : Nat} (a b : Int) (hg : good F T n = true) : ∀ k, k ≤ n → 0 ≤ wsum F T a b k ∧ wsum F T a b k ≤ k * 1125899906842624 := by
  intro k
  induction k with
  | zero => intro _; simp [wsum]
  | succ k ih =>
    intro hk
    obtain ⟨h1, h2⟩ := ih (by omega)
    obtain ⟨g0, g1, g2, _⟩ := good_at hg (show k < n by omega)
    have := clip_bounds (F k) (T k) a b g0 g1 g2
    simp only [wsum]
    omega

end Go.Proofs.Ytfeegohjgecjgaa

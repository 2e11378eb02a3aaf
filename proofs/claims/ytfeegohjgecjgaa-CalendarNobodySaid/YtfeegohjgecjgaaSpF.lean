/- Rows of spans: Add, both ways; Within, Len, Nth, Has. -/
import Derived.Test.YtfeegohjgecjgaaSpB
namespace Go.Proofs.Ytfeegohjgecjgaa
open Go.RowKit

def addV (t b : Int) : Int := if t < 0 ∨ 1125899906842624 < t then 0 else if b < -t ∨ 1125899906842624 - t < b then 0 else t + b
def addE (t b : Int) : Int := if t < 0 ∨ 1125899906842624 < t then 2 else if b < -t ∨ 1125899906842624 - t < b then 10 else 0
theorem add_cases (t b : Int) : ((t < 0 ∨ 1125899906842624 < t) ∧ addV t b = 0 ∧ addE t b = 2) ∨ ((0 ≤ t ∧ t ≤ 1125899906842624) ∧ (b < -t ∨ 1125899906842624 - t < b) ∧ addV t b = 0 ∧ addE t b = 10) ∨
    ((0 ≤ t ∧ t ≤ 1125899906842624) ∧ (-t ≤ b ∧ b ≤ 1125899906842624 - t) ∧ addV t b = t + b ∧ addE t b = 0) := by
  unfold addV addE
  by_cases h1 : t < 0 ∨ 1125899906842624 < t
  · exact .inl ⟨h1, by rw [if_pos h1], by rw [if_pos h1]⟩
  · by_cases h2 : b < -t ∨ 1125899906842624 - t < b
    · exact .inr (.inl ⟨by omega, h2, by rw [if_neg h1, if_pos h2], by rw [if_neg h1, if_pos h2]⟩)
    · exact .inr (.inr ⟨by omega, by omega, by rw [if_neg h1, if_neg h2], by rw [if_neg h1, if_neg h2]⟩)
theorem ret_two {k k' : IntKind} {a b a' b' : Int} (h : a = a') (h' : b = b') : Ending.returned (.tuple #[.int k a, .int k' b]) = .returned (.tuple #[.int k a', .int k' b']) := by rw [h, h']

end Go.Proofs.Ytfeegohjgecjgaa

/- Rows of spans: Add, both ways; Within, Len, Nth, Has. -/
import Derived.Test.YthlmeppahcjlgaaSpB
namespace Go.Proofs.Ythlmeppahcjlgaa
open Go.RowKit

def addV (t b : Int) : Int := if t < 0 ∨ 1125899906842624 < t then 0 else if b < -t ∨ 1125899906842624 - t < b then 0 else t + b
def addE (t b : Int) : Int := if t < 0 ∨ 1125899906842624 < t then 2 else if b < -t ∨ 1125899906842624 - t < b then 10 else 0
theorem add_cases (t b : Int) : ((t < 0 ∨ 1125899906842624 < t) ∧ addV t b = 0 ∧ addE t b = 2) ∨ ((0 ≤ t ∧ t ≤ 1125899906842624) ∧ (b < -t ∨ 1125899906842624 - t < b) ∧ addV t b = 0 ∧ addE t b = 10) ∨
    ((0 ≤ t ∧ t ≤ 1125899906842624) ∧ (-t ≤ b ∧ b ≤ 1125899906842624 - t) ∧ addV t b = t + b ∧ addE t b = 0) := by
  unfold addV addE
  by_cases h1 : t < 0 ∨ 1125899906842624 < t
  · exact .inl ⟨h1, by rw [if_pos h1], by rw [if_pos h1]⟩
  · by_cases h2 : b < -t ∨ 1125899906842624 - t < b
    · exact .inr (.inl ⟨by omega, h2, by rw [if_neg h1, if_pos h2], by rw [if_neg h1, if_pos h2]⟩)
    · exact .inr (.inr ⟨by omega, by omega, by rw [if_neg h1, if_neg h2], by rw [if_neg h1, if_neg h2]⟩)
theorem ret_two {k k' : IntKind} {a b a' b' : Int} (h : a = a') (h' : b = b') : Ending.returned (.tuple #[.int k a, .int k' b]) = .returned (.tuple #[.int k a', .int k' b']) := by rw [h, h']

theorem add_any (t b : Int) (w : World) (h1 : -9223372036854775808 ≤ b) (h2 : b ≤ 9223372036854775807) : Calls Try.prog 15 #[.int .i64 t, .int .i64 b] w fun e w' => e = .returned (.tuple #[.int .i64 (addV t b), .int .i64 (addE t b)]) ∧ w = w' := by
  have hc := Lib.hid (add_cases t b)
  obtain ⟨v, hv⟩ : ∃ v, addV t b = v := ⟨_, rfl⟩
  obtain ⟨x, hx⟩ : ∃ v, addE t b = v := ⟨_, rfl⟩
  rw [hv, hx] at hc ⊢
  clear hv hx
  go_enter Try.func15, Try.ntmps15
  go_wp2
  all_goals
    go_ret2
    have hc := hc.out
    refine ⟨ret_two (by omega) (by omega), rfl⟩
theorem radd_any (t b : Int) (w : World) (h1 : -9223372036854775808 ≤ b) (h2 : b ≤ 9223372036854775807) : Calls Try.prog 16 #[.int .i64 t, .int .i64 b] w fun e w' => e = .returned (.tuple #[.int .i64 (addV t b), .int .i64 (addE t b)]) ∧ w = w' := by
  have hc := Lib.hid (add_cases t b)
  obtain ⟨v, hv⟩ : ∃ v, addV t b = v := ⟨_, rfl⟩
  obtain ⟨x, hx⟩ : ∃ v, addE t b = v := ⟨_, rfl⟩
  rw [hv, hx] at hc ⊢
  clear hv hx
  go_enter Try.func16, Try.ntmps16
  go_wp2
  all_goals
    go_ret2
    have hc := hc.out
    refine ⟨ret_two (by omega) (by omega), rfl⟩
end Go.Proofs.Ythlmeppahcjlgaa

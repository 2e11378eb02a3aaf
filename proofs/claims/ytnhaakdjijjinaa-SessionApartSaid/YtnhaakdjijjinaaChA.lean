/- Contracts: how one is handed on, and whether one may be. -/
import Derived.Lib.Hide
import Derived.IntWalk
namespace Go.Proofs.Ytnhaakdjijjinaa
open Go.RowKit

/-- A contract as it is handed on. -/
def conV (c : Int) (a : Option Addr) (n ca : Nat) (r b : Int) : Value := .agg #[.int .i64 c, .slice a n ca, .int .i64 r, .int .i64 b]
def rngB (n l m : Int) : Bool := decide (l ≤ n) && decide (n ≤ m)
theorem rngB_iff {n l m : Int} : rngB n l m = true ↔ l ≤ n ∧ n ≤ m := by simp [rngB]
def lv1 (b p : Int) : Bool := rngB b 1 1125899906842624 && rngB p 0 7
def lvs (B P : Nat → Int) : Nat → Bool
  | 0 => true
  | k + 1 => lvs B P k && lv1 (B k) (P k)
theorem lvs_le {B P : Nat → Int} {n : Nat} : ∀ {k}, lvs B P n = true → k ≤ n → lvs B P k = true := by
  induction n with
  | zero => intro k h hk; obtain rfl : k = 0 := by omega
            exact h
  | succ n ih =>
    intro k h hk
    by_cases e : k = n + 1
    · subst e; exact h
    · simp only [lvs, Bool.and_eq_true] at h
      exact ih h.1 (by omega)
theorem lvs_at {B P : Nat → Int} {n k : Nat} (h : lvs B P n = true) (hk : k < n) : 1 ≤ B k ∧ B k ≤ 1125899906842624 ∧ 0 ≤ P k ∧ P k ≤ 7 := by
  have h1 := lvs_le h (show k + 1 ≤ n from hk)
  simp only [lvs, lv1, rngB, Bool.and_eq_true, decide_eq_true_eq] at h1
  omega
theorem lvs_bad {B P : Nat → Int} {n k : Nat} (h : lvs B P (k + 1) = false) (hk : k < n) : lvs B P n = false := by
  cases hg : lvs B P n with
  | false => rfl
  | true => rw [lvs_le hg hk] at h; cases h
/-- The head of a contract that may be: its numbers. -/
def headC (c : Int) (n : Nat) (r b : Int) : Bool := rngB c 0 7 && (rngB n 1 6 && (rngB r 1 8 && rngB b 1 1048576))
def goodC (c : Int) (n : Nat) (r b : Int) (B P : Nat → Int) : Bool := headC c n r b && lvs B P n
theorem goodC_n {c : Int} {n : Nat} {r b : Int} {B P : Nat → Int} (h : goodC c n r b B P = true) : 0 ≤ c ∧ c ≤ 7 ∧ 1 ≤ n ∧ n ≤ 6 ∧ lvs B P n = true := by
  simp only [goodC, headC, Bool.and_eq_true, rngB_iff] at h
  obtain ⟨⟨h1, h2, _⟩, h3⟩ := h
  exact ⟨h1.1, h1.2, by omega, by omega, h3⟩

end Go.Proofs.Ytnhaakdjijjinaa

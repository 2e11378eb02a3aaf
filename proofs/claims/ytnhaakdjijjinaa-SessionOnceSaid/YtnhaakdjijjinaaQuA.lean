/- The plain arithmetic of numbers as bytes. -/
import Derived.Laws.MathBits
namespace Go.Proofs.Ytnhaakdjijjinaa

/-- How many bytes a number has. -/
def sz (n : Nat) : Nat := (bitLen n + 7) / 8
/-- The lowest j bytes of n, the most significant first. -/
def enc : Nat → Nat → List Nat
  | 0, _ => []
  | j + 1, n => (n / 2 ^ (8 * j) % 256) :: enc j n
/-- A number's bytes, with s added to the first. -/
def num (s n : Nat) : List Nat := (s + sz n) :: enc (sz n) n

theorem bitLen_le (n : Nat) (h : n < 18446744073709551616) : bitLen n ≤ 64 := by
  unfold bitLen
  split
  · omega
  · rename_i h0
    have := (Nat.log2_lt h0).2 (show n < 2 ^ 64 from h)
    omega
theorem sz_le (n : Nat) (h : n < 18446744073709551616) : sz n ≤ 8 := by
  have := bitLen_le n h
  unfold sz; omega
theorem sz_up (n : Nat) : n < 2 ^ (8 * sz n) := by
  have h := (bitLen_spec n).1
  have h2 : bitLen n ≤ 8 * sz n := by unfold sz; omega
  exact Nat.lt_of_lt_of_le h (Nat.pow_le_pow_right (by omega) h2)
theorem sz_low (n : Nat) (h : 0 < sz n) : 2 ^ (8 * (sz n - 1)) ≤ n := by
  have h0 : n ≠ 0 := by
    intro e; subst e; simp [sz, bitLen] at h
  have h1 := (bitLen_spec n).2 h0
  have h2 : 8 * (sz n - 1) ≤ bitLen n - 1 := by unfold sz at h ⊢; omega
  exact Nat.le_trans (Nat.pow_le_pow_right (by omega) h2) h1
theorem sz_unique (n j : Nat) (h1 : n < 2 ^ (8 * j)) (h2 : 0 < j → 2 ^ (8 * (j - 1)) ≤ n) : sz n = j := by
  have a := sz_up n
  have b := sz_low n
  rcases Nat.lt_trichotomy (sz n) j with h | h | h
  · have := h2 (by omega)
    have h3 : 2 ^ (8 * sz n) ≤ 2 ^ (8 * (j - 1)) := Nat.pow_le_pow_right (by omega) (by omega)
    omega
  · exact h
  · have := b (by omega)
    have h3 : 2 ^ (8 * j) ≤ 2 ^ (8 * (sz n - 1)) := Nat.pow_le_pow_right (by omega) (by omega)
    omega
theorem sz_zero : sz 0 = 0 := by decide
theorem enc_len (j n : Nat) : (enc j n).length = j := by
  induction j with
  | zero => rfl
  | succ j ih => simp [enc, ih]
theorem enc_lt (j n : Nat) : ∀ c ∈ enc j n, c < 256 := by
  induction j with
  | zero => simp [enc]
  | succ j ih =>
    intro c hc
    simp only [enc, List.mem_cons] at hc
    rcases hc with rfl | hc
    · exact Nat.mod_lt _ (by omega)
    · exact ih c hc
theorem enc_get (j n k r : Nat) (h : k + 1 + r = j) : (enc j n).getD k 0 = n / 2 ^ (8 * r) % 256 := by
  induction j generalizing k with
  | zero => omega
  | succ j ih =>
    cases k with
    | zero =>
      obtain rfl : r = j := by omega
      simp [enc]
    | succ k =>
      have := ih k (by omega)
      simpa [enc] using this
theorem num_len (s n : Nat) : (num s n).length = 1 + sz n := by simp [num, enc_len]; omega
theorem num_lt (s n : Nat) (hs : s + sz n < 256) : ∀ c ∈ num s n, c < 256 := by
  intro c hc
  simp only [num, List.mem_cons] at hc
  rcases hc with rfl | hc
  · exact hs
  · exact enc_lt _ _ c hc
end Go.Proofs.Ytnhaakdjijjinaa

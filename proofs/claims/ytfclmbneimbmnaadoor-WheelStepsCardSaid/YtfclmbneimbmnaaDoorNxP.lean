/- The lowest bit, a rotation's bits, the table of trailing zeros. No model in this text. -/
import Derived.Test.YtfclmbneimbmnaaDoorRgF
namespace Go.Proofs.YtfclmbneimbmnaaDoor
theorem low_bit (x j : Nat) (hx : x < 2 ^ 64) (h1 : x.testBit j = true) (h0 : ∀ i, i < j → x.testBit i = false) : x &&& (2 ^ 64 - x) = 2 ^ j := by
  have hj : j < 64 := by
    by_cases h : j < 64
    · exact h
    · rw [Nat.testBit_lt_two_pow (Nat.lt_of_lt_of_le hx (Nat.pow_le_pow_right (by omega) (by omega)))] at h1; cases h1
  -- x = 2^j * (2 m + 1)
  have hmod : x % 2 ^ j = 0 := by
    apply Nat.eq_of_testBit_eq
    intro i
    rw [Nat.testBit_mod_two_pow, Nat.zero_testBit]
    by_cases h : i < j
    · simp [h, h0 i h]
    · simp [h]
  obtain ⟨y, hy⟩ : ∃ y, x = 2 ^ j * y := ⟨x / 2 ^ j, by rw [Nat.mul_comm]; exact (Nat.div_mul_cancel (Nat.dvd_of_mod_eq_zero hmod)).symm⟩
  have hodd : y.testBit 0 = true := by
    rw [hy, Nat.testBit_two_pow_mul] at h1
    simpa using h1
  have hy64 : y < 2 ^ (64 - j) := by
    have : 2 ^ j * y < 2 ^ j * 2 ^ (64 - j) := by rw [← Nat.pow_add, show j + (64 - j) = 64 by omega, ← hy]; exact hx
    exact Nat.lt_of_mul_lt_mul_left this
  obtain ⟨z, hz⟩ : ∃ z, y = 2 * z + 1 := by
    rw [Nat.testBit_zero] at hodd
    have : y % 2 = 1 := by simpa using hodd
    exact ⟨y / 2, by omega⟩
  have e : 2 ^ 64 - x = 2 ^ j * (2 ^ (64 - j) - (2 * z + 1)) := by
    rw [Nat.mul_sub, ← Nat.pow_add, show j + (64 - j) = 64 by omega, ← hz, ← hy]
  rw [e]
  apply Nat.eq_of_testBit_eq
  intro i
  rw [Nat.testBit_and, hy, Nat.testBit_two_pow_mul, Nat.testBit_two_pow_mul, Nat.testBit_two_pow, Nat.testBit_two_pow_sub_succ (by omega)]
  by_cases hij : j ≤ i
  · simp only [hij, decide_true, Bool.true_and]
    by_cases e0 : i = j
    · subst e0
      have : (2 * z).testBit 0 = false := by simp [Nat.testBit_zero]
      simp [hodd, this]
      omega
    · have e1 : y.testBit (i - j) = (2 * z).testBit (i - j) := by
        rw [hz]
        obtain ⟨k, hk⟩ : ∃ k, i - j = k + 1 := ⟨i - j - 1, by omega⟩
        rw [hk, Nat.testBit_succ, Nat.testBit_succ]
        congr 1; omega
      rw [e1]
      have e2 : decide (j = i) = false := decide_eq_false (fun h => e0 h.symm)
      rw [e2]
      cases (2 * z).testBit (i - j) <;> simp
  · have e2 : decide (j = i) = false := decide_eq_false (by omega)
    simp [hij, e2]

/-- The rotation. -/
def rotN (U f : Nat) : Nat := (U * 2 ^ ((64 - f) % 64)) % 2 ^ 64 ||| U / 2 ^ (64 - (64 - f) % 64)
theorem rotN_bit (U f j : Nat) (hU : U < 2 ^ 64) (hf : f < 64) (hj : j < 64) : (rotN U f).testBit j = U.testBit ((f + j) % 64) := by
  unfold rotN
  rw [Nat.testBit_or, Nat.testBit_mod_two_pow, Nat.mul_comm, Nat.testBit_two_pow_mul, Nat.testBit_div_two_pow]
  have hd : decide (j < 64) = true := decide_eq_true hj
  rw [hd, Bool.true_and]
  by_cases h0 : f = 0
  · subst h0
    have e1 : (64 - 0) % 64 = 0 := rfl
    rw [e1]
    have : U.testBit (j + (64 - 0)) = false := Nat.testBit_lt_two_pow (Nat.lt_of_lt_of_le hU (Nat.pow_le_pow_right (by omega) (by omega)))
    rw [this]
    simp
    rw [Nat.mod_eq_of_lt hj]
  · have e1 : (64 - f) % 64 = 64 - f := Nat.mod_eq_of_lt (by omega)
    rw [e1, show 64 - (64 - f) = f by omega]
    by_cases h1 : 64 - f ≤ j
    · have : U.testBit (j + f) = false := Nat.testBit_lt_two_pow (Nat.lt_of_lt_of_le hU (Nat.pow_le_pow_right (by omega) (by omega)))
      rw [this, show (f + j) % 64 = j - (64 - f) by omega]
      simp [h1]
    · rw [show (f + j) % 64 = j + f by omega]
      simp [h1]
theorem rotN_lt (U f : Nat) (hU : U < 2 ^ 64) : rotN U f < 2 ^ 64 := by
  unfold rotN
  exact Nat.or_lt_two_pow (Nat.mod_lt _ (by decide)) (Nat.lt_of_le_of_lt (Nat.div_le_self _ _) hU)
theorem bitsN_bit (L : Nat → Nat) : ∀ k i, (bitsN L k).testBit i = (decide (i < k) && decide (0 < L i))
  | 0, i => by simp [bitsN]
  | k + 1, i => by
    have ih := bitsN_bit L k i
    unfold bitsN
    split
    · rename_i h
      rw [Nat.testBit_or, ih, Nat.testBit_two_pow]
      by_cases e : i = k
      · subst e; simp [h]
      · have : decide (k = i) = false := decide_eq_false (fun h => e h.symm)
        rw [this, Bool.or_false]
        congr 1
        exact decide_eq_decide.2 (by omega)
    · rename_i h
      rw [ih]
      by_cases e : i = k
      · subst e; simp [h]
      · congr 1
        exact decide_eq_decide.2 (by omega)
theorem tab_all : ∀ j : Fin 64, tabL.getD (2 ^ j.val * 285870213051353865 % 18446744073709551616 / 288230376151711744) 0 = (j.val : Int) := by decide
theorem tab_at (j : Nat) (hj : j < 64) : tabL.getD (2 ^ j * 285870213051353865 % 18446744073709551616 / 288230376151711744) 0 = (j : Int) := tab_all ⟨j, hj⟩
end Go.Proofs.YtfclmbneimbmnaaDoor

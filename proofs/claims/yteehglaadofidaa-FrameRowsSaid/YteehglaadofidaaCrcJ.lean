/- The reference's way to the checksum, bit by bit, is the same. -/
import Derived.Test.YteehglaadofidaaCrcG
namespace Go.Proofs.Yteehglaadofidaa

def rb1 (r d : Nat) : Nat := if r / 8388608 % 2 = d then r * 2 % 16777216 else (r * 2 % 16777216) ^^^ 8801531
def refB (r c : Nat) : Nat → Nat
  | 0 => r
  | j + 1 => rb1 (refB r c j) (c / 2 ^ (7 - j) % 2)
theorem xor_add (a b n : Nat) (hb : b < 2 ^ n) : 2 ^ n * a + b = 2 ^ n * a ^^^ b := by
  apply Nat.eq_of_testBit_eq
  intro i
  rw [Nat.testBit_two_pow_mul_add _ hb, Nat.testBit_xor, Nat.testBit_two_pow_mul]
  by_cases hi : i < n
  · have : ¬ n ≤ i := by omega
    simp [hi, this]
  · have h16 : n ≤ i := by omega
    have : b.testBit i = false := Nat.testBit_lt_two_pow (Nat.lt_of_lt_of_le hb (Nat.pow_le_pow_right (by omega) h16))
    simp [hi, h16, this]
theorem xc2 (a b : Nat) : a ^^^ (a ^^^ b) = b := by rw [← Nat.xor_assoc, Nat.xor_self, Nat.zero_xor]
theorem poly_split : (25578747 : Nat) = 16777216 ^^^ 8801531 := by decide
theorem sh_high (r : Nat) (h : r < 16777216) (h1 : 8388608 ≤ r) : sh r = (r * 2 % 16777216) ^^^ 8801531 := by
  unfold sh
  rw [if_pos (by omega), poly_split, ← Nat.xor_assoc]
  congr 1
  have e := xor_add 1 (r * 2 % 16777216) 24 (by omega)
  have e2 : 2 * r = 2 ^ 24 * 1 + r * 2 % 16777216 := by omega
  rw [e2, e, Nat.xor_comm]
  exact xc2 16777216 _
theorem sh_low (r : Nat) (h1 : r < 8388608) : sh r = r * 2 % 16777216 := by
  rw [sh_small r h1]; omega
theorem xor_top23 (r : Nat) (h : r < 16777216) (h1 : 8388608 ≤ r) : r ^^^ 8388608 = r - 8388608 := by
  have e := xor_add 1 (r - 8388608) 23 (by omega)
  have e2 : r = 2 ^ 23 * 1 + (r - 8388608) := by omega
  have e3 : r = 8388608 ^^^ (r - 8388608) := e2.trans e
  generalize r - 8388608 = y at e3
  rw [e3, Nat.xor_comm]
  exact xc2 8388608 y
theorem xor_low23 (r : Nat) (h1 : r < 8388608) : r ^^^ 8388608 = r + 8388608 := by
  have e := xor_add 1 r 23 (by omega)
  rw [Nat.xor_comm]
  have e3 : 8388608 + r = 8388608 ^^^ r := e
  rw [← e3, Nat.add_comm]
theorem rb1_sh (r d : Nat) (h : r < 16777216) (hd : d < 2) : rb1 r d = sh (r ^^^ d * 8388608) := by
  unfold rb1
  by_cases h1 : 8388608 ≤ r
  · have e : r / 8388608 % 2 = 1 := by omega
    rw [e]
    by_cases hd1 : d = 1
    · subst hd1
      rw [if_pos rfl, Nat.one_mul, xor_top23 r h h1, sh_low _ (by omega)]
      omega
    · obtain rfl : d = 0 := by omega
      rw [if_neg (by omega), Nat.zero_mul, Nat.xor_zero, sh_high r h h1]
  · have e : r / 8388608 % 2 = 0 := by omega
    rw [e]
    by_cases hd1 : d = 1
    · subst hd1
      have e3 : (r + 8388608) * 2 % 16777216 = r * 2 % 16777216 := by omega
      rw [if_neg (by omega), Nat.one_mul, xor_low23 r (by omega), sh_high _ (by omega) (by omega), e3]
    · obtain rfl : d = 0 := by omega
      rw [if_pos rfl, Nat.zero_mul, Nat.xor_zero, sh_low r (by omega)]
theorem rb1_lt (r d : Nat) (h : r < 16777216) (hd : d < 2) : rb1 r d < 16777216 := by
  rw [rb1_sh r d h hd]
  exact sh_lt _ (xor_lt24 h (by omega))
theorem refB_lt (r c j : Nat) (h : r < 16777216) : refB r c j < 16777216 := by
  induction j with
  | zero => exact h
  | succ j ih => exact rb1_lt _ _ ih (Nat.mod_lt _ (by omega))
/-- One step: the highest bit that is still to come is met. -/
theorem rest_step (c j m : Nat) (hj : j + m = 7) : (c % 2 ^ (m + 1)) * 2 ^ (16 + j) = (c / 2 ^ m % 2) * 8388608 ^^^ (c % 2 ^ m) * 2 ^ (16 + j) := by
  have e1 : c % 2 ^ (m + 1) = 2 ^ m * (c / 2 ^ m % 2) + c % 2 ^ m := by
    rw [Nat.pow_succ, Nat.mod_mul, Nat.add_comm]
  have hp : (2 : Nat) ^ m * 2 ^ (16 + j) = 8388608 := by
    rw [← Nat.pow_add, show m + (16 + j) = 23 by omega]
  have hlt : (c % 2 ^ m) * 2 ^ (16 + j) < 2 ^ 23 := by
    have h1 : c % 2 ^ m < 2 ^ m := Nat.mod_lt _ (Nat.two_pow_pos m)
    have h2 := Nat.mul_lt_mul_of_pos_right h1 (Nat.two_pow_pos (16 + j))
    rw [hp] at h2
    omega
  have e := xor_add (c / 2 ^ m % 2) ((c % 2 ^ m) * 2 ^ (16 + j)) 23 hlt
  rw [e1, Nat.add_mul]
  have e4 : 2 ^ m * (c / 2 ^ m % 2) * 2 ^ (16 + j) = 2 ^ 23 * (c / 2 ^ m % 2) := by
    rw [Nat.mul_right_comm, hp]
  have e5 : (c / 2 ^ m % 2) * 8388608 = 2 ^ 23 * (c / 2 ^ m % 2) := Nat.mul_comm _ _
  rw [e4, e5]
  exact e
theorem refB_eq (r c : Nat) (h : r < 16777216) (hc : c < 256) : ∀ j m, j + m = 8 → shi j (r ^^^ c * 65536) = refB r c j ^^^ (c % 2 ^ m) * 2 ^ (16 + j) := by
  intro j
  induction j with
  | zero =>
    intro m hm
    obtain rfl : m = 8 := by omega
    have : c % 2 ^ 8 = c := Nat.mod_eq_of_lt hc
    rw [this]; rfl
  | succ j ih =>
    intro m hm
    have i := ih (m + 1) (by omega)
    have hm7 : 7 - j = m := by omega
    have hd : c / 2 ^ m % 2 < 2 := Nat.mod_lt _ (by omega)
    have hr := refB_lt r c j h
    have hlt : (c % 2 ^ m) * 2 ^ (16 + j) < 8388608 := by
      have h1 : c % 2 ^ m < 2 ^ m := Nat.mod_lt _ (Nat.two_pow_pos m)
      have h2 := Nat.mul_lt_mul_of_pos_right h1 (Nat.two_pow_pos (16 + j))
      rw [← Nat.pow_add, show m + (16 + j) = 23 by omega] at h2
      omega
    have hx : (c / 2 ^ m % 2) * 8388608 < 16777216 := by omega
    rw [shi, i, rest_step c j m (by omega), ← Nat.xor_assoc, sh_xor _ _ (xor_lt24 hr hx) (by omega), ← rb1_sh _ _ hr hd, sh_small _ hlt, refB, hm7]
    congr 1
    rw [← Nat.add_assoc, Nat.pow_succ, ← Nat.mul_assoc, Nat.mul_comm 2, Nat.mul_assoc, Nat.mul_comm 2]
theorem refB_by8 (r c : Nat) (h : r < 16777216) (hc : c < 256) : refB r c 8 = by8 r c := by
  have := refB_eq r c h hc 8 0 rfl
  rw [by8, this, Nat.pow_zero, Nat.mod_one, Nat.zero_mul, Nat.xor_zero]
end Go.Proofs.Yteehglaadofidaa

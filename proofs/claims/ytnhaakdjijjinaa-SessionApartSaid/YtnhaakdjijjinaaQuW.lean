/- What was written is read as it was: the bytes. -/
import Derived.Test.YtnhaakdjijjinaaQuS
namespace Go.Proofs.Ytnhaakdjijjinaa
open Go.RowKit

theorem val_enc_mod (j n : Nat) : val (enc j n) = n % 2 ^ (8 * j) := by
  induction j with
  | zero => simp [enc, val, Nat.mod_one]
  | succ j ih =>
    rw [enc, val_cons, enc_len, ih, show 8 * (j + 1) = 8 * j + 8 by omega, Nat.pow_add, show (2 : Nat) ^ 8 = 256 from rfl, Nat.mod_mul, Nat.mul_comm (n / 2 ^ (8 * j) % 256), Nat.add_comm]
theorem enc_head (n : Nat) (h : 0 < sz n) (hs : n < 18446744073709551616) : (enc (sz n) n).getD 0 0 ≠ 0 := by
  have h1 := sz_low n h
  have h2 := sz_up n
  rw [enc_get (sz n) n 0 (sz n - 1) (by omega)]
  have hp : 0 < 2 ^ (8 * (sz n - 1)) := Nat.two_pow_pos _
  have h3 : 0 < n / 2 ^ (8 * (sz n - 1)) := Nat.div_pos h1 hp
  have h4 : n / 2 ^ (8 * (sz n - 1)) < 256 := by
    rw [Nat.div_lt_iff_lt_mul hp, show (256 : Nat) = 2 ^ 8 from rfl, ← Nat.pow_add, show 8 + 8 * (sz n - 1) = 8 * sz n by omega]
    exact h2
  omega
/-- A number that was written reads as itself, whatever stands behind it. -/
theorem rnum_back (n : Nat) (bl : Bool) (rest : List Nat) (h : n < 18446744073709551616) : rnum (num (if bl then 128 else 0) n ++ rest) = some (n, bl, rest) := by
  have h8 := sz_le n h
  have hm : ((if bl then 128 else 0) + sz n) % 128 = sz n := by cases bl <;> simp <;> omega
  have hb : decide (128 ≤ (if bl then 128 else 0) + sz n) = bl := by
    cases bl
    · simp; omega
    · simp
  have hl := enc_len (sz n) n
  have ht : (enc (sz n) n ++ rest).take (sz n) = enc (sz n) n := by rw [List.take_append_of_le_length (by omega), List.take_of_length_le (by omega)]
  have hd : (enc (sz n) n ++ rest).drop (sz n) = rest := by rw [List.drop_append_of_le_length (by omega), List.drop_of_length_le (by omega)]; rfl
  unfold num
  rw [List.cons_append, rnum, hm, hb, ht, hd, val_enc_mod, Nat.mod_eq_of_lt (sz_up n), if_neg (by omega), if_neg (by rw [List.length_append]; omega), if_neg]
  rintro ⟨h1, h2⟩
  refine enc_head n h1 h ?_
  have h3 : (enc (sz n) n).getD 0 0 = (enc (sz n) n ++ rest).getD 0 0 := by rw [List.getD_eq_getElem?_getD, List.getD_eq_getElem?_getD, List.getElem?_append_left (by omega)]
  exact h3.trans h2
theorem rNum_back (n : Nat) (rest : List Nat) (h : n < 18446744073709551616) (most : Nat) (hm : n ≤ most) : rNum most (num 0 n ++ rest) = some (n, rest) := by
  have := rnum_back n false rest h
  unfold rNum
  rw [show num 0 n ++ rest = num (if false = true then 128 else 0) n ++ rest from rfl, this]
  exact if_pos hm
theorem rInt_back (z : Int) (rest : List Nat) (h1 : -9223372036854775808 ≤ z) (h2 : z ≤ 9223372036854775807) : rInt (intB z ++ rest) = some (z, rest) := by
  unfold intB
  split
  · have := rnum_back (-1 - z).toNat true rest (by omega)
    rw [if_pos rfl] at this
    rw [rInt_some (n := (-1 - z).toNat) (bl := true) this (by omega)]
    simp only [if_true]
    congr 2
    omega
  · have := rnum_back z.toNat false rest (by omega)
    rw [if_neg Bool.false_ne_true] at this
    rw [rInt_some (n := z.toNat) (bl := false) this (by omega)]
    simp only [Bool.false_eq_true, if_false]
    congr 2
    omega
theorem rFlag_back (x : Bool) (rest : List Nat) : rFlag (flagB x ++ rest) = some (x, rest) := by
  unfold rFlag flagB
  cases x
  · simp only [Bool.false_eq_true, if_false]
    rw [rNum_back 0 rest (by omega) 1 (by omega)]; rfl
  · simp only [if_true]
    rw [rNum_back 1 rest (by omega) 1 (by omega)]; rfl
theorem rText_back (s : ByteArray) (rest : List Nat) (hs : s.size ≤ 1000) : rText (s.size : Int) (num 0 s.size ++ sB s ++ rest) = some (sB s, rest) := by
  unfold rText
  rw [if_neg (by omega), List.append_assoc, Int.toNat_natCast, rNum_back s.size _ (by omega) s.size (Nat.le_refl _)]
  have hl := sB_len s
  simp only [List.length_append, hl, if_pos (Nat.le_add_right _ _)]
  congr 2
  · rw [List.take_append_of_le_length (by omega), List.take_of_length_le (by omega)]
  · rw [List.drop_append_of_le_length (by omega), List.drop_of_length_le (by omega)]; rfl
theorem str_sB (s : ByteArray) : str (sB s) = s := by
  unfold str sB
  have e : (UInt8.ofNat ∘ UInt8.toNat) = id := by funext c; simp
  rw [List.map_map, e, List.map_id]
end Go.Proofs.Ytnhaakdjijjinaa

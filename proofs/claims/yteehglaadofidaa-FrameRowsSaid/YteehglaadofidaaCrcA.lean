/- The plain arithmetic of the 24-bit checksum: the step, a byte, a list of bytes. -/
namespace Go.Proofs.Yteehglaadofidaa

def sh (r : Nat) : Nat := if 16777215 < 2 * r then (2 * r) ^^^ 25578747 else 2 * r
def shi : Nat → Nat → Nat
  | 0, x => x
  | n + 1, x => sh (shi n x)
def by8 (r c : Nat) : Nat := shi 8 (r ^^^ (c * 65536))
def onN (r : Nat) (l : List Nat) : Nat := l.foldl by8 r

theorem xor_top (x : Nat) (h1 : 16777216 ≤ x) (h2 : x < 33554432) : x ^^^ 25578747 < 16777216 := by
  have : x ^^^ 25578747 < 2 ^ 24 := by
    apply Nat.lt_pow_two_of_testBit
    intro i hi
    rw [Nat.testBit_xor]
    by_cases h : i = 24
    · subst h
      have a : x.testBit 24 = true := by
        rw [Nat.testBit_eq_decide_div_mod_eq]; simp; omega
      have b : (25578747 : Nat).testBit 24 = true := by decide
      rw [a, b]; rfl
    · have a : x.testBit i = false := by
        apply Nat.testBit_lt_two_pow
        have : 2 ^ 25 ≤ 2 ^ i := Nat.pow_le_pow_right (by omega) (by omega)
        omega
      have b : (25578747 : Nat).testBit i = false := by
        apply Nat.testBit_lt_two_pow
        have : 2 ^ 25 ≤ 2 ^ i := Nat.pow_le_pow_right (by omega) (by omega)
        omega
      rw [a, b]; rfl
  simpa using this
theorem sh_lt (r : Nat) (h : r < 16777216) : sh r < 16777216 := by
  unfold sh; split
  · exact xor_top _ (by omega) (by omega)
  · omega
theorem xor_lt24 {a b : Nat} (ha : a < 16777216) (hb : b < 16777216) : a ^^^ b < 16777216 := by
  have := Nat.xor_lt_two_pow (n := 24) (x := a) (y := b) (by omega) (by omega); simpa using this
theorem shi_lt (n x : Nat) (h : x < 16777216) : shi n x < 16777216 := by
  induction n with
  | zero => exact h
  | succ n ih => exact sh_lt _ ih
theorem by8_lt (r c : Nat) (h : r < 16777216) (hc : c < 256) : by8 r c < 16777216 := by
  exact shi_lt 8 _ (xor_lt24 h (by omega))
theorem onN_lt (l : List Nat) : ∀ (r : Nat), r < 16777216 → (∀ c ∈ l, c < 256) → onN r l < 16777216 := by
  induction l with
  | nil => intro r h _; simpa only [onN, List.foldl_nil] using h
  | cons c l ih => intro r h hl; simp only [onN, List.foldl_cons]; exact ih _ (by8_lt r c h (hl c (by simp))) (fun x hx => hl x (by simp [hx]))
theorem onN_snoc (r : Nat) (l : List Nat) (c : Nat) : onN r (l ++ [c]) = by8 (onN r l) c := by
  simp only [onN, List.foldl_append, List.foldl_cons, List.foldl_nil]
theorem onN_append (r : Nat) (l m : List Nat) : onN r (l ++ m) = onN (onN r l) m := by
  simp only [onN, List.foldl_append]
theorem take_succ_getD (l : List Nat) (k : Nat) (h : k < l.length) : l.take (k + 1) = l.take k ++ [l.getD k 0] := by
  rw [List.take_succ_eq_append_getElem h]; simp [h]
end Go.Proofs.Yteehglaadofidaa

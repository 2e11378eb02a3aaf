/- The plain arithmetic of dice. -/
import Derived.Laws.MathBits
import Derived.Laws.Bits64
import Derived.WalkKit
namespace Go.Proofs.Ytfakgemifbgafaa
open Go.RowKit (wrap64)

/-- How many bytes a number has. -/
def sz (n : Nat) : Nat := (bitLen n + 7) / 8
theorem bitLen_le (n : Nat) (h : n < 18446744073709551616) : bitLen n ≤ 64 := by
  unfold bitLen
  split
  · omega
  · rename_i h0
    have := (Nat.log2_lt h0).2 (show n < 2 ^ 64 from h)
    omega
theorem sz_le (n : Nat) (h : n < 18446744073709551616) : sz n ≤ 8 := by
  have := bitLen_le n h
  unfold sz; omega
theorem sz_up (n : Nat) : n < 2 ^ (8 * sz n) := by
  have h := (bitLen_spec n).1
  have h2 : bitLen n ≤ 8 * sz n := by unfold sz; omega
  exact Nat.lt_of_lt_of_le h (Nat.pow_le_pow_right (by omega) h2)
theorem sz_low (n : Nat) (h : 0 < sz n) : 2 ^ (8 * (sz n - 1)) ≤ n := by
  have h0 : n ≠ 0 := by
    intro e; subst e; simp [sz, bitLen] at h
  have h1 := (bitLen_spec n).2 h0
  have h2 : 8 * (sz n - 1) ≤ bitLen n - 1 := by unfold sz at h ⊢; omega
  exact Nat.le_trans (Nat.pow_le_pow_right (by omega) h2) h1
theorem sz_unique (n j : Nat) (h1 : n < 2 ^ (8 * j)) (h2 : 0 < j → 2 ^ (8 * (j - 1)) ≤ n) : sz n = j := by
  have a := sz_up n
  have b := sz_low n
  rcases Nat.lt_trichotomy (sz n) j with h | h | h
  · have := h2 (by omega)
    have h3 : 2 ^ (8 * sz n) ≤ 2 ^ (8 * (j - 1)) := Nat.pow_le_pow_right (by omega) (by omega)
    omega
  · exact h
  · have := b (by omega)
    have h3 : 2 ^ (8 * j) ≤ 2 ^ (8 * (sz n - 1)) := Nat.pow_le_pow_right (by omega) (by omega)
    omega
theorem sz_zero : sz 0 = 0 := by decide
theorem sz_step (m : Nat) (h : 0 < m) : sz m = sz (m / 256) + 1 := by
  refine sz_unique m _ ?_ ?_
  · have := sz_up (m / 256)
    rw [show 8 * (sz (m / 256) + 1) = 8 * sz (m / 256) + 8 from by omega, Nat.pow_add]
    omega
  · intro _
    rw [Nat.add_sub_cancel]
    by_cases h0 : 0 < sz (m / 256)
    · have := sz_low (m / 256) h0
      rw [show 8 * sz (m / 256) = 8 * (sz (m / 256) - 1) + 8 from by omega, Nat.pow_add]
      omega
    · rw [show sz (m / 256) = 0 from by omega]
      simp; omega

/-- The number that bytes are, the lowest first. -/
def lo : List Nat → Nat
  | [] => 0
  | c :: t => c + 256 * lo t
theorem lo_snoc (l : List Nat) (c : Nat) : lo (l ++ [c]) = lo l + c * 2 ^ (8 * l.length) := by
  induction l with
  | nil => simp [lo]
  | cons a t ih =>
    simp only [List.cons_append, lo, ih, List.length_cons]
    rw [show 8 * (t.length + 1) = 8 * t.length + 8 from by omega, Nat.pow_add, Nat.mul_add, ← Nat.add_assoc]
    congr 1
    rw [← Nat.mul_assoc, Nat.mul_comm 256 c, Nat.mul_assoc, Nat.mul_comm 256]
theorem lo_lt (l : List Nat) (h : ∀ c ∈ l, c < 256) : lo l < 2 ^ (8 * l.length) := by
  induction l with
  | nil => simp [lo]
  | cons a t ih =>
    have h1 := h a (by simp)
    have h2 := ih fun c hc => h c (by simp [hc])
    simp only [lo, List.length_cons]
    rw [show 8 * (t.length + 1) = 8 * t.length + 8 from by omega, Nat.pow_add]
    omega
theorem lo_step (l : List Nat) (i : Nat) (hi : i < l.length) : lo (l.take (i + 1)) = lo (l.take i) + l.getD i 0 * 2 ^ (8 * i) := by
  have e : l.getD i 0 = l[i] := by simp [hi]
  rw [List.take_succ_eq_append_getElem hi, lo_snoc, e, List.length_take, Nat.min_eq_left (by omega)]
theorem lo_small (l : List Nat) (h : ∀ c ∈ l, c < 256) (i : Nat) : lo (l.take i) < 2 ^ (8 * i) := by
  refine Nat.lt_of_lt_of_le (lo_lt _ fun c hc => h c (List.mem_of_mem_take hc)) (Nat.pow_le_pow_right (by omega) ?_)
  rw [List.length_take]; omega
theorem pow_small (i : Nat) (h : i ≤ 7) : 2 ^ (8 * i) * 256 ≤ 18446744073709551616 := by
  have : 2 ^ (8 * i) ≤ 2 ^ (8 * 7) := Nat.pow_le_pow_right (by omega) (by omega)
  omega
theorem u64_or_nat' (a b : Nat) (ha : a < 18446744073709551616) (hb : b < 18446744073709551616) :
    bits .or .u64 (a : Int) (b : Int) = ((a ||| b : Nat) : Int) := by
  have hx : a ||| b < 2 ^ 64 := Nat.or_lt_two_pow (by omega) (by omega)
  have h1 : (BitVec.ofInt 64 (a : Int)).toNat = a := by
    rw [BitVec.ofInt_natCast, BitVec.toNat_ofNat]; exact Nat.mod_eq_of_lt (by omega)
  have h2 : (BitVec.ofInt 64 (b : Int)).toNat = b := by
    rw [BitVec.ofInt_natCast, BitVec.toNat_ofNat]; exact Nat.mod_eq_of_lt (by omega)
  show IntKind.u64.wrap ((BitVec.ofInt 64 (a : Int) ||| BitVec.ofInt 64 (b : Int)).toNat : Int) = _
  rw [BitVec.toNat_or, h1, h2, IntKind.wrap_u64]
  omega
theorem or_up (x c i : Nat) (hi : i ≤ 7) (hx : x < 2 ^ (8 * i)) (hc : c < 256) : bits .or .u64 (x : Int) ((c * 2 ^ (8 * i) : Nat) : Int) = ((x + c * 2 ^ (8 * i) : Nat) : Int) := by
  have hp := pow_small i hi
  have hcp : c * 2 ^ (8 * i) ≤ 255 * 2 ^ (8 * i) := Nat.mul_le_mul_right _ (by omega)
  have e : x ||| c * 2 ^ (8 * i) = x + c * 2 ^ (8 * i) := by
    have := Nat.two_pow_add_eq_or_of_lt (i := 8 * i) (b := x) hx c
    rw [Nat.or_comm, Nat.mul_comm c, ← this, Nat.add_comm]
  rw [u64_or_nat' _ _ (by omega) (by omega), e]

/-- A number below n, and the bytes that are left. -/
def below (n : Nat) (bs : List Nat) : Nat × List Nat := if n < 2 then (0, bs) else (lo (bs.take (sz (n - 1))) % n, bs.drop (sz (n - 1)))
/-- A number from low to high, and the bytes that are left. -/
def between (low high : Int) (bs : List Nat) : Int × List Nat :=
  if high < low then (low, bs) else if high - low = 18446744073709551615 then (wrap64 (low + (lo (bs.take 8) : Nat)), bs.drop 8)
  else (wrap64 (low + ((below ((high - low).toNat + 1) bs).1 : Nat)), (below ((high - low).toNat + 1) bs).2)
/-- Two places exchanged. -/
def swap (l : List Int) (i j : Nat) : List Int := (l.set i (l.getD j 0)).set j (l.getD i 0)
/-- The places from i down to 1, each exchanged with one that is drawn. -/
def ord : Nat → List Int → List Nat → List Int × List Nat
  | 0, l, bs => (l, bs)
  | i + 1, l, bs => ord i (swap l (i + 1) (below (i + 2) bs).1) (below (i + 2) bs).2
/-- The ascending order. -/
def asc (n : Nat) : List Int := (List.range n).map fun (i : Nat) => ((i : Nat) : Int)

theorem below_lt (n : Nat) (bs : List Nat) (h : 0 < n) : (below n bs).1 < n := by
  unfold below
  split
  · exact h
  · exact Nat.mod_lt _ h
theorem swap_length (l : List Int) (i j : Nat) : (swap l i j).length = l.length := by simp [swap]
theorem ord_length (i : Nat) : ∀ (l : List Int) (bs : List Nat), (ord i l bs).1.length = l.length := by
  induction i with
  | zero => intro l bs; rfl
  | succ i ih => intro l bs; rw [ord, ih, swap_length]
theorem asc_length (n : Nat) : (asc n).length = n := by simp [asc]
end Go.Proofs.Ytfakgemifbgafaa

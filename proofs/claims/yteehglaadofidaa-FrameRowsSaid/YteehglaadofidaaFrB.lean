/- Walks of frame: the length that a head tells. -/
import Derived.Test.YteehglaadofidaaFrA
import Derived.Test.YteehglaadofidaaCrcK
namespace Go.Proofs.Yteehglaadofidaa
open Go.RowKit

theorem i64_or_nat (a b : Nat) (ha : a < 4294967296) (hb : b < 4294967296) : bits .or .i64 (a : Int) (b : Int) = ((a ||| b : Nat) : Int) := by
  have hx : a ||| b < 2 ^ 32 := Nat.or_lt_two_pow (by omega) (by omega)
  have e1 : ∀ x : Nat, x < 4294967296 → (BitVec.ofInt 64 (x : Int)).toNat = x := fun x h => by
    rw [BitVec.ofInt_natCast, BitVec.toNat_ofNat]; exact Nat.mod_eq_of_lt (by omega)
  show IntKind.i64.wrap ((BitVec.ofInt 64 (a : Int) ||| BitVec.ofInt 64 (b : Int)).toNat : Int) = _
  rw [BitVec.toNat_or, e1 a ha, e1 b hb]
  exact IntWalk.i64_in _ (by omega)
theorem or3i (x0 x1 x2 : Nat) (h0 : x0 < 256) (h1 : x1 < 256) (h2 : x2 < 256) :
    bits .or .i64 (bits .or .i64 ((x0 : Int) * 65536) ((x1 : Int) * 256)) (x2 : Int) = ((x0 * 65536 + x1 * 256 + x2 : Nat) : Int) := by
  have e1 : x0 * 65536 ||| x1 * 256 = x0 * 65536 + x1 * 256 := by
    have := Nat.two_pow_add_eq_or_of_lt (i := 16) (b := x1 * 256) (by omega) x0
    rw [Nat.mul_comm x0 65536]; exact this.symm
  have e2 : (x0 * 65536 + x1 * 256) ||| x2 = x0 * 65536 + x1 * 256 + x2 := by
    have := Nat.two_pow_add_eq_or_of_lt (i := 8) (b := x2) (by omega) (x0 * 256 + x1)
    rw [show x0 * 65536 + x1 * 256 = 2 ^ 8 * (x0 * 256 + x1) by omega]; exact this.symm
  rw [show ((x0 : Int) * 65536) = ((x0 * 65536 : Nat) : Int) by omega, show ((x1 : Int) * 256) = ((x1 * 256 : Nat) : Int) by omega,
    i64_or_nat _ _ (by omega) (by omega), e1, i64_or_nat _ _ (by omega) (by omega), e2]

/-- What length hands back. -/
def Len (w : World) (n e : Nat) (en : Ending) (w' : World) : Prop := en = .returned (.tuple #[.int .i64 (n : Int), .int .i64 (e : Int)]) ∧ Below w.heap.size w w'
def lenOf (bs : List Nat) : Nat × Nat := if badHead bs then (0, 20) else if bs.length < szAt bs + 8 then (0, 23) else (szOf bs + 8, 0)

theorem length0 (a : Option Addr) (cap : Nat) (w : World) : Calls Try.prog 37 #[.slice a 0 cap] w (Len w 0 23) := by
  go_enter Try.func37, Try.ntmps37
  go_wp2
  go_ret2
  exact ⟨rfl, Below.refl _ _⟩
theorem length1 (b off cap x0 : Nat) (w : World) (c0 : w.cell? ⟨b, off, none⟩ = some (.int .u8 (x0 : Int))) :
    Calls Try.prog 37 #[.slice (some ⟨b, off, none⟩) 1 cap] w (Len w 0 (if x0 = 102 then 23 else 20)) := by
  by_cases h : x0 = 102
  · subst h
    rw [if_pos rfl]
    go_enter Try.func37, Try.ntmps37
    go_wp2
    go_ret2
    exact ⟨rfl, Below.refl _ _⟩
  · have e : ((x0 : Int) != 102) = true := by simp; omega
    rw [if_neg h]
    go_enter Try.func37, Try.ntmps37
    go_wp2
    go_ret2
    exact ⟨rfl, Below.refl _ _⟩
theorem length2 (b off cap n x0 x1 : Nat) (w : World) (h2 : 2 ≤ n) (h5 : n < 5) (c0 : w.cell? ⟨b, off, none⟩ = some (.int .u8 (x0 : Int))) (c1 : w.cell? ⟨b, off + 1, none⟩ = some (.int .u8 (x1 : Int))) :
    Calls Try.prog 37 #[.slice (some ⟨b, off, none⟩) n cap] w (Len w 0 (if x0 ≠ 102 ∨ x1 = 0 then 20 else 23)) := by
  by_cases h1 : x1 = 0
  · subst h1
    rw [if_pos (.inr rfl)]
    go_enter Try.func37, Try.ntmps37
    go_wp2
    go_ret2
    exact ⟨rfl, Below.refl _ _⟩
  · have e1 : ((x1 : Int) == 0) = false := by simp; omega
    by_cases h : x0 = 102
    · subst h
      rw [if_neg (by omega)]
      go_enter Try.func37, Try.ntmps37
      go_wp2
      go_ret2
      exact ⟨rfl, Below.refl _ _⟩
    · have e : ((x0 : Int) != 102) = true := by simp; omega
      rw [if_pos (.inl h)]
      go_enter Try.func37, Try.ntmps37
      go_wp2
      go_ret2
      exact ⟨rfl, Below.refl _ _⟩
set_option maxHeartbeats 1000000 in
theorem length5 (b off cap n x0 x1 x2 x3 x4 : Nat) (w : World) (h5 : 5 ≤ n) (hm : n ≤ 140737488351232) (l2 : x2 < 256) (l3 : x3 < 256) (l4 : x4 < 256)
    (c0 : w.cell? ⟨b, off, none⟩ = some (.int .u8 (x0 : Int))) (c1 : w.cell? ⟨b, off + 1, none⟩ = some (.int .u8 (x1 : Int))) (c2 : w.cell? ⟨b, off + 2, none⟩ = some (.int .u8 (x2 : Int)))
    (c3 : w.cell? ⟨b, off + 3, none⟩ = some (.int .u8 (x3 : Int))) (c4 : w.cell? ⟨b, off + 4, none⟩ = some (.int .u8 (x4 : Int))) :
    Calls Try.prog 37 #[.slice (some ⟨b, off, none⟩) n cap] w
      (Len w (if 65536 < x2 * 65536 + x3 * 256 + x4 ∨ x1 = 0 ∨ x0 ≠ 102 ∨ n < x2 * 65536 + x3 * 256 + x4 + 8 then 0 else x2 * 65536 + x3 * 256 + x4 + 8)
        (if 65536 < x2 * 65536 + x3 * 256 + x4 ∨ x1 = 0 ∨ x0 ≠ 102 then 20 else if n < x2 * 65536 + x3 * 256 + x4 + 8 then 23 else 0)) := by
  have hor := or3i x2 x3 x4 l2 l3 l4
  obtain ⟨s, hs⟩ : ∃ s, x2 * 65536 + x3 * 256 + x4 = s := ⟨_, rfl⟩
  have hs0 : s < 16777216 := by omega
  rw [hs] at hor ⊢
  have HS := Lib.hid hs
  have HO := Lib.hid hor
  clear hs hor
  by_cases hg : 65536 < s
  · rw [if_pos (.inl hg), if_pos (.inl hg)]
    go_enter Try.func37, Try.ntmps37
    go_wp2
    go_quiet (fail)
    rw [HO.out]
    go_wp2
    go_ret2
    exact ⟨rfl, below_drewN (Below.refl _ _) _⟩
  by_cases h1 : x1 = 0
  · subst h1
    rw [if_pos (.inr (.inl rfl)), if_pos (.inr (.inl rfl))]
    go_enter Try.func37, Try.ntmps37
    go_wp2
    go_quiet (fail)
    rw [HO.out]
    go_wp2
    go_ret2
    exact ⟨rfl, below_drewN (Below.refl _ _) _⟩
  have e1 : ((x1 : Int) == 0) = false := by simp; omega
  by_cases h : x0 = 102
  · subst h
    by_cases ht : n < s + 8
    · rw [if_pos (by omega), if_neg (by omega), if_pos ht]
      go_enter Try.func37, Try.ntmps37
      go_wp2
      go_quiet (fail)
      rw [HO.out]
      go_wp2
      go_ret2
      exact ⟨rfl, below_drewN (Below.refl _ _) _⟩
    · rw [if_neg (by omega), if_neg (by omega), if_neg ht]
      go_enter Try.func37, Try.ntmps37
      go_wp2
      go_quiet (fail)
      rw [HO.out]
      go_wp2
      go_ret2
      exact ⟨rfl, below_drewN (Below.refl _ _) _⟩
  · have e : ((x0 : Int) != 102) = true := by simp; omega
    rw [if_pos (by omega), if_pos (by omega)]
    go_enter Try.func37, Try.ntmps37
    go_wp2
    go_quiet (fail)
    rw [HO.out]
    go_wp2
    go_ret2
    exact ⟨rfl, below_drewN (Below.refl _ _) _⟩
end Go.Proofs.Yteehglaadofidaa

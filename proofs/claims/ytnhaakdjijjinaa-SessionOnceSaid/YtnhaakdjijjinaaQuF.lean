/- The complement of a number below 0. -/
import Derived.WalkKit
namespace Go.Proofs.Ytnhaakdjijjinaa
open Go.RowKit
theorem not_neg (z : Int) (h0 : z < 0) (h1 : -9223372036854775808 ≤ z) : bits .xor .i64 (-1) z = -1 - z := by
  show IntKind.i64.wrap ((BitVec.ofInt 64 (-1) ^^^ BitVec.ofInt 64 z).toNat : Int) = _
  have h2 : BitVec.ofInt 64 (-1) = BitVec.allOnes 64 := by decide
  have h3 : (BitVec.ofInt 64 z).toNat = (z + 18446744073709551616).toNat := by
    rw [BitVec.toNat_ofInt]
    congr 1
    have : ((2 ^ 64 : Nat) : Int) = 18446744073709551616 := by decide
    rw [this]
    omega
  rw [h2, BitVec.allOnes_xor, BitVec.toNat_not, h3]
  simp [IntKind.wrap, IntKind.bits, IntKind.signed]
  omega
end Go.Proofs.Ytnhaakdjijjinaa

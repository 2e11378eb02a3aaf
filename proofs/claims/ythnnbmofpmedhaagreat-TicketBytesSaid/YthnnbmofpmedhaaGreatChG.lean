/- The step behind a step: the reference's. -/
import Derived.Test.YthnnbmofpmedhaaGreatChE
import Derived.Test.YthnnbmofpmedhaaGreatChF
namespace Go.Proofs.YthnnbmofpmedhaaGreat
open Go.RowKit
theorem put4_like {w : World} {N : Nat} {a b c d : Value} {t : TypeId} (h : w.heap[N]? = some (.cells #[a, b, c, d] t (0, 0))) : w.cell? ⟨N, 0, none⟩ = some a ∧ w.cell? ⟨N, 1, none⟩ = some b ∧ w.cell? ⟨N, 2, none⟩ = some c ∧ w.cell? ⟨N, 3, none⟩ = some d := ⟨cells_heap h 0, cells_heap h 1, cells_heap h 2, cells_heap h 3⟩
theorem below_put4' {B : Nat} {w w' : World} (h : Below B w w') {N : Nat} (hN : B ≤ N) (a b c d : Value) : Below B w (put4 w' N a b c d) :=
  (((h.setCell (p := ⟨N, 0, none⟩) hN a).setCell (p := ⟨N, 1, none⟩) hN b).setCell (p := ⟨N, 2, none⟩) hN c).setCell (p := ⟨N, 3, none⟩) hN d
end Go.Proofs.YthnnbmofpmedhaaGreat

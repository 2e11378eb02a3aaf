/- Tickets: at. -/
import Derived.Test.YtnhaakdjijjinaaTkA
namespace Go.Proofs.Ytnhaakdjijjinaa
open Go.RowKit
theorem cell_other4 {w : World} {N b o j : Nat} {v : Value} (h : b ≠ N) : (w.setCell ⟨N, j, none⟩ v).cell? ⟨b, o, none⟩ = w.cell? ⟨b, o, none⟩ := World.cell?_of_block (Below.heap_setCell _ _ _ _ (by exact h))
theorem below_drewN' {B : Nat} {w w' : World} (h : Below B w w') (n : Nat) : Below B w (w'.drewN n) := ⟨h.os, h.tape, h.output, h.size, h.block⟩
end Go.Proofs.Ytnhaakdjijjinaa

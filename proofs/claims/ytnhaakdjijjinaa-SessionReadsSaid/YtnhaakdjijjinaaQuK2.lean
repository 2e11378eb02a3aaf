/- What a writer's call leaves of what was there. -/
import Derived.Test.YtnhaakdjijjinaaQuJ
namespace Go.Proofs.Ytnhaakdjijjinaa
open Go.RowKit

theorem Turn.cell {b : Nat} {v : Value} {w w' : World} (h : Turn b v w w') {p : Addr} (hp : p.block < w.heap.size) (hb : p.block ≠ b) (hv : some p.block ≠ v.ownBlock) : w'.cell? p = w.cell? p :=
  World.cell?_of_block (h.block _ hp hb hv)
theorem WR.own_lt {w : World} {b base : Nat} {v : Value} {bs : List Nat} (h : WR w b base v bs) : ∀ k, v.ownBlock = some k → k < w.heap.size := fun k hk => (World.ownsRow.lt h.2.2.2.1 k hk).2

/-- A box's cells, behind a call that wrote to a writer. -/
theorem box_after {w w1 : World} {b base : Nat} {v : Value} {bs : List Nat} {C : Array Value} {t : TypeId} (hw : WR w b base v bs) (ht : Turn b v (w.alloc (.cells C t)) w1) (j : Nat) : w1.cell? ⟨w.heap.size, j, none⟩ = C[j]? := by
  have h1 := hw.lt
  refine (ht.cell (p := ⟨w.heap.size, j, none⟩) (by simp) (by simp; omega) ?_).trans (by simp)
  intro e
  have := hw.own_lt _ e.symm
  simp at this
theorem Wrote.boxed {w w' : World} {b base : Nat} {v : Value} {bs : List Nat} {o : Obj} (h : Wrote b base v (w.alloc o) bs w') : Wrote b base v w bs w' := h.after ((Below.refl _ _).alloc (Nat.le_refl _) _)
theorem Wrote.kept {w w1 w' : World} {b base : Nat} {v : Value} {bs : List Nat} (h : Wrote b base v w bs w1) (hb : Below w1.heap.size w1 w') : Wrote b base v w bs w' := by
  obtain ⟨v', h1, h2, h3⟩ := h
  exact ⟨v', h1.kept hb, h2.trans h3 (Turn.below hb), h3⟩

end Go.Proofs.Ytnhaakdjijjinaa

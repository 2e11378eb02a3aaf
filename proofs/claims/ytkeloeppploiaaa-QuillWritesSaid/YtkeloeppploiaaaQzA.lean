/- A writer, and beside it a row of the law's own. -/
import Derived.Test.YtkeloeppploiaaaQuV
namespace Go.Proofs.Ytkeloeppploiaaa
open Go.RowKit

theorem OB.turned {w w' : World} {base b2 : Nat} {v v2 : Value} {bs : List Nat} (h : OB w base v bs) (ht : Turn b2 v2 w w') (h1 : v.ownBlock ≠ some b2) (h3 : ∀ k, v.ownBlock = some k → v2.ownBlock ≠ some k) : OB w' base v bs := by
  obtain ⟨k1, k2⟩ := h
  refine ⟨k1, ?_⟩
  rcases k2 with k2 | ⟨g, cap, cur, hv, hg, hh, r⟩
  · exact .inl k2
  · refine .inr ⟨g, cap, cur, hv, hg, ?_, r⟩
    have hvb : v.ownBlock = some g := by rw [hv]; rfl
    rw [ht.block g (Array.getElem?_eq_some_iff.mp hh).1 (fun e => h1 (by rw [hvb, e])) (fun e => h3 g hvb e.symm)]
    exact hh
theorem turn_of_grown {w w' : World} {b : Nat} {v : Value} (hg : w.grownBy w' v.ownBlock) : Turn b v w w' := ⟨hg.os, hg.tape, hg.output, hg.size, fun k hk _ hv => hg.block k hk hv⟩
/-- A writer stays where a row beside it grows. -/
theorem WR.beside {w w' : World} {b base : Nat} {v u : Value} {bs : List Nat} (h : WR w b base v bs) (hg : w.grownBy w' u.ownBlock) (h2 : u.ownBlock ≠ some b) (h3 : ∀ k, v.ownBlock = some k → u.ownBlock ≠ some k) : WR w' b base v bs := by
  obtain ⟨g1, g2, g3, g4, g5⟩ := h
  refine ⟨(hg.block b (lt_of_block g1) (fun e => h2 e.symm)).trans g1, g2, Nat.le_trans g3 hg.size, ?_, g5⟩
  obtain ⟨k1, k2⟩ := g4
  refine ⟨k1, ?_⟩
  rcases k2 with k2 | ⟨g, cap, cur, hv, hg', hh, r⟩
  · exact .inl k2
  · refine .inr ⟨g, cap, cur, hv, hg', ?_, r⟩
    have hvb : v.ownBlock = some g := by rw [hv]; rfl
    rw [hg.block g (Array.getElem?_eq_some_iff.mp hh).1 (fun e => h3 g hvb e.symm)]
    exact hh
theorem OB.own_le {w : World} {base : Nat} {v : Value} {bs : List Nat} (h : OB w base v bs) : ∀ k, v.ownBlock = some k → base ≤ k ∧ k < w.heap.size := fun k hk => World.ownsRow.lt h k hk

/-- A writer at g with v, and a row u of the law's own, with the same bytes; and an empty writer at g2. -/
structure Beside (W w : World) (B g g2 : Nat) (v u : Value) (bs : List Nat) : Prop where
  below : Below W.heap.size W w
  wr : WR w g B v bs
  ob : OB w B u bs
  two : WR w g2 B (.slice none 0 0) []
  apart : ∀ k, u.ownBlock = some k → v.ownBlock ≠ some k
theorem Beside.step {W w wA w2 w3 : World} {B g g2 : Nat} {v u v2 u3 : Value} {bs cs : List Nat} (h : Beside W w B g g2 v u bs) (hg : W.heap.size ≤ g) (hg2 : W.heap.size ≤ g2) (hne : g ≠ g2)
    (hA : Below w.heap.size w wA) (hw2 : WR w2 g B v2 (bs ++ cs)) (ht : Turn g v wA w2) (hm : Moved v wA v2)
    (ho3 : OB w3 B u3 (bs ++ cs)) (hg3 : w2.grownBy w3 u.ownBlock) (hm3 : Moved u w2 u3) : Beside W w3 B g g2 v2 u3 (bs ++ cs) := by
  have hgB := h.wr.2.1
  have hg2B := h.two.2.1
  have hBs : B ≤ w.heap.size := h.wr.2.2.1
  have oA : OB wA B u bs := h.ob.kept hA
  have hle := oA.own_le
  have nA : u.ownBlock ≠ some g := fun e => by have := (hle g e).1; omega
  have n2 : u.ownBlock ≠ some g2 := fun e => by have := (hle g2 e).1; omega
  have o2 : OB w2 B u bs := oA.turned ht nA h.apart
  have tA : WR wA g2 B (.slice none 0 0) [] := h.two.kept hA
  have hvg : v.ownBlock ≠ some g2 := fun e => by have := h.wr.base_le g2 e; omega
  have t2 : WR w2 g2 B (.slice none 0 0) [] := tA.other ht (fun e => hne e.symm) (by simp [Value.ownBlock]) hvg (by simp [Value.ownBlock])
  have ap2 : ∀ k, u.ownBlock = some k → v2.ownBlock ≠ some k := by
    intro k hk e
    rcases hm with hm | hm
    · exact h.apart k hk (by rw [← hm]; exact e)
    · have := hm k e; have := (hle k hk).2; omega
  have bA : Below W.heap.size W wA := h.below.trans (hA.mono h.below.size)
  have b2 : Below W.heap.size W w2 := ht.outside bA bA.size hg (fun k hk => by have := h.wr.base_le k hk; omega)
  refine ⟨?_, hw2.beside hg3 nA (fun k hk e => ap2 k e hk), ho3, t2.beside hg3 n2 (by simp [Value.ownBlock]), ?_⟩
  · exact Turn.outside (b := g) (turn_of_grown hg3) b2 b2.size hg (fun k hk => by have := (hle k hk).1; omega)
  · intro k hk e
    rcases hm3 with hm3 | hm3
    · exact ap2 k (by rw [← hm3]; exact hk) e
    · have := hm3 k hk; have := hw2.own_lt k e; omega
end Go.Proofs.Ytkeloeppploiaaa

/- Boxes that a call makes first; what stays where a block was. -/
import Derived.Test.YthefnakbpalecaaSpA
import Derived.OwnWalk
import Derived.Lib.Hide
namespace Go.Proofs.Ythefnakbpalecaa
open Go.RowKit
theorem heap_old (w : World) (o : Obj) {k : Nat} (h : k < w.heap.size) : (w.alloc o).heap[k]? = w.heap[k]? := ((Below.refl _ w).alloc (Nat.le_refl _) o).block k h
/-- Boxes that a call makes first. -/
theorem box1 (w : World) (A : Array Value) (ta : TypeId) : Below w.heap.size w (w.alloc (.cells A ta)) ∧ (w.alloc (.cells A ta)).heap[w.heap.size]? = some (.cells A ta (0, 0)) ∧ (w.alloc (.cells A ta)).heap.size = w.heap.size + 1 :=
  ⟨(Below.refl _ _).alloc (Nat.le_refl _) _, heap_alloc_new w _, World.size_alloc ..⟩
theorem box2 (w : World) (A B : Array Value) (ta tb : TypeId) : Below w.heap.size w ((w.alloc (.cells A ta)).alloc (.cells B tb)) ∧
    ((w.alloc (.cells A ta)).alloc (.cells B tb)).heap[w.heap.size]? = some (.cells A ta (0, 0)) ∧ ((w.alloc (.cells A ta)).alloc (.cells B tb)).heap[w.heap.size + 1]? = some (.cells B tb (0, 0)) ∧ ((w.alloc (.cells A ta)).alloc (.cells B tb)).heap.size = w.heap.size + 1 + 1 := by
  obtain ⟨h1, h2, h3⟩ := box1 w A ta
  obtain ⟨k1, k2, k3⟩ := box1 (w.alloc (.cells A ta)) B tb
  rw [h3] at k2 k3
  exact ⟨h1.trans (k1.mono h1.size), (heap_old _ _ (by rw [h3]; omega)).trans h2, k2, k3⟩
theorem box3 (w : World) (A B C : Array Value) (ta tb tc : TypeId) : Below w.heap.size w (((w.alloc (.cells A ta)).alloc (.cells B tb)).alloc (.cells C tc)) ∧
    (((w.alloc (.cells A ta)).alloc (.cells B tb)).alloc (.cells C tc)).heap[w.heap.size]? = some (.cells A ta (0, 0)) ∧ (((w.alloc (.cells A ta)).alloc (.cells B tb)).alloc (.cells C tc)).heap[w.heap.size + 1]? = some (.cells B tb (0, 0)) ∧
    (((w.alloc (.cells A ta)).alloc (.cells B tb)).alloc (.cells C tc)).heap[w.heap.size + 1 + 1]? = some (.cells C tc (0, 0)) ∧ (((w.alloc (.cells A ta)).alloc (.cells B tb)).alloc (.cells C tc)).heap.size = w.heap.size + 1 + 1 + 1 := by
  obtain ⟨h1, h2, h2', h3⟩ := box2 w A B ta tb
  obtain ⟨k1, k2, k3⟩ := box1 ((w.alloc (.cells A ta)).alloc (.cells B tb)) C tc
  rw [h3] at k2 k3
  exact ⟨h1.trans (k1.mono h1.size), (heap_old _ _ (by rw [h3]; omega)).trans h2, (heap_old _ _ (by rw [h3]; omega)).trans h2', k2, k3⟩
theorem box4 (w : World) (A B C E : Array Value) (ta tb tc te : TypeId) : Below w.heap.size w ((((w.alloc (.cells A ta)).alloc (.cells B tb)).alloc (.cells C tc)).alloc (.cells E te)) ∧
    ((((w.alloc (.cells A ta)).alloc (.cells B tb)).alloc (.cells C tc)).alloc (.cells E te)).heap[w.heap.size]? = some (.cells A ta (0, 0)) ∧ ((((w.alloc (.cells A ta)).alloc (.cells B tb)).alloc (.cells C tc)).alloc (.cells E te)).heap[w.heap.size + 1]? = some (.cells B tb (0, 0)) ∧
    ((((w.alloc (.cells A ta)).alloc (.cells B tb)).alloc (.cells C tc)).alloc (.cells E te)).heap[w.heap.size + 1 + 1]? = some (.cells C tc (0, 0)) ∧ ((((w.alloc (.cells A ta)).alloc (.cells B tb)).alloc (.cells C tc)).alloc (.cells E te)).heap[w.heap.size + 1 + 1 + 1]? = some (.cells E te (0, 0)) ∧
    ((((w.alloc (.cells A ta)).alloc (.cells B tb)).alloc (.cells C tc)).alloc (.cells E te)).heap.size = w.heap.size + 1 + 1 + 1 + 1 := by
  obtain ⟨h1, h2, h2', h2'', h3⟩ := box3 w A B C ta tb tc
  obtain ⟨k1, k2, k3⟩ := box1 (((w.alloc (.cells A ta)).alloc (.cells B tb)).alloc (.cells C tc)) E te
  rw [h3] at k2 k3
  exact ⟨h1.trans (k1.mono h1.size), (heap_old _ _ (by rw [h3]; omega)).trans h2, (heap_old _ _ (by rw [h3]; omega)).trans h2', (heap_old _ _ (by rw [h3]; omega)).trans h2'', k2, k3⟩

theorem ex_lt {w : World} {T : Nat} {o : Obj} (h : w.heap[T]? = some o) : T < w.heap.size := (Array.getElem?_eq_some_iff.mp h).1
theorem ex_below {w w' : World} {T : Nat} {o : Obj} (h : w.heap[T]? = some o) (hb : Below w.heap.size w w') : w'.heap[T]? = some o := (hb.block T (ex_lt h)).trans h
end Go.Proofs.Ythefnakbpalecaa

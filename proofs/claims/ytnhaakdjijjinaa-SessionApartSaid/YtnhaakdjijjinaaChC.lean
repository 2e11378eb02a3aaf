/- Steps: a step that runs, both ways. -/
import Derived.Test.YtnhaakdjijjinaaSpA
import Derived.Test.YtnhaakdjijjinaaChA
import Derived.Test.YtnhaakdjijjinaaNbX
namespace Go.Proofs.Ytnhaakdjijjinaa
open Go.RowKit

/-- A step as it is handed on. -/
def stepV (l f b d : Int) : Value := .agg #[.int .i64 l, .int .i64 f, .int .i64 b, .int .i64 d]
/-- Four cells are written. -/
def put4 (w : World) (N : Nat) (a b c d : Value) : World := (((w.setCell ⟨N, 0, none⟩ a).setCell ⟨N, 1, none⟩ b).setCell ⟨N, 2, none⟩ c).setCell ⟨N, 3, none⟩ d
theorem cells_heap {w : World} {N : Nat} {C : Array Value} {t : TypeId} (h : w.heap[N]? = some (.cells C t (0, 0))) (o : Nat) : w.cell? ⟨N, o, none⟩ = C[o]? := by
  simp [World.cell?, h]
theorem four_at {w : World} {N : Nat} {a b c d : Value} {t : TypeId} (h : w.heap[N]? = some (.cells #[a, b, c, d] t (0, 0))) :
    w.cell? ⟨N, 0, none⟩ = some a ∧ w.cell? ⟨N, 1, none⟩ = some b ∧ w.cell? ⟨N, 2, none⟩ = some c ∧ w.cell? ⟨N, 3, none⟩ = some d ∧ w.frozen? ⟨N, 0, none⟩ = false ∧ w.frozen? ⟨N, 1, none⟩ = false ∧ w.frozen? ⟨N, 2, none⟩ = false ∧ w.frozen? ⟨N, 3, none⟩ = false := by
  simp [World.cell?, World.frozen?, h]
theorem heap_put {w : World} {N : Nat} {C : Array Value} {t : TypeId} (h : w.heap[N]? = some (.cells C t (0, 0))) (j : Nat) (u : Value) : (w.setCell ⟨N, j, none⟩ u).heap[N]? = some (.cells (C.setIfInBounds j u) t (0, 0)) := by
  have hlt : N < w.heap.size := (Array.getElem?_eq_some_iff.mp h).1
  have h' : w.heap[N] = .cells C t (0, 0) := by simpa [Array.getElem?_eq_getElem hlt] using h
  show (w.heap.modify N _)[N]? = _
  rw [Array.getElem?_eq_getElem (by simpa using hlt), Array.getElem_modify_self, h']
  rfl
theorem put4_at {w : World} {N : Nat} {x0 x1 x2 x3 : Value} {t : TypeId} (h : w.heap[N]? = some (.cells #[x0, x1, x2, x3] t (0, 0))) (a b c d : Value) :
    (put4 w N a b c d).heap[N]? = some (.cells #[a, b, c, d] t (0, 0)) ∧ (∀ k, k ≠ N → (put4 w N a b c d).heap[k]? = w.heap[k]?) ∧ (put4 w N a b c d).heap.size = w.heap.size := by
  refine ⟨?_, fun k hk => ?_, by simp [put4]⟩
  · exact heap_put (heap_put (heap_put (heap_put h 0 a) 1 b) 2 c) 3 d
  · unfold put4
    rw [Below.heap_setCell _ _ _ _ (by exact hk), Below.heap_setCell _ _ _ _ (by exact hk), Below.heap_setCell _ _ _ _ (by exact hk), Below.heap_setCell _ _ _ _ (by exact hk)]
theorem put4_cells {w : World} {N : Nat} {x0 x1 x2 x3 : Value} {t : TypeId} (h : w.heap[N]? = some (.cells #[x0, x1, x2, x3] t (0, 0))) (a b c d : Value) :
    (put4 w N a b c d).cell? ⟨N, 0, none⟩ = some a ∧ (put4 w N a b c d).cell? ⟨N, 1, none⟩ = some b ∧ (put4 w N a b c d).cell? ⟨N, 2, none⟩ = some c ∧ (put4 w N a b c d).cell? ⟨N, 3, none⟩ = some d := by
  have h1 := (put4_at h a b c d).1
  exact ⟨cells_heap h1 0, cells_heap h1 1, cells_heap h1 2, cells_heap h1 3⟩
theorem put4_other (w : World) {N b : Nat} (o : Nat) (x0 x1 x2 x3 : Value) (h : b ≠ N) : (put4 w N x0 x1 x2 x3).cell? ⟨b, o, none⟩ = w.cell? ⟨b, o, none⟩ := by
  refine World.cell?_of_block ?_
  unfold put4
  rw [Below.heap_setCell _ _ _ _ (by exact h), Below.heap_setCell _ _ _ _ (by exact h), Below.heap_setCell _ _ _ _ (by exact h), Below.heap_setCell _ _ _ _ (by exact h)]
theorem put4_same {w : World} {N : Nat} {a b c d : Value} {t : TypeId} (h : w.heap[N]? = some (.cells #[a, b, c, d] t (0, 0))) : Below w.heap.size w (put4 w N a b c d) := by
  obtain ⟨h1, h2, h3⟩ := put4_at h a b c d
  refine ⟨rfl, rfl, rfl, by omega, fun k _ => ?_⟩
  by_cases e : k = N
  · subst e; rw [h1, h]
  · exact h2 k e
theorem below_put4 {w w' : World} (h : Below w.heap.size w w') {N : Nat} (hN : w.heap.size ≤ N) (a b c d : Value) : Below w.heap.size w (put4 w' N a b c d) :=
  (((h.setCell (p := ⟨N, 0, none⟩) hN a).setCell (p := ⟨N, 1, none⟩) hN b).setCell (p := ⟨N, 2, none⟩) hN c).setCell (p := ⟨N, 3, none⟩) hN d

end Go.Proofs.Ytnhaakdjijjinaa

/- The world in which LazyChain's first loop begins. -/
import Derived.Test.YtfakgemifbgafaaLzN
namespace Go.Proofs.Ytfakgemifbgafaa
open Go.RowKit

/-- The world in which the first loop begins. -/
def begun (lb lo n c : Nat) (w : World) : World :=
  (((((w.alloc (.cells #[.slice (some ⟨lb, lo, none⟩) n c] 22)).alloc (.cells (madeCells #[.int .i64 0] n) 3)).alloc (.cells #[.slice (some ⟨w.heap.size + 1, 0, none⟩) n n] 24)).alloc
    (.cells (madeCells #[.pointer none] n) 26)).alloc (.cells #[.slice (some ⟨w.heap.size + 3, 0, none⟩) n n] 25))

theorem made_get (v : Value) (n i : Nat) (hi : i < n) : (madeCells #[v] n)[i]? = some v := by
  simp [madeCells, hi, Nat.mod_one]

theorem begun_below (lb lo n c : Nat) (w : World) : Below w.heap.size w (begun lb lo n c w) := by
  unfold begun
  exact (((((Below.refl _ _).alloc (Nat.le_refl _) _).alloc (by simp) _).alloc (by simp <;> omega) _).alloc (by simp <;> omega) _).alloc (by simp <;> omega) _

theorem begun_lc (lb lo n c : Nat) (z : Nat → Int) (w : World) (hlb : lb < w.heap.size) (hz : ∀ i, i < n → w.cell? ⟨lb, lo + i, none⟩ = some (.int .i64 (z i))) : Lc w.heap.size lb lo n c z 0 (begun lb lo n c w) := by
  have B := begun_below lb lo n c w
  have at0 : (begun lb lo n c w).cell? ⟨w.heap.size, 0, none⟩ = some (.slice (some ⟨lb, lo, none⟩) n c) := by
    unfold begun
    rw [World.cell?_alloc_past _ _ _ (by simp <;> omega), World.cell?_alloc_past _ _ _ (by simp <;> omega), World.cell?_alloc_past _ _ _ (by simp <;> omega), World.cell?_alloc_past _ _ _ (by simp), World.cell?_alloc_at _ _ _ _ rfl]
    rfl
  have at1 : ∀ i, i < n → (begun lb lo n c w).cell? ⟨w.heap.size + 1, i, none⟩ = some (.int .i64 0) := by
    intro i hi
    unfold begun
    rw [World.cell?_alloc_past _ _ _ (by simp <;> omega), World.cell?_alloc_past _ _ _ (by simp <;> omega), World.cell?_alloc_past _ _ _ (by simp <;> omega), World.cell?_alloc_at _ _ _ _ (by simp)]
    exact made_get _ _ _ hi
  have at2 : (begun lb lo n c w).cell? ⟨w.heap.size + 2, 0, none⟩ = some (.slice (some ⟨w.heap.size + 1, 0, none⟩) n n) := by
    unfold begun
    rw [World.cell?_alloc_past _ _ _ (by simp <;> omega), World.cell?_alloc_past _ _ _ (by simp <;> omega), World.cell?_alloc_at _ _ _ _ (by simp)]
    rfl
  have at3 : ∀ i, i < n → (begun lb lo n c w).cell? ⟨w.heap.size + 3, i, none⟩ = some (.pointer none) := by
    intro i hi
    unfold begun
    rw [World.cell?_alloc_past _ _ _ (by simp <;> omega), World.cell?_alloc_at _ _ _ _ (by simp)]
    exact made_get _ _ _ hi
  have at4 : (begun lb lo n c w).cell? ⟨w.heap.size + 4, 0, none⟩ = some (.slice (some ⟨w.heap.size + 3, 0, none⟩) n n) := by
    unfold begun
    rw [World.cell?_alloc_at _ _ _ _ (by simp)]
    rfl
  refine ⟨by unfold begun; simp, at0, at2, at4, fun i hi => ?_, at1, ?_, fun i hi => ⟨_, at3 i hi⟩, fun i hi => by omega, fun i hi => by omega, fun i hi => by omega⟩
  · exact (World.cell?_of_block (a := ⟨lb, lo + i, none⟩) (B.block lb hlb)).trans (hz i hi)
  · intro a ha
    unfold begun
    rw [frozen?_alloc_cells, frozen?_alloc_cells, frozen?_alloc_cells, frozen?_alloc_cells, frozen?_alloc_cells]
    exact fresh_free ha

end Go.Proofs.Ytfakgemifbgafaa

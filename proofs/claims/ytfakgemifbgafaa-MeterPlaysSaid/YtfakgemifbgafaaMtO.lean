/- How a row of calls of layer 5 reads. -/
import Derived.Test.YtfakgemifbgafaaMtN
import Derived.Deep.Slices
import Derived.ProofKit
import Derived.ChangeOld
namespace Go.Proofs.Ytfakgemifbgafaa
open Go.RowKit
theorem cellsOp : Try.prog.cellsOf 44 = 3 := by kernel_rfl
theorem cellsInt : Try.prog.cellsOf 3 = 1 := by kernel_rfl
theorem cellsU64 : Try.prog.cellsOf 42 = 1 := by kernel_rfl
set_option maxRecDepth 100000 in
theorem op_cells {H : Type} {enc : TypeId × Value → H} {w : World} {base : Nat} {sp : Nat → Bool} {held : Bool} {fuel : Nat} {cs : List Value} {x : DataW H × List MemPlace}
    (h : DataW.trod enc Try.prog w base sp held fuel 44 cs = some x) :
    ∃ k i x, cs = [.int .i64 k, .int .i64 i, .int .u64 x] ∧ (Lit.int .u64 x).wf = true := by
  obtain ⟨xs, n, _, _, hlen, hxl, hg⟩ := DataW.trod_struct Try.underlying44 h
  rw [cellsOp] at hlen
  match cs, hlen with
  | [c0, c1, c2], _ =>
    have g0 := hg 0 _ rfl
    have g1 := hg 1 _ rfl
    have g2 := hg 2 _ rfl
    simp [cellsInt, cellsU64] at g0 g1 g2
    have hx3 : xs.length = 3 := hxl
    rw [List.getElem?_eq_getElem (by omega)] at g0 g1 g2
    obtain ⟨k, e0, _, w0⟩ := DataW.trod_int Try.underlying3 g0
    obtain ⟨i, e1, _, w1⟩ := DataW.trod_int Try.underlying3 g1
    obtain ⟨x, e2, _, w2⟩ := DataW.trod_int Try.underlying42 g2
    simp only [List.cons.injEq, and_true] at e0 e1 e2
    subst e0 e1 e2
    exact ⟨k, i, x, rfl, w2⟩
/-- What the walk is told of a row of calls. -/
def Ops (w : World) (a : Option Addr) (n : Nat) (K I X : Nat → Int) : Prop := n ≤ maxLen ∧
  (0 < n → ∃ ab ao, a = some ⟨ab, ao, none⟩ ∧ ab < w.heap.size ∧ ∀ k, k < n → w.cell? ⟨ab, ao + k * 3, none⟩ = some (.int .i64 (K k)) ∧ w.cell? ⟨ab, ao + k * 3 + 1, none⟩ = some (.int .i64 (I k)) ∧ w.cell? ⟨ab, ao + k * 3 + 2, none⟩ = some (.int .u64 (X k)) ∧ 0 ≤ X k)
set_option maxRecDepth 100000 in
theorem ops_in {H : Type} {enc : TypeId × Value → H} {w : World} {base : Nat} {sp : Nat → Bool} {held : Bool} {fuel : Nat} {a : Option Addr} {n cap : Nat} {x : DataW H × List MemPlace}
    (h : DataW.trod enc Try.prog w base sp held fuel 38 (Value.slice a n cap).cells.toList = some x) : ∃ K I X, Ops w a n K I X := by
  rcases Deep.open_slice Try.underlying38 h with ⟨hcs, _⟩ | ⟨x, l, c, m, nn, D, Pl, hcs, _, hl, hm, hmm, _, hi⟩
  · simp [Value.cells] at hcs
    obtain ⟨rfl, rfl, rfl⟩ := hcs
    exact ⟨fun _ => 0, fun _ => 0, fun _ => 0, by simp, fun h => by omega⟩
  · simp [Value.cells] at hcs
    obtain ⟨rfl, rfl, rfl⟩ := hcs
    have hlm : n ≤ m := by rw [hmm]; split <;> omega
    have hex : 0 < n → x = ⟨x.block, x.off, none⟩ ∧ x.block < w.heap.size := by
      intro h0
      obtain ⟨cs', hc, ht⟩ := hi 0 (by omega)
      obtain ⟨k, i, y, rfl, _⟩ := op_cells ht
      rw [cellsOp] at hc
      obtain ⟨_, hcl, hat⟩ := World.cells?_some hc
      have e00 := cell_spot ((hat 0 (by omega)).trans (List.getElem?_cons_zero))
      have e0 := e00.1
      have e1 := e00.2
      rw [Deep.add_add] at e0 e1
      refine ⟨?_, by simpa [Addr.add] using e1⟩
      cases x; simp [Addr.add] at e0; simp [e0]
    have key : ∀ i, i < n → ∃ y : Int × Int × Int, 0 ≤ y.2.2 ∧ w.cell? ⟨x.block, x.off + i * 3, none⟩ = some (.int .i64 y.1) ∧ w.cell? ⟨x.block, x.off + i * 3 + 1, none⟩ = some (.int .i64 y.2.1) ∧ w.cell? ⟨x.block, x.off + i * 3 + 2, none⟩ = some (.int .u64 y.2.2) := by
      intro i hil
      obtain ⟨cs', hc, ht⟩ := hi i (by omega)
      obtain ⟨k, j, y, rfl, wy⟩ := op_cells ht
      rw [cellsOp] at hc
      obtain ⟨_, hcl, hat⟩ := World.cells?_some hc
      have by' := bounds_u64 wy
      have ex := (hex (by omega)).1
      refine ⟨⟨k, j, y⟩, (show (0 : Int) ≤ y by omega), ?_, ?_, ?_⟩
      · have h1 := hat 0 (by omega)
        rw [Deep.add_add, ex, add_at, ← Nat.add_assoc] at h1
        exact h1
      · have h1 := hat 1 (by omega)
        rw [Deep.add_add, ex, add_at, ← Nat.add_assoc] at h1
        exact h1
      · have h1 := hat 2 (by omega)
        rw [Deep.add_add, ex, add_at, ← Nat.add_assoc] at h1
        exact h1
    obtain ⟨f, hf⟩ := Deep.choose_lt key
    refine ⟨fun i => (f i).1, fun i => (f i).2.1, fun i => (f i).2.2, by unfold maxLen at *; omega, fun h0 => ⟨x.block, x.off, by rw [← (hex h0).1], (hex h0).2, fun k hk => ?_⟩⟩
    have := hf k hk
    exact ⟨this.2.1, this.2.2.1, this.2.2.2, this.1⟩
end Go.Proofs.Ytfakgemifbgafaa

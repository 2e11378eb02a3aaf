/- How a row of spans of the law reads. -/
import Derived.Test.YtfeegohjgecjgaaSpB
import Derived.Deep.Slices
import Derived.ProofKit
import Derived.ChangeOld
namespace Go.Proofs.Ytfeegohjgecjgaa
open Go.RowKit
theorem cellsSpan : Try.prog.cellsOf 30 = 2 := by kernel_rfl
theorem cellsI64 : Try.prog.cellsOf 2 = 1 := by kernel_rfl
set_option maxRecDepth 100000 in
theorem span_cells {H : Type} {enc : TypeId × Value → H} {w : World} {base : Nat} {sp : Nat → Bool} {held : Bool} {fuel : Nat} {cs : List Value} {x : DataW H × List MemPlace}
    (h : DataW.trod enc Try.prog w base sp held fuel 30 cs = some x) :
    ∃ f t, cs = [.int .i64 f, .int .i64 t] ∧ (Lit.int .i64 f).wf = true ∧ (Lit.int .i64 t).wf = true := by
  obtain ⟨xs, n, _, _, hlen, hxl, hg⟩ := DataW.trod_struct Try.underlying30 h
  rw [cellsSpan] at hlen
  match cs, hlen with
  | [c0, c1], _ =>
    have g0 := hg 0 _ rfl
    have g1 := hg 1 _ rfl
    simp [cellsI64] at g0 g1
    have hx2 : xs.length = 2 := hxl
    rw [List.getElem?_eq_getElem (by omega)] at g0 g1
    obtain ⟨f, e0, _, w0⟩ := DataW.trod_int Try.underlying2 g0
    obtain ⟨t, e1, _, w1⟩ := DataW.trod_int Try.underlying2 g1
    simp only [List.cons.injEq, and_true] at e0 e1
    subst e0 e1
    exact ⟨f, t, rfl, w0, w1⟩
set_option maxRecDepth 100000 in
theorem spans_in {H : Type} {enc : TypeId × Value → H} {w : World} {base : Nat} {sp : Nat → Bool} {held : Bool} {fuel : Nat} {a : Option Addr} {n cap : Nat} {x : DataW H × List MemPlace}
    (h : DataW.trod enc Try.prog w base sp held fuel 22 (Value.slice a n cap).cells.toList = some x) : ∃ F T, Sps w a n F T := by
  rcases Deep.open_slice Try.underlying22 h with ⟨hcs, _⟩ | ⟨x, l, c, m, nn, D, Pl, hcs, _, hl, hm, hmm, _, hi⟩
  · simp [Value.cells] at hcs
    obtain ⟨rfl, rfl, rfl⟩ := hcs
    exact ⟨fun _ => 0, fun _ => 0, by simp, fun h => by omega⟩
  · simp [Value.cells] at hcs
    obtain ⟨rfl, rfl, rfl⟩ := hcs
    have hlm : n ≤ m := by rw [hmm]; split <;> omega
    have hex : 0 < n → x = ⟨x.block, x.off, none⟩ ∧ x.block < w.heap.size := by
      intro h0
      obtain ⟨cs', hc, ht⟩ := hi 0 (by omega)
      obtain ⟨_, _, rfl, _⟩ := span_cells ht
      rw [cellsSpan] at hc
      obtain ⟨_, hcl, hat⟩ := World.cells?_some hc
      have e00 := cell_spot ((hat 0 (by omega)).trans (List.getElem?_cons_zero))
      have e0 := e00.1
      have e1 := e00.2
      rw [Deep.add_add] at e0 e1
      refine ⟨?_, by simpa [Addr.add] using e1⟩
      cases x; simp [Addr.add] at e0; simp [e0]
    have key : ∀ i, i < n → ∃ y : Int × Int, w.cell? ⟨x.block, x.off + i * 2, none⟩ = some (.int .i64 y.1) ∧ w.cell? ⟨x.block, x.off + i * 2 + 1, none⟩ = some (.int .i64 y.2) ∧
        (-9223372036854775808 ≤ y.1 ∧ y.1 ≤ 9223372036854775807 ∧ -9223372036854775808 ≤ y.2 ∧ y.2 ≤ 9223372036854775807) := by
      intro i hil
      obtain ⟨cs', hc, ht⟩ := hi i (by omega)
      obtain ⟨f, t, rfl, wf, wt⟩ := span_cells ht
      rw [cellsSpan] at hc
      obtain ⟨_, hcl, hat⟩ := World.cells?_some hc
      have bf := bounds_i64 wf
      have bt := bounds_i64 wt
      have ex := (hex (by omega)).1
      refine ⟨⟨f, t⟩, ?_, ?_, ?_⟩
      · have h1 := hat 0 (by omega)
        rw [Deep.add_add, ex, add_at, ← Nat.add_assoc] at h1
        exact h1
      · have h1 := hat 1 (by omega)
        rw [Deep.add_add, ex, add_at, ← Nat.add_assoc] at h1
        exact h1
      · show -9223372036854775808 ≤ f ∧ f ≤ 9223372036854775807 ∧ -9223372036854775808 ≤ t ∧ t ≤ 9223372036854775807
        omega
    obtain ⟨f, hf⟩ := Deep.choose_lt key
    exact ⟨fun i => (f i).1, fun i => (f i).2, by unfold maxLen at *; omega, fun h0 => ⟨x.block, x.off, by rw [← (hex h0).1], (hex h0).2, fun k hk => hf k hk⟩⟩
end Go.Proofs.Ytfeegohjgecjgaa

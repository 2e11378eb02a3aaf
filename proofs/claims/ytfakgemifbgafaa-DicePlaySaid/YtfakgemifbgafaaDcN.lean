/- How a row of requests of layer 6 reads. -/
import Derived.Test.YtfakgemifbgafaaDcM
import Derived.Deep.Slices
import Derived.ProofKit
import Derived.ChangeOld
namespace Go.Proofs.Ytfakgemifbgafaa
open Go.RowKit
theorem cellsAsk : Try.prog.cellsOf 76 = 6 := by kernel_rfl
theorem cellsInt : Try.prog.cellsOf 3 = 1 := by kernel_rfl
theorem cellsU64 : Try.prog.cellsOf 42 = 1 := by kernel_rfl
theorem cellsI64 : Try.prog.cellsOf 2 = 1 := by kernel_rfl
set_option maxRecDepth 100000 in
theorem ask_cells {H : Type} {enc : TypeId × Value → H} {w : World} {base : Nat} {sp : Nat → Bool} {held : Bool} {fuel : Nat} {cs : List Value} {x : DataW H × List MemPlace}
    (h : DataW.trod enc Try.prog w base sp held fuel 76 cs = some x) :
    ∃ k n a b lo hi, cs = [.int .i64 k, .int .i64 n, .int .u64 a, .int .u64 b, .int .i64 lo, .int .i64 hi] ∧ (Lit.int .u64 a).wf = true ∧ (Lit.int .u64 b).wf = true ∧ (Lit.int .i64 lo).wf = true ∧ (Lit.int .i64 hi).wf = true := by
  obtain ⟨xs, n, _, _, hlen, hxl, hg⟩ := DataW.trod_struct Try.underlying76 h
  rw [cellsAsk] at hlen
  match cs, hlen with
  | [c0, c1, c2, c3, c4, c5], _ =>
    have g0 := hg 0 _ rfl
    have g1 := hg 1 _ rfl
    have g2 := hg 2 _ rfl
    have g3 := hg 3 _ rfl
    have g4 := hg 4 _ rfl
    have g5 := hg 5 _ rfl
    simp [cellsInt, cellsU64, cellsI64] at g0 g1 g2 g3 g4 g5
    have hx6 : xs.length = 6 := hxl
    rw [List.getElem?_eq_getElem (by omega)] at g0 g1 g2 g3 g4 g5
    obtain ⟨k, e0, _, w0⟩ := DataW.trod_int Try.underlying3 g0
    obtain ⟨i, e1, _, w1⟩ := DataW.trod_int Try.underlying3 g1
    obtain ⟨a, e2, _, w2⟩ := DataW.trod_int Try.underlying42 g2
    obtain ⟨b, e3, _, w3⟩ := DataW.trod_int Try.underlying42 g3
    obtain ⟨l, e4, _, w4⟩ := DataW.trod_int Try.underlying2 g4
    obtain ⟨u, e5, _, w5⟩ := DataW.trod_int Try.underlying2 g5
    simp only [List.cons.injEq, and_true] at e0 e1 e2 e3 e4 e5
    subst e0 e1 e2 e3 e4 e5
    exact ⟨k, i, a, b, l, u, rfl, w2, w3, w4, w5⟩
/-- What the walk is told of a row of requests. -/
def Asks (w : World) (a' : Option Addr) (len' : Nat) (K M A B Lo Hi : Nat → Int) : Prop := len' ≤ maxLen ∧
  (0 < len' → ∃ ab ao, a' = some ⟨ab, ao, none⟩ ∧ ab < w.heap.size ∧ ∀ k, k < len' → w.cell? ⟨ab, ao + k * 6, none⟩ = some (.int .i64 (K k)) ∧ w.cell? ⟨ab, ao + k * 6 + 1, none⟩ = some (.int .i64 (M k)) ∧ w.cell? ⟨ab, ao + k * 6 + 2, none⟩ = some (.int .u64 (A k)) ∧
      w.cell? ⟨ab, ao + k * 6 + 3, none⟩ = some (.int .u64 (B k)) ∧ w.cell? ⟨ab, ao + k * 6 + 4, none⟩ = some (.int .i64 (Lo k)) ∧ w.cell? ⟨ab, ao + k * 6 + 5, none⟩ = some (.int .i64 (Hi k)) ∧
      (0 ≤ A k ∧ A k < 18446744073709551616 ∧ 0 ≤ B k ∧ B k < 18446744073709551616 ∧ -9223372036854775808 ≤ Lo k ∧ Lo k ≤ 9223372036854775807 ∧ -9223372036854775808 ≤ Hi k ∧ Hi k ≤ 9223372036854775807))
set_option maxRecDepth 100000 in
theorem asks_in {H : Type} {enc : TypeId × Value → H} {w : World} {base : Nat} {sp : Nat → Bool} {held : Bool} {fuel : Nat} {a : Option Addr} {n cap : Nat} {x : DataW H × List MemPlace}
    (h : DataW.trod enc Try.prog w base sp held fuel 69 (Value.slice a n cap).cells.toList = some x) : ∃ K M A B Lo Hi, Asks w a n K M A B Lo Hi := by
  rcases Deep.open_slice Try.underlying69 h with ⟨hcs, _⟩ | ⟨x, l, c, m, nn, D, Pl, hcs, _, hl, hm, hmm, _, hi⟩
  · simp [Value.cells] at hcs
    obtain ⟨rfl, rfl, rfl⟩ := hcs
    exact ⟨fun _ => 0, fun _ => 0, fun _ => 0, fun _ => 0, fun _ => 0, fun _ => 0, by simp, fun h => by omega⟩
  · simp [Value.cells] at hcs
    obtain ⟨rfl, rfl, rfl⟩ := hcs
    have hlm : n ≤ m := by rw [hmm]; split <;> omega
    have hex : 0 < n → x = ⟨x.block, x.off, none⟩ ∧ x.block < w.heap.size := by
      intro h0
      obtain ⟨cs', hc, ht⟩ := hi 0 (by omega)
      obtain ⟨_, _, _, _, _, _, rfl, _⟩ := ask_cells ht
      rw [cellsAsk] at hc
      obtain ⟨_, hcl, hat⟩ := World.cells?_some hc
      have e00 := cell_spot ((hat 0 (by omega)).trans (List.getElem?_cons_zero))
      have e0 := e00.1
      have e1 := e00.2
      rw [Deep.add_add] at e0 e1
      refine ⟨?_, by simpa [Addr.add] using e1⟩
      cases x; simp [Addr.add] at e0; simp [e0]
    have key : ∀ i, i < n → ∃ y : Int × Int × Int × Int × Int × Int, w.cell? ⟨x.block, x.off + i * 6, none⟩ = some (.int .i64 y.1) ∧ w.cell? ⟨x.block, x.off + i * 6 + 1, none⟩ = some (.int .i64 y.2.1) ∧ w.cell? ⟨x.block, x.off + i * 6 + 2, none⟩ = some (.int .u64 y.2.2.1) ∧
        w.cell? ⟨x.block, x.off + i * 6 + 3, none⟩ = some (.int .u64 y.2.2.2.1) ∧ w.cell? ⟨x.block, x.off + i * 6 + 4, none⟩ = some (.int .i64 y.2.2.2.2.1) ∧ w.cell? ⟨x.block, x.off + i * 6 + 5, none⟩ = some (.int .i64 y.2.2.2.2.2) ∧
        (0 ≤ y.2.2.1 ∧ y.2.2.1 < 18446744073709551616 ∧ 0 ≤ y.2.2.2.1 ∧ y.2.2.2.1 < 18446744073709551616 ∧ -9223372036854775808 ≤ y.2.2.2.2.1 ∧ y.2.2.2.2.1 ≤ 9223372036854775807 ∧ -9223372036854775808 ≤ y.2.2.2.2.2 ∧ y.2.2.2.2.2 ≤ 9223372036854775807) := by
      intro i hil
      obtain ⟨cs', hc, ht⟩ := hi i (by omega)
      obtain ⟨k, j, a, b, l, u, rfl, wa, wb, wl, wu⟩ := ask_cells ht
      rw [cellsAsk] at hc
      obtain ⟨_, hcl, hat⟩ := World.cells?_some hc
      have ba := bounds_u64 wa
      have bb := bounds_u64 wb
      have bl := bounds_i64 wl
      have bu := bounds_i64 wu
      have ex := (hex (by omega)).1
      refine ⟨⟨k, j, a, b, l, u⟩, ?_, ?_, ?_, ?_, ?_, ?_, ?_⟩
      · have h1 := hat 0 (by omega)
        rw [Deep.add_add, ex, add_at, ← Nat.add_assoc] at h1
        exact h1
      · have h1 := hat 1 (by omega)
        rw [Deep.add_add, ex, add_at, ← Nat.add_assoc] at h1
        exact h1
      · have h1 := hat 2 (by omega)
        rw [Deep.add_add, ex, add_at, ← Nat.add_assoc] at h1
        exact h1
      · have h1 := hat 3 (by omega)
        rw [Deep.add_add, ex, add_at, ← Nat.add_assoc] at h1
        exact h1
      · have h1 := hat 4 (by omega)
        rw [Deep.add_add, ex, add_at, ← Nat.add_assoc] at h1
        exact h1
      · have h1 := hat 5 (by omega)
        rw [Deep.add_add, ex, add_at, ← Nat.add_assoc] at h1
        exact h1
      · show 0 ≤ a ∧ a < 18446744073709551616 ∧ 0 ≤ b ∧ b < 18446744073709551616 ∧ -9223372036854775808 ≤ l ∧ l ≤ 9223372036854775807 ∧ -9223372036854775808 ≤ u ∧ u ≤ 9223372036854775807
        omega
    obtain ⟨f, hf⟩ := Deep.choose_lt key
    exact ⟨fun i => (f i).1, fun i => (f i).2.1, fun i => (f i).2.2.1, fun i => (f i).2.2.2.1, fun i => (f i).2.2.2.2.1, fun i => (f i).2.2.2.2.2, by unfold maxLen at *; omega, fun h0 => ⟨x.block, x.off, by rw [← (hex h0).1], (hex h0).2, fun k hk => hf k hk⟩⟩
end Go.Proofs.Ytfakgemifbgafaa

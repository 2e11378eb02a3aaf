/- A row of asks, and how it reads. -/
import Derived.Test.YtkeloeppploiaaaQrO
import Derived.Test.YtkeloeppploiaaaQuR
namespace Go.Proofs.Ytkeloeppploiaaa
open Go.RowKit
/-- Something that is asked for. -/
structure Ak where
  kind : Int
  n : Int
  most : Nat
instance : Inhabited Ak := ⟨⟨0, 0, 0⟩⟩
def Ak.cells (x : Ak) : List Value := [.int .i64 x.kind, .int .i64 x.n, .int .u64 ((x.most : Nat) : Int)]
/-- A row of asks that can be read. -/
def Asks (w : World) (a : Option Addr) (n cap : Nat) (xs : List Ak) : Prop :=
  xs.length = n ∧ n ≤ maxLen ∧ (∀ x ∈ xs, x.n ≤ 9223372036854775807) ∧ ∀ i x, xs[i]? = some x → ∃ b off, a = some ⟨b, off, none⟩ ∧ ∀ j c, x.cells[j]? = some c → w.cell? ⟨b, off + i * 3 + j, none⟩ = some c
theorem Asks.kept {w w' : World} {a : Option Addr} {n cap : Nat} {xs : List Ak} (h : Asks w a n cap xs) (hb : Below w.heap.size w w') : Asks w' a n cap xs := by
  refine ⟨h.1, h.2.1, h.2.2.1, fun i x hx => ?_⟩
  obtain ⟨b, off, ha, hc⟩ := h.2.2.2 i x hx
  refine ⟨b, off, ha, fun j c hj => ?_⟩
  have h1 := hc j c hj
  exact (hb.cell (p := ⟨b, off + i * 3 + j, none⟩) (cell_spot h1).2).trans h1
theorem cells49 : Try.prog.cellsOf 49 = 3 := by kernel_rfl
theorem ask_cells {H : Type} {enc : TypeId × Value → H} {w : World} {base : Nat} {sp : Nat → Bool} {held : Bool} {fuel : Nat} {cs : List Value} {x : DataW H × List MemPlace}
    (h : DataW.trod enc Try.prog w base sp held fuel 49 cs = some x) :
    ∃ kind nn most, cs = [.int .i64 kind, .int .i64 nn, .int .u64 most] ∧ (Lit.int .i64 kind).wf = true ∧ (Lit.int .i64 nn).wf = true ∧ (Lit.int .u64 most).wf = true := by
  obtain ⟨xs, n, _, _, hlen, hxl, hg⟩ := DataW.trod_struct Try.underlying49 h
  rw [cells49] at hlen
  match cs, hlen with
  | [c0, c1, c2], _ =>
    have g0 := hg 0 _ rfl
    have g1 := hg 1 _ rfl
    have g2 := hg 2 _ rfl
    simp [cells3, cells30] at g0 g1 g2
    have hx3 : xs.length = 3 := hxl
    rw [List.getElem?_eq_getElem (by omega)] at g0 g1 g2
    obtain ⟨kind, e0, _, w0⟩ := DataW.trod_int Try.underlying3 g0
    obtain ⟨nn, e1, _, w1⟩ := DataW.trod_int Try.underlying3 g1
    obtain ⟨most, e2, _, w2⟩ := DataW.trod_int Try.underlying30 g2
    simp only [List.cons.injEq, and_true] at e0 e1 e2
    subst e0 e1 e2
    exact ⟨kind, nn, most, rfl, w0, w1, w2⟩
theorem asks_in {H : Type} {enc : TypeId × Value → H} {w : World} {base : Nat} {sp : Nat → Bool} {held : Bool} {fuel : Nat} {a : Option Addr} {n cap : Nat} {x : DataW H × List MemPlace}
    (h : DataW.trod enc Try.prog w base sp held fuel 42 (Value.slice a n cap).cells.toList = some x) : ∃ xs, Asks w a n cap xs := by
  rcases Deep.open_slice Try.underlying42 h with ⟨hcs, _⟩ | ⟨x, l, c, m, nn, D, Pl, hcs, _, hl, hm, hmm, _, hi⟩
  · simp [Value.cells] at hcs
    obtain ⟨rfl, rfl, rfl⟩ := hcs
    exact ⟨[], rfl, by simp, by simp, fun i x hx => by simp at hx⟩
  · simp [Value.cells] at hcs
    obtain ⟨rfl, rfl, rfl⟩ := hcs
    have hlm : n ≤ m := by rw [hmm]; split <;> omega
    have hex : 0 < n → x = ⟨x.block, x.off, none⟩ := by
      intro h0
      obtain ⟨cs', hc, ht⟩ := hi 0 (by omega)
      obtain ⟨kind, nn, most, rfl, _⟩ := ask_cells ht
      rw [cells49] at hc
      obtain ⟨_, hcl, hat⟩ := World.cells?_some hc
      have e0 := (cell_spot ((hat 0 (by omega)).trans (List.getElem?_cons_zero))).1
      rw [Deep.add_add] at e0
      cases x; simp [Addr.add] at e0; simp [e0]
    have key : ∀ i, i < n → ∃ y : Ak, y.n ≤ 9223372036854775807 ∧ ∃ b off, some x = some ⟨b, off, none⟩ ∧ ∀ j c, y.cells[j]? = some c → w.cell? ⟨b, off + i * 3 + j, none⟩ = some c := by
      intro i hil
      obtain ⟨cs', hc, ht⟩ := hi i (by omega)
      obtain ⟨kind, nn, most, rfl, wk, wn, wm⟩ := ask_cells ht
      rw [cells49] at hc
      obtain ⟨_, hcl, hat⟩ := World.cells?_some hc
      have bn := bounds_i64 wn
      have bm := bounds_u64 wm
      have e : ((most.toNat : Nat) : Int) = most := Int.toNat_of_nonneg bm.1
      have ex := hex (by omega)
      refine ⟨⟨kind, nn, most.toNat⟩, bn.2, x.block, x.off, by rw [← ex], fun j c hj => ?_⟩
      have hjl : j < 3 := by have := (List.getElem?_eq_some_iff.1 hj).1; simpa [Ak.cells] using this
      have h1 := hat j (by omega)
      rw [Deep.add_add, ex, add_at, ← Nat.add_assoc] at h1
      rw [h1]
      unfold Ak.cells at hj
      simp only [e] at hj
      exact hj
    obtain ⟨f, hf⟩ := Deep.choose_lt key
    refine ⟨(List.range n).map f, by simp, by unfold maxLen at *; omega, fun y hy => ?_, fun i y hy => ?_⟩
    · obtain ⟨i, hi, rfl⟩ := List.mem_map.1 hy
      exact (hf i (List.mem_range.1 hi)).1
    · have hin : i < n := by have := (List.getElem?_eq_some_iff.1 hy).1; simpa using this
      rw [List.getElem?_map, List.getElem?_range hin] at hy
      simp only [Option.map_some, Option.some.injEq] at hy
      subst hy
      exact (hf i hin).2
end Go.Proofs.Ytkeloeppploiaaa

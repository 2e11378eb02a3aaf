/- How a row of things that came in reads. -/
import Derived.Test.YtfclmbneimbmnaaDoorSrB
import Derived.Deep.Slices
import Derived.ProofKit
import Derived.ChangeOld
namespace Go.Proofs.YtfclmbneimbmnaaDoor
open Go.RowKit
theorem cellsThing : Tryd.prog.cellsOf 27 = 3 := by kernel_rfl
theorem cellsI64 : Tryd.prog.cellsOf 2 = 1 := by kernel_rfl
theorem cellsU64 : Tryd.prog.cellsOf 25 = 1 := by kernel_rfl

theorem add_at3 (b off i : Nat) : (⟨b, off, none⟩ : Addr).add i = ⟨b, off + i, none⟩ := by
  unfold Addr.add; split
  · rename_i h; subst h; rfl
  · rfl
theorem cell_spot3 {w : World} {x : Addr} {u : Value} (h : w.cell? x = some u) : x = ⟨x.block, x.off, none⟩ := by
  have h1 := World.cell?_spot h
  cases x; simp_all

/-- What a thing's numbers may be. -/
def ThOk (t : Th) : Prop := (Lit.int .u64 t.1).wf = true ∧ (Lit.int .u64 t.2.1).wf = true ∧ (Lit.int .i64 t.2.2).wf = true

set_option maxRecDepth 100000 in
theorem thing_cells {H : Type} {enc : TypeId × Value → H} {w : World} {base : Nat} {sp : Nat → Bool} {held : Bool} {fuel : Nat} {cs : List Value} {x : DataW H × List MemPlace}
    (h : DataW.trod enc Tryd.prog w base sp held fuel 27 cs = some x) :
    ∃ t : Th, cs = [.int .u64 t.1, .int .u64 t.2.1, .int .i64 t.2.2] ∧ ThOk t := by
  obtain ⟨xs, n, _, _, hlen, hxl, hg⟩ := DataW.trod_struct Tryd.underlying27 h
  rw [cellsThing] at hlen
  match cs, hlen with
  | [c0, c1, c2], _ =>
    have g0 := hg 0 _ rfl
    have g1 := hg 1 _ rfl
    have g2 := hg 2 _ rfl
    simp [cellsI64, cellsU64] at g0 g1 g2
    have hx2 : xs.length = 3 := hxl
    rw [List.getElem?_eq_getElem (by omega)] at g0 g1 g2
    obtain ⟨f, e0, _, w0⟩ := DataW.trod_int Tryd.underlying25 g0
    obtain ⟨t, e1, _, w1⟩ := DataW.trod_int Tryd.underlying25 g1
    obtain ⟨u, e2, _, w2⟩ := DataW.trod_int Tryd.underlying2 g2
    simp only [List.cons.injEq, and_true] at e0 e1 e2
    subst e0 e1 e2
    exact ⟨(f, t, u), rfl, w0, w1, w2⟩
set_option maxRecDepth 100000 in
theorem things_in {H : Type} {enc : TypeId × Value → H} {w : World} {base : Nat} {sp : Nat → Bool} {held : Bool} {fuel : Nat} {a : Option Addr} {n cap : Nat} {x : DataW H × List MemPlace}
    (h : DataW.trod enc Tryd.prog w base sp held fuel 22 (Value.slice a n cap).cells.toList = some x) :
    ∃ l : List Th, l.length = n ∧ TS w a l ∧ (a = none → l = [] ∧ cap = 0) ∧ n ≤ maxLen ∧ ∀ t ∈ l, ThOk t := by
  rcases Deep.open_slice Tryd.underlying22 h with ⟨hcs, _⟩ | ⟨x, l, c, m, nn, D, Pl, hcs, _, hl, hm, hmm, _, hi⟩
  · simp [Value.cells] at hcs
    obtain ⟨rfl, rfl, rfl⟩ := hcs
    exact ⟨[], rfl, fun k hk => by simp at hk, fun _ => ⟨rfl, rfl⟩, by unfold maxLen; omega, by simp⟩
  · simp [Value.cells] at hcs
    obtain ⟨rfl, rfl, rfl⟩ := hcs
    have hlm : n ≤ m := by rw [hmm]; split <;> omega
    have hex : 0 < n → x = ⟨x.block, x.off, none⟩ := by
      intro h0
      obtain ⟨cs', hc, ht⟩ := hi 0 (by omega)
      obtain ⟨t, rfl, _⟩ := thing_cells ht
      rw [cellsThing] at hc
      obtain ⟨_, hcl, hat⟩ := World.cells?_some hc
      have e0 := cell_spot3 ((hat 0 (by omega)).trans (List.getElem?_cons_zero))
      rw [Deep.add_add] at e0
      cases x; simp [Addr.add] at e0; simp [e0]
    have key : ∀ i, i < n → ∃ t : Th, (x = ⟨x.block, x.off, none⟩ ∧ w.cell? ⟨x.block, x.off + i * 3, none⟩ = some (.int .u64 t.1) ∧ w.cell? ⟨x.block, x.off + i * 3 + 1, none⟩ = some (.int .u64 t.2.1) ∧ w.cell? ⟨x.block, x.off + i * 3 + 2, none⟩ = some (.int .i64 t.2.2)) ∧ ThOk t := by
      intro i hil
      obtain ⟨cs', hc, ht⟩ := hi i (by omega)
      obtain ⟨t, rfl, ok⟩ := thing_cells ht
      rw [cellsThing] at hc
      obtain ⟨_, hcl, hat⟩ := World.cells?_some hc
      have ex := hex (by omega)
      refine ⟨t, ⟨ex, ?_, ?_, ?_⟩, ok⟩
      · have h1 := hat 0 (by omega)
        rw [Deep.add_add, ex, add_at3, ← Nat.add_assoc] at h1
        exact h1
      · have h1 := hat 1 (by omega)
        rw [Deep.add_add, ex, add_at3, ← Nat.add_assoc] at h1
        exact h1
      · have h1 := hat 2 (by omega)
        rw [Deep.add_add, ex, add_at3, ← Nat.add_assoc] at h1
        exact h1
    obtain ⟨f, hf⟩ := Deep.choose_lt key
    refine ⟨(List.range n).map f, by simp, fun k hk => ?_, fun e => (by cases e), by unfold maxLen at *; omega, fun t ht => ?_⟩
    · have hk' : k < n := by simpa using hk
      obtain ⟨⟨ex, c0, c1, c2⟩, _⟩ := hf k hk'
      refine ⟨x.block, x.off, by rw [← ex], ?_⟩
      simp only [List.getElem_map, List.getElem_range]
      exact ⟨c0, c1, c2⟩
    · obtain ⟨k, hk, rfl⟩ := List.mem_map.1 ht
      exact (hf k (by simpa using hk)).2
end Go.Proofs.YtfclmbneimbmnaaDoor

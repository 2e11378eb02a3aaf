/- How rows of tears and of states read that came in. -/
import Derived.Test.YthefnakbpalecaaVyH
import Derived.Test.YthefnakbpalecaaMaU
import Derived.Deep.Slices
import Derived.ProofKit
import Derived.ChangeOld
namespace Go.Proofs.Ythefnakbpalecaa
open Go.RowKit Go.Maps
theorem bnd_u16 {n : Int} (h : (Lit.int .u16 n).wf = true) : 0 ≤ n ∧ n < 65536 := by
  simp [Lit.wf, IntKind.min, IntKind.max, IntKind.signed, IntKind.bits] at h
  omega
theorem bnd_u32 {n : Int} (h : (Lit.int .u32 n).wf = true) : 0 ≤ n ∧ n < 4294967296 := by
  simp [Lit.wf, IntKind.min, IntKind.max, IntKind.signed, IntKind.bits] at h
  omega
theorem cells_tear : Try.prog.cellsOf 138 = 2 ∧ Try.prog.cellsOf 41 = 1 ∧ Try.prog.cellsOf 42 = 1 := ⟨by kernel_rfl, by kernel_rfl, by kernel_rfl⟩
set_option maxRecDepth 100000 in
theorem tear_cells {H : Type} {enc : TypeId × Value → H} {w : World} {base : Nat} {sp : Nat → Bool} {held : Bool} {fuel : Nat} {cs : List Value} {x : DataW H × List MemPlace}
    (h : DataW.trod enc Try.prog w base sp held fuel 138 cs = some x) :
    ∃ f t : Nat, cs = [.int .u16 (f : Int), .int .u32 (t : Int)] ∧ f < 65536 ∧ t < 4294967296 := by
  obtain ⟨xs, n, _, _, hlen, hxl, hg⟩ := DataW.trod_struct Try.underlying138 h
  obtain ⟨z1, z2, z3⟩ := cells_tear
  rw [z1] at hlen
  match cs, hlen with
  | [c0, c1], _ =>
    have g0 := hg 0 _ rfl
    have g1 := hg 1 _ rfl
    simp [z2, z3] at g0 g1
    have hx2 : xs.length = 2 := hxl
    rw [List.getElem?_eq_getElem (by omega)] at g0 g1
    obtain ⟨f, e0, _, w0⟩ := DataW.trod_int Try.underlying41 g0
    obtain ⟨t, e1, _, w1⟩ := DataW.trod_int Try.underlying42 g1
    simp only [List.cons.injEq, and_true] at e0 e1
    subst e0 e1
    have b0 := bnd_u16 w0
    have b1 := bnd_u32 w1
    exact ⟨f.toNat, t.toNat, by rw [Int.toNat_of_nonneg b0.1, Int.toNat_of_nonneg b1.1], by omega, by omega⟩
set_option maxRecDepth 100000 in
theorem tears_in {H : Type} {enc : TypeId × Value → H} {w : World} {base : Nat} {sp : Nat → Bool} {held : Bool} {fuel : Nat} {cs : List Value} {x : DataW H × List MemPlace}
    (h : DataW.trod enc Try.prog w base sp held fuel 55 cs = some x) : ∃ (a : Option Addr) (c : Nat) (ts : List (Nat × Nat)), cs = [.slice a ts.length c] ∧ TRow (fun k => w.heap.size ≤ k) w a ts ∧ ts.length ≤ c ∧ ∀ t ∈ ts, t.1 < 65536 ∧ t.2 < 4294967296 := by
  rcases Deep.open_slice Try.underlying55 h with ⟨hcs, _⟩ | ⟨x, l, c, m, nn, D, Pl, hcs, _, hl, hm, hmm, _, hi⟩
  · exact ⟨none, 0, [], hcs, fun i hi => absurd hi (Nat.not_lt_zero _), Nat.le_refl _, fun t ht => by cases ht⟩
  · have hlm : l ≤ m := by rw [hmm]; split <;> omega
    obtain ⟨z1, -, -⟩ := cells_tear
    have hex : 0 < l → x = ⟨x.block, x.off, none⟩ ∧ x.block < w.heap.size := by
      intro h0
      obtain ⟨cs', hc, ht⟩ := hi 0 (by omega)
      obtain ⟨_, _, rfl, _⟩ := tear_cells ht
      rw [z1] at hc
      obtain ⟨_, hcl, hat⟩ := World.cells?_some hc
      have e00 := cell_spot ((hat 0 (by omega)).trans (List.getElem?_cons_zero))
      have e0 := e00.1
      have e1 := e00.2
      rw [Deep.add_add] at e0 e1
      refine ⟨?_, by simpa [Addr.add] using e1⟩
      cases x; simp [Addr.add] at e0; simp [e0]
    have key : ∀ i, i < l → ∃ y : Nat × Nat, w.cell? ⟨x.block, x.off + i * 2, none⟩ = some (.int .u16 (y.1 : Int)) ∧ w.cell? ⟨x.block, x.off + i * 2 + 1, none⟩ = some (.int .u32 (y.2 : Int)) ∧ y.1 < 65536 ∧ y.2 < 4294967296 := by
      intro i hil
      obtain ⟨cs', hc, ht⟩ := hi i (by omega)
      obtain ⟨f, t, rfl, wf, wt⟩ := tear_cells ht
      rw [z1] at hc
      obtain ⟨_, hcl, hat⟩ := World.cells?_some hc
      have ex := (hex (by omega)).1
      refine ⟨⟨f, t⟩, ?_, ?_, wf, wt⟩
      · have h1 := hat 0 (by omega)
        rw [Deep.add_add, ex, add_at, ← Nat.add_assoc] at h1
        exact h1
      · have h1 := hat 1 (by omega)
        rw [Deep.add_add, ex, add_at, ← Nat.add_assoc] at h1
        exact h1
    obtain ⟨f, hf⟩ := Deep.choose_lt key
    refine ⟨some x, c, (List.range l).map f, by rw [hcs, List.length_map, List.length_range], fun i hi2 => ?_, by rw [List.length_map, List.length_range]; omega, fun t ht => ?_⟩
    · rw [List.length_map, List.length_range] at hi2
      obtain ⟨e1, e2⟩ := hex (by omega)
      have h1 := hf i hi2
      simp only [List.getElem_map, List.getElem_range]
      exact ⟨x.block, x.off, by rw [← e1], e2, Nat.not_le_of_lt e2, h1.1, h1.2.1⟩
    · obtain ⟨i, hi2, rfl⟩ := List.mem_map.1 ht
      have h1 := hf i (List.mem_range.1 hi2)
      exact h1.2.2
/-- Tears that came in. -/
def Trs (c : Nat) (w : World) (a : Option Addr) (n : Nat) (ts : List (Nat × Nat)) : Prop := ts.length = n ∧ TRow (fun k => w.heap.size ≤ k) w a ts ∧ n ≤ c ∧ ∀ t ∈ ts, t.1 < 65536 ∧ t.2 < 4294967296
theorem trs_in {H : Type} {enc : TypeId × Value → H} {w : World} {base : Nat} {sp : Nat → Bool} {held : Bool} {fuel : Nat} {a : Option Addr} {n cap : Nat} {x : DataW H × List MemPlace}
    (h : DataW.trod enc Try.prog w base sp held fuel 55 (Value.slice a n cap).cells.toList = some x) : ∃ ts, Trs cap w a n ts := by
  obtain ⟨a', c', ts, hc, h1, h2, h3⟩ := tears_in h
  simp [Value.cells] at hc
  obtain ⟨rfl, rfl, rfl⟩ := hc
  exact ⟨ts, rfl, h1, h2, h3⟩
/-- States that came in. -/
def Sts (w : World) (a : Option Addr) (n : Nat) (T : Nat → Nat) (V : Nat → Int) : Prop := ∀ k, k < n → ∃ b o, a = some ⟨b, o, none⟩ ∧ b < w.heap.size ∧ w.cell? ⟨b, o + k * 2, none⟩ = some (.int .u64 (T k : Int)) ∧ w.cell? ⟨b, o + k * 2 + 1, none⟩ = some (.int .i64 (V k))
theorem Sts.below {w w' : World} {a : Option Addr} {n : Nat} {T : Nat → Nat} {V : Nat → Int} (h : Sts w a n T V) (hb : Below w.heap.size w w') : Sts w' a n T V := fun k hk => by
  obtain ⟨b, o, h1, h2, h3, h4⟩ := h k hk
  exact ⟨b, o, h1, Nat.lt_of_lt_of_le h2 hb.size, (hb.cell (p := ⟨b, o + k * 2, none⟩) h2).trans h3, (hb.cell (p := ⟨b, o + k * 2 + 1, none⟩) h2).trans h4⟩
theorem cellsSt : Try.prog.cellsOf 48 = 2 := by kernel_rfl
set_option maxRecDepth 100000 in
theorem st_cells {H : Type} {enc : TypeId × Value → H} {w : World} {base : Nat} {sp : Nat → Bool} {held : Bool} {fuel : Nat} {cs : List Value} {x : DataW H × List MemPlace}
    (h : DataW.trod enc Try.prog w base sp held fuel 48 cs = some x) :
    ∃ (f : Nat) (t : Int), cs = [.int .u64 (f : Int), .int .i64 t] := by
  obtain ⟨xs, n, _, _, hlen, hxl, hg⟩ := DataW.trod_struct Try.underlying48 h
  rw [cellsSt] at hlen
  match cs, hlen with
  | [c0, c1], _ =>
    have g0 := hg 0 _ rfl
    have g1 := hg 1 _ rfl
    simp [st_cellsU64, st_cellsInt] at g0 g1
    have hx2 : xs.length = 2 := hxl
    rw [List.getElem?_eq_getElem (by omega)] at g0 g1
    obtain ⟨f, e0, _, w0⟩ := DataW.trod_int Try.underlying22 g0
    obtain ⟨t, e1, _, w1⟩ := DataW.trod_int Try.underlying3 g1
    simp only [List.cons.injEq, and_true] at e0 e1
    subst e0 e1
    exact ⟨f.toNat, t, by rw [Int.toNat_of_nonneg (st_wfU w0).1]⟩
set_option maxRecDepth 100000 in
theorem sts_in {H : Type} {enc : TypeId × Value → H} {w : World} {base : Nat} {sp : Nat → Bool} {held : Bool} {fuel : Nat} {a : Option Addr} {n cap : Nat} {x : DataW H × List MemPlace}
    (h : DataW.trod enc Try.prog w base sp held fuel 54 (Value.slice a n cap).cells.toList = some x) : ∃ T V, Sts w a n T V := by
  rcases Deep.open_slice Try.underlying54 h with ⟨hcs, _⟩ | ⟨x, l, c, m, nn, D, Pl, hcs, _, hl, hm, hmm, _, hi⟩
  · simp [Value.cells] at hcs
    obtain ⟨rfl, rfl, rfl⟩ := hcs
    exact ⟨fun _ => 0, fun _ => 0, fun k hk => absurd hk (Nat.not_lt_zero _)⟩
  · simp [Value.cells] at hcs
    obtain ⟨rfl, rfl, rfl⟩ := hcs
    have hlm : n ≤ m := by rw [hmm]; split <;> omega
    have hex : 0 < n → x = ⟨x.block, x.off, none⟩ ∧ x.block < w.heap.size := by
      intro h0
      obtain ⟨cs', hc, ht⟩ := hi 0 (by omega)
      obtain ⟨_, _, rfl⟩ := st_cells ht
      rw [cellsSt] at hc
      obtain ⟨_, hcl, hat⟩ := World.cells?_some hc
      have e00 := cell_spot ((hat 0 (by omega)).trans (List.getElem?_cons_zero))
      have e0 := e00.1
      have e1 := e00.2
      rw [Deep.add_add] at e0 e1
      refine ⟨?_, by simpa [Addr.add] using e1⟩
      cases x; simp [Addr.add] at e0; simp [e0]
    have key : ∀ i, i < n → ∃ y : Nat × Int, w.cell? ⟨x.block, x.off + i * 2, none⟩ = some (.int .u64 (y.1 : Int)) ∧ w.cell? ⟨x.block, x.off + i * 2 + 1, none⟩ = some (.int .i64 y.2) := by
      intro i hil
      obtain ⟨cs', hc, ht⟩ := hi i (by omega)
      obtain ⟨f, t, rfl⟩ := st_cells ht
      rw [cellsSt] at hc
      obtain ⟨_, hcl, hat⟩ := World.cells?_some hc
      have ex := (hex (by omega)).1
      refine ⟨⟨f, t⟩, ?_, ?_⟩
      · have h1 := hat 0 (by omega)
        rw [Deep.add_add, ex, add_at, ← Nat.add_assoc] at h1
        exact h1
      · have h1 := hat 1 (by omega)
        rw [Deep.add_add, ex, add_at, ← Nat.add_assoc] at h1
        exact h1
    obtain ⟨f, hf⟩ := Deep.choose_lt key
    exact ⟨fun i => (f i).1, fun i => (f i).2, fun k hk => ⟨x.block, x.off, by rw [← (hex (by omega)).1], (hex (by omega)).2, hf k hk⟩⟩
end Go.Proofs.Ythefnakbpalecaa

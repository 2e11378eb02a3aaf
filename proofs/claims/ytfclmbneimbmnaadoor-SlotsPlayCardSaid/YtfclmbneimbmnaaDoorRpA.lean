/- How a row of SlotsPlay's calls reads; the law's do, any call. -/
import Derived.Test.YtfclmbneimbmnaaDoorRdG
import Derived.Test.YtfclmbneimbmnaaDoorSrG
namespace Go.Proofs.YtfclmbneimbmnaaDoor
open Go.RowKit

/-- A call: its kind, its slot, its thing. -/
abbrev Ol := Int × Int × Th
def OpOk (o : Ol) : Prop := ThOk o.2.2
/-- A row of calls that can be read. -/
def OpS (w : World) (a : Option Addr) (l : List Ol) : Prop := ∀ k (hk : k < l.length), ∃ B o, a = some ⟨B, o, none⟩ ∧ w.cell? ⟨B, o + k * 5, none⟩ = some (.int .i64 (l[k]).1) ∧ w.cell? ⟨B, o + k * 5 + 1, none⟩ = some (.int .i64 (l[k]).2.1) ∧ w.cell? ⟨B, o + k * 5 + 2, none⟩ = some (.int .u64 (l[k]).2.2.1) ∧ w.cell? ⟨B, o + k * 5 + 3, none⟩ = some (.int .u64 (l[k]).2.2.2.1) ∧ w.cell? ⟨B, o + k * 5 + 4, none⟩ = some (.int .i64 (l[k]).2.2.2.2)
theorem OpS.below {w w' : World} {a : Option Addr} {l : List Ol} (h : OpS w a l) (hb : Below w.heap.size w w') : OpS w' a l := fun k hk => by
  obtain ⟨B, o, ha, c0, c1, c2, c3, c4⟩ := h k hk
  have hB : B < w.heap.size := by have := cell_lt c0; exact this
  exact ⟨B, o, ha, (hb.cell (p := ⟨B, _, none⟩) hB).trans c0, (hb.cell (p := ⟨B, _, none⟩) hB).trans c1, (hb.cell (p := ⟨B, _, none⟩) hB).trans c2, (hb.cell (p := ⟨B, _, none⟩) hB).trans c3, (hb.cell (p := ⟨B, _, none⟩) hB).trans c4⟩

theorem cellsOp : Tryd.prog.cellsOf 41 = 5 := by kernel_rfl
theorem cellsInt : Tryd.prog.cellsOf 3 = 1 := by kernel_rfl
set_option maxRecDepth 100000 in
theorem op_cells {H : Type} {enc : TypeId × Value → H} {w : World} {base : Nat} {sp : Nat → Bool} {held : Bool} {fuel : Nat} {cs : List Value} {x : DataW H × List MemPlace}
    (h : DataW.trod enc Tryd.prog w base sp held fuel 41 cs = some x) :
    ∃ o : Ol, cs = [.int .i64 o.1, .int .i64 o.2.1, .int .u64 o.2.2.1, .int .u64 o.2.2.2.1, .int .i64 o.2.2.2.2] ∧ OpOk o := by
  obtain ⟨xs, n, _, _, hlen, hxl, hg⟩ := DataW.trod_struct Tryd.underlying41 h
  rw [cellsOp] at hlen
  match cs, hlen with
  | [c0, c1, c2, c3, c4], _ =>
    have g0 := hg 0 _ rfl
    have g1 := hg 1 _ rfl
    have g2 := hg 2 _ rfl
    simp [cellsInt, cellsThing] at g0 g1 g2
    have hx2 : xs.length = 3 := hxl
    rw [List.getElem?_eq_getElem (by omega)] at g0 g1 g2
    obtain ⟨f, e0, _, w0⟩ := DataW.trod_int Tryd.underlying3 g0
    obtain ⟨t, e1, _, w1⟩ := DataW.trod_int Tryd.underlying3 g1
    obtain ⟨u, e2, hu⟩ := thing_cells g2
    simp only [List.cons.injEq, and_true] at e0 e1 e2
    obtain ⟨e2, e3, e4⟩ := e2
    subst e0 e1 e2 e3 e4
    exact ⟨(f, t, u), rfl, hu⟩
set_option maxRecDepth 100000 in
theorem ops_in {H : Type} {enc : TypeId × Value → H} {w : World} {base : Nat} {sp : Nat → Bool} {held : Bool} {fuel : Nat} {a : Option Addr} {n cap : Nat} {x : DataW H × List MemPlace}
    (h : DataW.trod enc Tryd.prog w base sp held fuel 37 (Value.slice a n cap).cells.toList = some x) :
    ∃ l : List Ol, l.length = n ∧ OpS w a l ∧ ∀ t ∈ l, OpOk t := by
  rcases Deep.open_slice Tryd.underlying37 h with ⟨hcs, _⟩ | ⟨x, l, c, m, nn, D, Pl, hcs, _, hl, hm, hmm, _, hi⟩
  · simp [Value.cells] at hcs
    obtain ⟨rfl, rfl, rfl⟩ := hcs
    exact ⟨[], rfl, fun k hk => by simp at hk, by simp⟩
  · simp [Value.cells] at hcs
    obtain ⟨rfl, rfl, rfl⟩ := hcs
    have hlm : n ≤ m := by rw [hmm]; split <;> omega
    have hex : 0 < n → x = ⟨x.block, x.off, none⟩ := by
      intro h0
      obtain ⟨cs', hc, ht⟩ := hi 0 (by omega)
      obtain ⟨t, rfl, _⟩ := op_cells ht
      rw [cellsOp] at hc
      obtain ⟨_, hcl, hat⟩ := World.cells?_some hc
      have e0 := cell_spot3 ((hat 0 (by omega)).trans (List.getElem?_cons_zero))
      rw [Deep.add_add] at e0
      cases x; simp [Addr.add] at e0; simp [e0]
    have key : ∀ i, i < n → ∃ t : Ol, (x = ⟨x.block, x.off, none⟩ ∧ w.cell? ⟨x.block, x.off + i * 5, none⟩ = some (.int .i64 t.1) ∧ w.cell? ⟨x.block, x.off + i * 5 + 1, none⟩ = some (.int .i64 t.2.1) ∧ w.cell? ⟨x.block, x.off + i * 5 + 2, none⟩ = some (.int .u64 t.2.2.1) ∧ w.cell? ⟨x.block, x.off + i * 5 + 3, none⟩ = some (.int .u64 t.2.2.2.1) ∧ w.cell? ⟨x.block, x.off + i * 5 + 4, none⟩ = some (.int .i64 t.2.2.2.2)) ∧ OpOk t := by
      intro i hil
      obtain ⟨cs', hc, ht⟩ := hi i (by omega)
      obtain ⟨t, rfl, ok⟩ := op_cells ht
      rw [cellsOp] at hc
      obtain ⟨_, hcl, hat⟩ := World.cells?_some hc
      have ex := hex (by omega)
      refine ⟨t, ⟨ex, ?_, ?_, ?_, ?_, ?_⟩, ok⟩
      · have h1 := hat 0 (by omega)
        rw [Deep.add_add, ex, add_at3, ← Nat.add_assoc] at h1
        exact h1
      · have h1 := hat 1 (by omega)
        rw [Deep.add_add, ex, add_at3, ← Nat.add_assoc] at h1
        exact h1
      · have h1 := hat 2 (by omega)
        rw [Deep.add_add, ex, add_at3, ← Nat.add_assoc] at h1
        exact h1
      · have h1 := hat 3 (by omega)
        rw [Deep.add_add, ex, add_at3, ← Nat.add_assoc] at h1
        exact h1
      · have h1 := hat 4 (by omega)
        rw [Deep.add_add, ex, add_at3, ← Nat.add_assoc] at h1
        exact h1
    obtain ⟨f, hf⟩ := Deep.choose_lt key
    refine ⟨(List.range n).map f, by simp, fun k hk => ?_, fun t ht => ?_⟩
    · have hk' : k < n := by simpa using hk
      obtain ⟨⟨ex, c0, c1, c2, c3, c4⟩, _⟩ := hf k hk'
      refine ⟨x.block, x.off, by rw [← ex], ?_⟩
      simp only [List.getElem_map, List.getElem_range]
      exact ⟨c0, c1, c2, c3, c4⟩
    · obtain ⟨k, hk, rfl⟩ := List.mem_map.1 ht
      exact (hf k (by simpa using hk)).2

theorem idOk_of_wf {x : Int} (h : (Lit.int .u64 x).wf = true) : IdOk x := by
  have h1 : IntKind.u64.min = 0 := by decide
  have h2 : IntKind.u64.max = 18446744073709551615 := by decide
  simp only [Lit.wf, h1, h2, Bool.and_eq_true, decide_eq_true_eq] at h
  unfold IdOk
  omega

/-- The law's do, whatever the call. -/
theorem do_any {B r b n : Nat} {v : Value} (o : Ol) (w : World) (hT : Tab w) (h : St B r b n w v) (hn : n ≤ 200) (hx : OpOk o) :
    Calls Tryd.prog 23 #[.pointer (some ⟨r, 0, none⟩), v, .agg #[.int .i64 o.1, .int .i64 o.2.1, .int .u64 o.2.2.1, .int .u64 o.2.2.2.1, .int .i64 o.2.2.2.2]] w fun e w' => ∃ v', e = .returned (.tuple #[v', .bool true]) ∧ St B r b (n + 1) w' v' ∧ Below B w w' := by
  obtain ⟨V, S, M, L, hB, hL⟩ := h
  obtain ⟨kd, s, x, y, z⟩ := o
  have hid := idOk_of_wf hx.1
  obtain ⟨p, c, rfl, _⟩ := hB.own.shape
  have up : ∀ {w' : World} {v' : Value}, St B r b (L.length + 1) w' v' → St B r b (n + 1) w' v' := fun h => by
    obtain ⟨V, S, M, L', h1, h2⟩ := h
    exact ⟨V, S, M, L', h1, by omega⟩
  have fin : ∀ {args : Array Value}, (Calls Tryd.prog 23 args w fun e w' => ∃ v', e = .returned (.tuple #[v', .bool true]) ∧ St B r b (L.length + 1) w' v' ∧ Below B w w') → Calls Tryd.prog 23 args w fun e w' => ∃ v', e = .returned (.tuple #[v', .bool true]) ∧ St B r b (n + 1) w' v' ∧ Below B w w' := fun h => h.mono fun e w' ⟨v', h1, h2, h3⟩ => ⟨v', h1, up h2, h3⟩
  have hl : L.length ≤ 200 := by omega
  by_cases hf : ∃ k, ∃ hk : k < L.length, idR L[k] = x
  · obtain ⟨k, hk, e⟩ := hf
    by_cases h1 : kd = 1
    · subst h1; exact fin (do_drop_yes p c s x y z w hB hl hid hk e)
    by_cases h2 : kd = 2
    · subst h2
      by_cases hs : 0 ≤ s ∧ s < 64
      · exact fin (do_take_in p c s x y z w hB hl hid hs)
      · exact fin (do_take_out p c s x y z w hB hl hid hs)
    by_cases h3 : kd = 3
    · subst h3; exact fin (do_next p c s x y z w hB hl hid hT)
    by_cases h4 : kd = 4
    · subst h4; exact fin (do_get_yes p c s x y z w hB hl hid hk e)
    · exact fin (do_put p c kd s x y z w hB hl hid h1 h2 h3 h4)
  · have hno : ∀ q ∈ L, idR q ≠ x := fun q hq e => by
      obtain ⟨k, hk, e2⟩ := List.mem_iff_getElem.1 hq
      exact hf ⟨k, hk, by rw [e2]; exact e⟩
    by_cases h1 : kd = 1
    · subst h1; exact fin (do_drop_no p c s x y z w hB hl hid hno)
    by_cases h2 : kd = 2
    · subst h2
      by_cases hs : 0 ≤ s ∧ s < 64
      · exact fin (do_take_in p c s x y z w hB hl hid hs)
      · exact fin (do_take_out p c s x y z w hB hl hid hs)
    by_cases h3 : kd = 3
    · subst h3; exact fin (do_next p c s x y z w hB hl hid hT)
    by_cases h4 : kd = 4
    · subst h4; exact fin (do_get_no p c s x y z w hB hl hid hno)
    · exact fin (do_put p c kd s x y z w hB hl hid h1 h2 h3 h4)
end Go.Proofs.YtfclmbneimbmnaaDoor

/- The outbox: how calls come in. -/
import Derived.Test.YtnfpheccmjdpoaaObM
import Derived.Maps.Views
import Derived.WalkKit
namespace Go.Proofs.Ytnfpheccmjdpoaa
open Go.RowKit Go.Maps
structure Oq where
  (kd : Int)
  (x : Nt)
  (a : Int)
instance : Inhabited Oq := ⟨⟨0, ⟨0, 0, 0, 0, 0, 0, 0, 0, 0⟩, 0⟩⟩
def OqC (w : World) (b o : Nat) (y : Oq) : Prop := w.cell? ⟨b, o, none⟩ = some (.int .i64 y.kd) ∧ w.cell? ⟨b, o + 1, none⟩ = some (.int .u64 y.x.id) ∧ w.cell? ⟨b, o + 2, none⟩ = some (.int .u64 y.x.tk) ∧ w.cell? ⟨b, o + 3, none⟩ = some (.int .i64 y.x.lv) ∧ w.cell? ⟨b, o + 4, none⟩ = some (.int .i64 y.x.pa) ∧ w.cell? ⟨b, o + 5, none⟩ = some (.int .i64 y.x.st) ∧ w.cell? ⟨b, o + 6, none⟩ = some (.int .i64 y.x.tr) ∧ w.cell? ⟨b, o + 7, none⟩ = some (.int .i64 y.x.rt) ∧ w.cell? ⟨b, o + 8, none⟩ = some (.int .i64 y.x.wt) ∧ w.cell? ⟨b, o + 9, none⟩ = some (.int .i64 y.x.nx) ∧ w.cell? ⟨b, o + 10, none⟩ = some (.int .i64 y.a)
theorem OqC.kept {w w' : World} {b o : Nat} {y : Oq} (h : OqC w b o y) (e : w'.heap[b]? = w.heap[b]?) : OqC w' b o y := by
  obtain ⟨q0, q1, q2, q3, q4, q5, q6, q7, q8, q9, q10⟩ := h
  exact ⟨(World.cell?_of_block (a := ⟨b, o, none⟩) e).trans q0, (World.cell?_of_block (a := ⟨b, o + 1, none⟩) e).trans q1, (World.cell?_of_block (a := ⟨b, o + 2, none⟩) e).trans q2, (World.cell?_of_block (a := ⟨b, o + 3, none⟩) e).trans q3, (World.cell?_of_block (a := ⟨b, o + 4, none⟩) e).trans q4, (World.cell?_of_block (a := ⟨b, o + 5, none⟩) e).trans q5, (World.cell?_of_block (a := ⟨b, o + 6, none⟩) e).trans q6, (World.cell?_of_block (a := ⟨b, o + 7, none⟩) e).trans q7, (World.cell?_of_block (a := ⟨b, o + 8, none⟩) e).trans q8, (World.cell?_of_block (a := ⟨b, o + 9, none⟩) e).trans q9, (World.cell?_of_block (a := ⟨b, o + 10, none⟩) e).trans q10⟩
def Ops17 (w : World) (a : Option Addr) (len : Nat) (O : Nat → Oq) : Prop := ∀ k, k < len → ∃ b o, a = some ⟨b, o, none⟩ ∧ b < w.heap.size ∧ OqC w b (o + k * 11) (O k)
theorem Ops17.below {w w' : World} {a : Option Addr} {len : Nat} {O : Nat → Oq} (h : Ops17 w a len O) (hb : Below w.heap.size w w') : Ops17 w' a len O := fun k hk => by
  obtain ⟨b, o, e, h1, h2⟩ := h k hk
  exact ⟨b, o, e, Nat.lt_of_lt_of_le h1 hb.size, h2.kept (hb.block b h1)⟩
set_option maxRecDepth 100000 in
theorem op17_cells {H : Type} {enc : TypeId × Value → H} {w : World} {base : Nat} {sp : Nat → Bool} {held : Bool} {fuel : Nat} {cs : List Value} {x : DataW H × List MemPlace}
    (h : DataW.trod enc Try.prog w base sp held fuel 38 cs = some x) :
    ∃ (kd id tk lv pa st tr rt wt nx a0 : Int), cs = [.int .i64 kd, .int .u64 id, .int .u64 tk, .int .i64 lv, .int .i64 pa, .int .i64 st, .int .i64 tr, .int .i64 rt, .int .i64 wt, .int .i64 nx, .int .i64 a0] := by
  obtain ⟨xs, n, _, _, hlen, hxl, hg⟩ := DataW.trod_struct Try.underlying38 h
  have c11 : Try.prog.cellsOf 38 = 11 := by kernel_rfl
  have c9 : Try.prog.cellsOf 36 = 9 := by kernel_rfl
  have t2 : Try.prog.cellsOf 3 = 1 := by kernel_rfl
  have t3 : Try.prog.cellsOf 2 = 1 := by kernel_rfl
  rw [c11] at hlen
  match cs, hlen with
  | [c0, c1, c2, c3, c4, c5, c6, c7, c8, c9', c10], _ =>
    have g0 := hg 0 _ rfl
    have g1 := hg 1 _ rfl
    have g2 := hg 2 _ rfl
    simp [c9, t2, t3] at g0 g1 g2
    have hx3 : xs.length = 3 := hxl
    rw [List.getElem?_eq_getElem (by omega)] at g0 g1 g2
    obtain ⟨kd, e0, _, _⟩ := DataW.trod_int Try.underlying3 g0
    obtain ⟨id, tk, lv, pa, st, tr, rt, wt, nx, e1⟩ := notice_cells g1
    obtain ⟨a0, e2, _, _⟩ := DataW.trod_int Try.underlying2 g2
    simp only [List.cons.injEq, and_true] at e0 e1 e2
    subst e0 e2
    obtain ⟨rfl, rfl, rfl, rfl, rfl, rfl, rfl, rfl, rfl⟩ := e1
    exact ⟨kd, id, tk, lv, pa, st, tr, rt, wt, nx, a0, rfl⟩
set_option maxRecDepth 100000 in
theorem ops17_in {H : Type} {enc : TypeId × Value → H} {w : World} {base : Nat} {sp : Nat → Bool} {held : Bool} {fuel : Nat} {a : Option Addr} {n cap : Nat} {x : DataW H × List MemPlace}
    (h : DataW.trod enc Try.prog w base sp held fuel 26 (Value.slice a n cap).cells.toList = some x) : ∃ O, Ops17 w a n O := by
  have c11 : Try.prog.cellsOf 38 = 11 := by kernel_rfl
  rcases Deep.open_slice Try.underlying26 h with ⟨hcs, _⟩ | ⟨x, l, c, m, nn, D, Pl, hcs, _, hl, hm, hmm, _, hi⟩
  · simp [Value.cells] at hcs
    obtain ⟨rfl, rfl, rfl⟩ := hcs
    exact ⟨fun _ => default, fun k hk => by omega⟩
  · simp [Value.cells] at hcs
    obtain ⟨rfl, rfl, rfl⟩ := hcs
    have hlm : n ≤ m := by rw [hmm]; split <;> omega
    have hex : 0 < n → x = ⟨x.block, x.off, none⟩ ∧ x.block < w.heap.size := by
      intro h0
      obtain ⟨cs', hc, ht⟩ := hi 0 (by omega)
      obtain ⟨kd, id, tk, lv, pa, st, tr, rt, wt, nx, a0, rfl⟩ := op17_cells ht
      rw [c11] at hc
      obtain ⟨_, hcl, hat⟩ := World.cells?_some hc
      have e00 := cell_spot ((hat 0 (by omega)).trans (List.getElem?_cons_zero))
      have e0 := e00.1
      have e1 := e00.2
      rw [Deep.add_add] at e0 e1
      refine ⟨?_, by simpa [Addr.add] using e1⟩
      cases x; simp [Addr.add] at e0; simp [e0]
    have key : ∀ i, i < n → ∃ y : Oq, OqC w x.block (x.off + i * 11) y := by
      intro i hil
      obtain ⟨cs', hc, ht⟩ := hi i (by omega)
      obtain ⟨kd, id, tk, lv, pa, st, tr, rt, wt, nx, a0, rfl⟩ := op17_cells ht
      rw [c11] at hc
      obtain ⟨_, hcl, hat⟩ := World.cells?_some hc
      have ex := (hex (by omega)).1
      refine ⟨⟨kd, ⟨id, tk, lv, pa, st, tr, rt, wt, nx⟩, a0⟩, ?_⟩
      have hj : ∀ j (hj : j < 11), w.cell? ⟨x.block, x.off + i * 11 + j, none⟩ = ([.int .i64 kd, .int .u64 id, .int .u64 tk, .int .i64 lv, .int .i64 pa, .int .i64 st, .int .i64 tr, .int .i64 rt, .int .i64 wt, .int .i64 nx, .int .i64 a0] : List Value)[j]? := by
        intro j hj
        have h1 := hat j hj
        rw [Deep.add_add, ex, add_at, ← Nat.add_assoc] at h1
        exact h1
      exact ⟨hj 0 (by omega), hj 1 (by omega), hj 2 (by omega), hj 3 (by omega), hj 4 (by omega), hj 5 (by omega), hj 6 (by omega), hj 7 (by omega), hj 8 (by omega), hj 9 (by omega), hj 10 (by omega)⟩
    obtain ⟨f, hf⟩ := Deep.choose_lt key
    exact ⟨f, fun k hk => ⟨x.block, x.off, by rw [← (hex (by omega)).1], (hex (by omega)).2, hf k hk⟩⟩
end Go.Proofs.Ytnfpheccmjdpoaa

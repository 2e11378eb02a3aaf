/- The outbox: how a notice comes in; the law of the full box, for the frame. -/
import Derived.Test.YtnfpheccmjdpoaaObL
import Derived.WideShapes
import Derived.OpenShut
namespace Go.Proofs.Ytnfpheccmjdpoaa
open Go.RowKit
set_option maxRecDepth 100000 in
set_option maxHeartbeats 8000000 in
theorem notice_cells {H : Type} {enc : TypeId × Value → H} {w : World} {base : Nat} {sp : Nat → Bool} {held : Bool} {fuel : Nat} {cs : List Value} {x : DataW H × List MemPlace}
    (h : DataW.trod enc Try.prog w base sp held fuel 36 cs = some x) :
    ∃ (id tk lv pa st tr rt wt nx : Int), cs = [.int .u64 id, .int .u64 tk, .int .i64 lv, .int .i64 pa, .int .i64 st, .int .i64 tr, .int .i64 rt, .int .i64 wt, .int .i64 nx] := by
  obtain ⟨xs, n, _, _, hlen, hxl, hg⟩ := DataW.trod_struct Try.underlying36 h
  have c9 : Try.prog.cellsOf 36 = 9 := by kernel_rfl
  have t1 : Try.prog.cellsOf 22 = 1 := by kernel_rfl
  have t2 : Try.prog.cellsOf 3 = 1 := by kernel_rfl
  have t3 : Try.prog.cellsOf 2 = 1 := by kernel_rfl
  rw [c9] at hlen
  match cs, hlen with
  | [c0, c1, c2, c3, c4, c5, c6, c7, c8], _ =>
    have g0 := hg 0 _ rfl
    have g1 := hg 1 _ rfl
    have g2 := hg 2 _ rfl
    have g3 := hg 3 _ rfl
    have g4 := hg 4 _ rfl
    have g5 := hg 5 _ rfl
    have g6 := hg 6 _ rfl
    have g7 := hg 7 _ rfl
    have g8 := hg 8 _ rfl
    simp [t1, t2, t3] at g0 g1 g2 g3 g4 g5 g6 g7 g8
    have hx9 : xs.length = 9 := hxl
    rw [List.getElem?_eq_getElem (by omega)] at g0 g1 g2 g3 g4 g5 g6 g7 g8
    obtain ⟨id, e0, _, _⟩ := DataW.trod_int Try.underlying22 g0
    obtain ⟨tk, e1, _, _⟩ := DataW.trod_int Try.underlying22 g1
    obtain ⟨lv, e2, _, _⟩ := DataW.trod_int Try.underlying3 g2
    obtain ⟨pa, e3, _, _⟩ := DataW.trod_int Try.underlying3 g3
    obtain ⟨st, e4, _, _⟩ := DataW.trod_int Try.underlying3 g4
    obtain ⟨tr, e5, _, _⟩ := DataW.trod_int Try.underlying3 g5
    obtain ⟨rt, e6, _, _⟩ := DataW.trod_int Try.underlying3 g6
    obtain ⟨wt, e7, _, _⟩ := DataW.trod_int Try.underlying2 g7
    obtain ⟨nx, e8, _, _⟩ := DataW.trod_int Try.underlying2 g8
    simp only [List.cons.injEq, and_true] at e0 e1 e2 e3 e4 e5 e6 e7 e8
    subst e0 e1 e2 e3 e4 e5 e6 e7 e8
    exact ⟨id, tk, lv, pa, st, tr, rt, wt, nx, rfl⟩
set_option maxRecDepth 100000 in
theorem notice_in {H : Type} {enc : TypeId × Value → H} {w : World} {base b0 : Nat} {sp : Nat → Bool} {held : Bool} {v : Value} {dd : DataW H} {p : List MemPlace}
    (hv : Value.okWide Try.prog w .any b0 36 v) (h : DataW.Trod enc Try.prog w base sp held 36 v dd p) :
    ∃ (id tk lv pa st tr rt wt nx : Int), v = .agg #[.int .u64 id, .int .u64 tk, .int .i64 lv, .int .i64 pa, .int .i64 st, .int .i64 tr, .int .i64 rt, .int .i64 wt, .int .i64 nx] ∧ True := by
  obtain ⟨cs, rfl, -⟩ := Go.WideShapes.okWide_struct Try.underlying36 hv
  obtain ⟨fuel, hf⟩ := h
  obtain ⟨id, tk, lv, pa, st, tr, rt, wt, nx, e⟩ := notice_cells (show DataW.trod enc Try.prog w base sp held fuel 36 cs.toList = some (dd, p) from hf)
  have e2 : cs = #[.int .u64 id, .int .u64 tk, .int .i64 lv, .int .i64 pa, .int .i64 st, .int .i64 tr, .int .i64 rt, .int .i64 wt, .int .i64 nx] := by
    cases cs
    simp only at e
    rw [e]
  exact ⟨id, tk, lv, pa, st, tr, rt, wt, nx, by rw [e2], trivial⟩
theorem full_law (id tk lv pa st tr rt wt nx : Int) (now at0 : Int) (w : World) (_h : True) (hat : (Lit.int .u8 at0).wf = true) : Calls Try.prog 5 #[.agg #[.int .u64 id, .int .u64 tk, .int .i64 lv, .int .i64 pa, .int .i64 st, .int .i64 tr, .int .i64 rt, .int .i64 wt, .int .i64 nx], .int .i64 now, .int .u8 at0] w fun e w' => e = .returned (.bool true) ∧ Below w.heap.size w w' :=
  full_walk ⟨id, tk, lv, pa, st, tr, rt, wt, nx⟩ now at0 (wf_u8 hat) w
end Go.Proofs.Ytnfpheccmjdpoaa

/- The disk that no call made: how a call comes in; the law, for the frame. -/
import Derived.Test.YtdkkpabemimmlaaDnC
import Derived.WideShapes
import Derived.OpenShut
namespace Go.Proofs.Ytdkkpabemimmlaa
open Go.RowKit
theorem enc_str (s : ByteArray) : Value.string s = encStr s.data.toList := rfl
set_option maxRecDepth 100000 in
set_option maxHeartbeats 8000000 in
theorem op23_cells {H : Type} {enc : TypeId × Value → H} {w : World} {base : Nat} {sp : Nat → Bool} {held : Bool} {fuel : Nat} {cs : List Value} {x : DataW H × List MemPlace}
    (h : DataW.trod enc Try.prog w base sp held fuel 34 cs = some x) :
    ∃ (kd n : Int) (nm tt tx : List UInt8) (a : Option Addr) (l c : Nat), cs = [.int .i64 kd, .int .i64 n, encStr nm, encStr tt, encStr tx, .slice a l c] := by
  obtain ⟨xs, n, _, _, hlen, hxl, hg⟩ := DataW.trod_struct Try.underlying34 h
  have c9 : Try.prog.cellsOf 34 = 6 := by kernel_rfl
  have t1 : Try.prog.cellsOf 3 = 1 := by kernel_rfl
  have t2 : Try.prog.cellsOf 9 = 1 := by kernel_rfl
  have t3 : Try.prog.cellsOf 32 = 1 := by kernel_rfl
  rw [c9] at hlen
  match cs, hlen with
  | [c0, c1, c2, c3, c4, c5], _ =>
    have g0 := hg 0 _ rfl
    have g1 := hg 1 _ rfl
    have g2 := hg 2 _ rfl
    have g3 := hg 3 _ rfl
    have g4 := hg 4 _ rfl
    have g5 := hg 5 _ rfl
    simp [t1, t2, t3] at g0 g1 g2 g3 g4 g5
    have hx9 : xs.length = 6 := hxl
    rw [List.getElem?_eq_getElem (by omega)] at g0 g1 g2 g3 g4 g5
    obtain ⟨kd, e0, _, _⟩ := DataW.trod_int Try.underlying3 g0
    obtain ⟨nn, e1, _, _⟩ := DataW.trod_int Try.underlying3 g1
    obtain ⟨nm, e2, _, _⟩ := DataW.trod_string Try.underlying9 g2
    obtain ⟨tt, e3, _, _⟩ := DataW.trod_string Try.underlying9 g3
    obtain ⟨tx, e4, _, _⟩ := DataW.trod_string Try.underlying9 g4
    simp only [List.cons.injEq, and_true] at e0 e1 e2 e3 e4
    subst e0 e1 e2 e3 e4
    rw [enc_str nm, enc_str tt, enc_str tx]
    rcases Deep.open_slice Try.underlying32 g5 with ⟨hcs, _⟩ | ⟨x, l, c, m, nn2, D, Pl, hcs, _⟩
    · simp only [List.cons.injEq, and_true] at hcs
      subst hcs
      exact ⟨_, _, _, _, _, _, _, _, rfl⟩
    · simp only [List.cons.injEq, and_true] at hcs
      subst hcs
      exact ⟨_, _, _, _, _, _, _, _, rfl⟩
set_option maxRecDepth 100000 in
theorem op23_in {H : Type} {enc : TypeId × Value → H} {w : World} {base b0 : Nat} {sp : Nat → Bool} {held : Bool} {v : Value} {dd : DataW H} {p : List MemPlace}
    (hv : Value.okWide Try.prog w .any b0 34 v) (h : DataW.Trod enc Try.prog w base sp held 34 v dd p) :
    ∃ (kd n : Int) (nm tt tx : List UInt8) (a : Option Addr) (l c : Nat), v = .agg #[.int .i64 kd, .int .i64 n, encStr nm, encStr tt, encStr tx, .slice a l c] ∧ True := by
  obtain ⟨cs, rfl, -⟩ := Go.WideShapes.okWide_struct Try.underlying34 hv
  obtain ⟨fuel, hf⟩ := h
  obtain ⟨kd, n, nm, tt, tx, a, l, c, e⟩ := op23_cells (show DataW.trod enc Try.prog w base sp held fuel 34 cs.toList = some (dd, p) from hf)
  have e2 : cs = #[.int .i64 kd, .int .i64 n, encStr nm, encStr tt, encStr tx, .slice a l c] := by
    cases cs
    simp only at e
    rw [e]
  exact ⟨kd, n, nm, tt, tx, a, l, c, by rw [e2], trivial⟩
theorem nobody_law (kd n : Int) (nm tt tx : List UInt8) (a : Option Addr) (l c : Nat) (w : World) (_h : True) : Calls Try.prog 6 #[.agg #[.int .i64 kd, .int .i64 n, encStr nm, encStr tt, encStr tx, .slice a l c]] w fun e w' => e = .returned (.bool true) ∧ Below w.heap.size w w' :=
  nobody23 kd n nm tt tx a l c w
end Go.Proofs.Ytdkkpabemimmlaa

/- How an item reads. -/
import Derived.Test.YtkeloeppploiaaaQuQ
import Derived.Deep.Slices
import Derived.ProofKit
import Derived.ChangeOld
namespace Go.Proofs.Ytkeloeppploiaaa
open Go.RowKit
theorem cells32 : Try.prog.cellsOf 32 = 5 := by kernel_rfl
theorem cells3 : Try.prog.cellsOf 3 = 1 := by kernel_rfl
theorem cells30 : Try.prog.cellsOf 30 = 1 := by kernel_rfl
theorem cells2 : Try.prog.cellsOf 2 = 1 := by kernel_rfl
theorem cells4 : Try.prog.cellsOf 4 = 1 := by kernel_rfl
theorem cells9 : Try.prog.cellsOf 9 = 1 := by kernel_rfl
theorem item_cells {H : Type} {enc : TypeId × Value → H} {w : World} {base : Nat} {sp : Nat → Bool} {held : Bool} {fuel : Nat} {cs : List Value} {x : DataW H × List MemPlace}
    (h : DataW.trod enc Try.prog w base sp held fuel 32 cs = some x) :
    ∃ kind nm int fl s, cs = [.int .i64 kind, .int .u64 nm, .int .i64 int, .bool fl, .string s] ∧ (Lit.int .i64 kind).wf = true ∧ (Lit.int .u64 nm).wf = true ∧ (Lit.int .i64 int).wf = true ∧ s.size ≤ maxLen := by
  obtain ⟨xs, n, _, _, hlen, hxl, hg⟩ := DataW.trod_struct Try.underlying32 h
  rw [cells32] at hlen
  match cs, hlen with
  | [c0, c1, c2, c3, c4], _ =>
    have g0 := hg 0 _ rfl
    have g1 := hg 1 _ rfl
    have g2 := hg 2 _ rfl
    have g3 := hg 3 _ rfl
    have g4 := hg 4 _ rfl
    simp [cells3, cells30, cells2, cells4, cells9] at g0 g1 g2 g3 g4
    have hx5 : xs.length = 5 := hxl
    rw [List.getElem?_eq_getElem (by omega)] at g0 g1 g2 g3 g4
    obtain ⟨kind, e0, _, w0⟩ := DataW.trod_int Try.underlying3 g0
    obtain ⟨nm, e1, _, w1⟩ := DataW.trod_int Try.underlying30 g1
    obtain ⟨int, e2, _, w2⟩ := DataW.trod_int Try.underlying2 g2
    obtain ⟨fl, e3, _⟩ := DataW.trod_bool Try.underlying4 g3
    obtain ⟨s, e4, _, w4⟩ := DataW.trod_string Try.underlying9 g4
    simp only [List.cons.injEq, and_true] at e0 e1 e2 e3 e4
    subst e0 e1 e2 e3 e4
    exact ⟨kind, nm, int, fl, s, rfl, w0, w1, w2, w4⟩
/-- An item that came in, as it reads. -/
theorem item_in {kind nm int : Int} {fl : Bool} {s : ByteArray} (w1 : (Lit.int .u64 nm).wf = true) (w2 : (Lit.int .i64 int).wf = true) (hs : s.size ≤ 1000) :
    ∃ x : It, x.ok ∧ x.v = .agg #[.int .i64 kind, .int .u64 nm, .int .i64 int, .bool fl, .string s] ∧ x.kind = kind ∧ ((x.num : Nat) : Int) = nm ∧ x.int = int ∧ x.flag = fl ∧ x.text = s := by
  have b1 := bounds_u64 w1
  have b2 := bounds_i64 w2
  have e : ((nm.toNat : Nat) : Int) = nm := Int.toNat_of_nonneg b1.1
  refine ⟨⟨kind, nm.toNat, int, fl, s⟩, ⟨by show nm.toNat < 18446744073709551616; omega, b2.1, b2.2, hs⟩, ?_, rfl, e, rfl, rfl, rfl⟩
  unfold It.v
  simp only [e]
end Go.Proofs.Ytkeloeppploiaaa

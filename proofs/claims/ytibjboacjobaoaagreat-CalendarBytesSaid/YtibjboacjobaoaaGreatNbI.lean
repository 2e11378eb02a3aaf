/- Rows of bytes that came in. -/
import Derived.Test.YtibjboacjobaoaaGreatMgAA
import Derived.Lib.SmallJoins
import Derived.WideShapes
import Derived.ProofKit
import Derived.OpenShut
import Derived.Deep.Slices
namespace Go.Proofs.YtibjboacjobaoaaGreat
open Go.RowKit
theorem wf_u8i {n : Int} (h : (Lit.int .u8 n).wf = true) : 0 ≤ n ∧ n < 256 := by
  simp [Lit.wf, IntKind.min, IntKind.max, IntKind.signed, IntKind.bits] at h
  omega
set_option maxRecDepth 100000 in
theorem slice_thereB {w : World} {base : Nat} {a : Option Addr} {n c : Nat} (h : Value.okWide Tryz.prog w .any base 25 (.slice a n c)) : ∀ k, w.heap.size ≤ k → (Value.slice a n c).ownBlock ≠ some k := by
  intro k hk e
  cases a with
  | none => simp [Value.ownBlock] at e
  | some x =>
    simp only [Value.ownBlock, Option.map_some, Option.some.injEq] at e
    simp only [Value.okWide, Tryz.underlying25, Cell.okWide, Cell.ok] at h
    obtain ⟨_, _, _, _, row, cells, hs, _⟩ := h
    have hx : w.heap[x.block]? = none := Array.getElem?_eq_none (by omega)
    simp [World.shape?, hx] at hs
/-- A row of bytes that came in. -/
def BSc (cap : Nat) (w : World) (a : Option Addr) (len : Nat) (bs : List Nat) : Prop := bs.length = len ∧ (len ≤ 140737488351232 → RB w (.slice a len cap) bs)
set_option maxRecDepth 100000 in
theorem bytes_in {H : Type} {enc : TypeId × Value → H} {w : World} {base : Nat} {sp : Nat → Bool} {held : Bool} {fuel : Nat} {a : Option Addr} {n cap : Nat} {x : DataW H × List MemPlace}
    (h : DataW.trod enc Tryz.prog w base sp held fuel 25 (Value.slice a n cap).cells.toList = some x) :
    ∃ bs, BSc cap w a n bs := by
  rcases Deep.open_slice Tryz.underlying25 h with ⟨hcs, _⟩ | ⟨x, l, c, m, nn, D, Pl, hcs, _, hl, hm, hmm, _, hi⟩
  · simp [Value.cells] at hcs
    obtain ⟨rfl, rfl, rfl⟩ := hcs
    exact ⟨[], rfl, fun _ => RB.nil w⟩
  · simp [Value.cells] at hcs
    obtain ⟨rfl, rfl, rfl⟩ := hcs
    have hlm : n ≤ m := by rw [hmm]; split <;> omega
    have cellsB : Tryz.prog.cellsOf 5 = 1 := by kernel_rfl
    have key : ∀ i, i < n → ∃ t : Nat, w.cell? (x.add i) = some (.int .u8 (t : Int)) ∧ t < 256 := by
      intro i hil
      obtain ⟨cs', hc, ht⟩ := hi i (by omega)
      obtain ⟨f, e0, _, w0⟩ := DataW.trod_int Tryz.underlying5 ht
      subst e0
      rw [cellsB] at hc
      obtain ⟨_, hcl, hat⟩ := World.cells?_some hc
      have hb := wf_u8i w0
      refine ⟨f.toNat, ?_, by omega⟩
      have h1 := hat 0 (by omega)
      rw [Deep.add_add] at h1
      have e : ((f.toNat : Nat) : Int) = f := by omega
      rw [e]
      simpa using h1
    obtain ⟨f, hf⟩ := Deep.choose_lt key
    refine ⟨(List.range n).map f, by simp, fun hn => ⟨fun c hc => ?_, by simpa using hn, .inr ⟨x, cap, by simp, by simpa using hl, hm, fun i hi' => ?_⟩⟩⟩
    · obtain ⟨i, hi', rfl⟩ := List.mem_map.1 hc
      exact (hf i (by simpa using hi')).2
    · have hin : i < n := by simpa using hi'
      rw [(hf i hin).1]
      simp [hin]
end Go.Proofs.YtibjboacjobaoaaGreat

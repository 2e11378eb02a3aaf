/- Tickets: how a ticket, and a row of bytes, read that came in. -/
import Derived.Test.YtnhaakdjijjinaaTbE
import Derived.Test.YtnhaakdjijjinaaTbG
import Derived.Lib.SmallJoins
import Derived.WideShapes
import Derived.ProofKit
import Derived.OpenShut
import Derived.Deep.Slices
namespace Go.Proofs.Ytnhaakdjijjinaa
open Go.RowKit
theorem array9 {α : Type} {cs : Array α} (h : cs.size = 9) : ∃ c0 c1 c2 c3 c4 c5 c6 c7 c8, cs = #[c0, c1, c2, c3, c4, c5, c6, c7, c8] := by
  obtain ⟨l⟩ := cs
  match l, h with
  | [c0, c1, c2, c3, c4, c5, c6, c7, c8], _ => exact ⟨c0, c1, c2, c3, c4, c5, c6, c7, c8, rfl⟩
theorem tb_cellsI64 : Try.prog.cellsOf 2 = 1 := by kernel_rfl
theorem tb_cellsU64 : Try.prog.cellsOf 23 = 1 := by kernel_rfl
theorem tb_cellsInt : Try.prog.cellsOf 3 = 1 := by kernel_rfl
theorem tb_wfU {n : Int} (h : (Lit.int .u64 n).wf = true) : 0 ≤ n ∧ n < 18446744073709551616 := by
  simp [Lit.wf, IntKind.min, IntKind.max, IntKind.signed, IntKind.bits] at h
  omega
theorem tb_wfI {n : Int} (h : (Lit.int .i64 n).wf = true) : -9223372036854775808 ≤ n ∧ n ≤ 9223372036854775807 := by
  simp [Lit.wf, IntKind.min, IntKind.max, IntKind.signed, IntKind.bits] at h
  omega
set_option maxRecDepth 100000 in
theorem ticket_in {H : Type} {enc : TypeId × Value → H} {w : World} {base b0 : Nat} {r : Reach} {sp : Nat → Bool} {held : Bool} {v : Value} {d : DataW H} {p : List MemPlace}
    (hv : Value.okWide Try.prog w r b0 25 v) (h : DataW.Trod enc Try.prog w base sp held 25 v d p) :
    ∃ id cn st lv ge fr lf du tl, v = tkV id cn st lv ge fr lf du tl ∧ (0 ≤ id ∧ id < 18446744073709551616) ∧ (0 ≤ ge ∧ ge < 18446744073709551616) ∧ fr ≤ 9223372036854775807 := by
  obtain ⟨cs, rfl, hsz⟩ := Go.WideShapes.okWide_struct Try.underlying25 hv
  obtain ⟨c0, c1, c2, c3, c4, c5, c6, c7, c8, rfl⟩ := array9 (hsz.trans (by kernel_rfl))
  obtain ⟨fuel, hf⟩ := h
  obtain ⟨xs, n, _, _, hlen, hxl, hg⟩ := DataW.trod_struct Try.underlying25 hf
  have g0 := hg 0 _ rfl
  have g1 := hg 1 _ rfl
  have g2 := hg 2 _ rfl
  have g3 := hg 3 _ rfl
  have g4 := hg 4 _ rfl
  have g5 := hg 5 _ rfl
  have g6 := hg 6 _ rfl
  have g7 := hg 7 _ rfl
  have g8 := hg 8 _ rfl
  simp [Value.cells, tb_cellsI64, tb_cellsU64, tb_cellsInt] at g0 g1 g2 g3 g4 g5 g6 g7 g8
  have hx2 : xs.length = 9 := hxl
  rw [List.getElem?_eq_getElem (by omega)] at g0 g1 g2 g3 g4 g5 g6 g7 g8
  obtain ⟨id, e0, _, w0⟩ := DataW.trod_int Try.underlying23 g0
  obtain ⟨cn, e1, _, w1⟩ := DataW.trod_int Try.underlying3 g1
  obtain ⟨st, e2, _, w2⟩ := DataW.trod_int Try.underlying3 g2
  obtain ⟨lv, e3, _, w3⟩ := DataW.trod_int Try.underlying3 g3
  obtain ⟨ge, e4, _, w4⟩ := DataW.trod_int Try.underlying23 g4
  obtain ⟨fr, e5, _, w5⟩ := DataW.trod_int Try.underlying2 g5
  obtain ⟨lf, e6, _, w6⟩ := DataW.trod_int Try.underlying2 g6
  obtain ⟨du, e7, _, w7⟩ := DataW.trod_int Try.underlying2 g7
  obtain ⟨tl, e8, _, w8⟩ := DataW.trod_int Try.underlying3 g8
  simp only [List.cons.injEq, and_true] at e0 e1 e2 e3 e4 e5 e6 e7 e8
  subst e0 e1 e2 e3 e4 e5 e6 e7 e8
  exact ⟨id, cn, st, lv, ge, fr, lf, du, tl, rfl, tb_wfU w0, tb_wfU w4, (tb_wfI w5).2⟩
/-- A row of bytes that came in. -/
def BSc (cap : Nat) (w : World) (a : Option Addr) (len : Nat) (bs : List Nat) : Prop := bs.length = len ∧ (len ≤ 140737488351232 → RB w (.slice a len cap) bs)
set_option maxRecDepth 100000 in
theorem bytes_in {H : Type} {enc : TypeId × Value → H} {w : World} {base : Nat} {sp : Nat → Bool} {held : Bool} {fuel : Nat} {a : Option Addr} {n cap : Nat} {x : DataW H × List MemPlace}
    (h : DataW.trod enc Try.prog w base sp held fuel 35 (Value.slice a n cap).cells.toList = some x) :
    ∃ bs, BSc cap w a n bs := by
  rcases Deep.open_slice Try.underlying35 h with ⟨hcs, _⟩ | ⟨x, l, c, m, nn, D, Pl, hcs, _, hl, hm, hmm, _, hi⟩
  · simp [Value.cells] at hcs
    obtain ⟨rfl, rfl, rfl⟩ := hcs
    exact ⟨[], rfl, fun _ => RB.nil w⟩
  · simp [Value.cells] at hcs
    obtain ⟨rfl, rfl, rfl⟩ := hcs
    have hlm : n ≤ m := by rw [hmm]; split <;> omega
    have cellsB : Try.prog.cellsOf 5 = 1 := by kernel_rfl
    have key : ∀ i, i < n → ∃ t : Nat, w.cell? (x.add i) = some (.int .u8 (t : Int)) ∧ t < 256 := by
      intro i hil
      obtain ⟨cs', hc, ht⟩ := hi i (by omega)
      obtain ⟨f, e0, _, w0⟩ := DataW.trod_int Try.underlying5 ht
      subst e0
      rw [cellsB] at hc
      obtain ⟨_, hcl, hat⟩ := World.cells?_some hc
      have hb := wf_u8 w0
      refine ⟨f.toNat, ?_, by omega⟩
      have h1 := hat 0 (by omega)
      rw [Deep.add_add] at h1
      have e : ((f.toNat : Nat) : Int) = f := by omega
      rw [e]
      simpa using h1
    obtain ⟨f, hf⟩ := Deep.choose_lt key
    refine ⟨(List.range n).map f, by simp, fun hn => ⟨fun c hc => ?_, by simpa using hn, .inr ⟨x, cap, by simp, by simpa using hl, hm, fun i hi' => ?_⟩⟩⟩
    · obtain ⟨i, hi', rfl⟩ := List.mem_map.1 hc
      exact (hf i (by simpa using hi')).2
    · have hin : i < n := by simpa using hi'
      rw [(hf i hin).1]
      simp [hin]
end Go.Proofs.Ytnhaakdjijjinaa

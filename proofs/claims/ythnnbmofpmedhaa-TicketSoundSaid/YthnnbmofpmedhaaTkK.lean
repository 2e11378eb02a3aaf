/- How a row of acts reads; TicketSound for every input. -/
import Derived.Test.YthnnbmofpmedhaaTkJ
namespace Go.Proofs.Ythnnbmofpmedhaa
open Go.RowKit
theorem cellsAct : Try.prog.cellsOf 73 = 2 := by kernel_rfl
theorem cellsU32 : Try.prog.cellsOf 71 = 1 := by kernel_rfl
theorem bounds_u32 {n : Int} (h : (Lit.int .u32 n).wf = true) : 0 ≤ n ∧ n ≤ 4294967295 := by
  have h' : IntKind.u32.min ≤ n ∧ n ≤ IntKind.u32.max := by simpa [Lit.wf] using h
  have e0 : IntKind.u32.min = 0 := by decide
  have e1 : IntKind.u32.max = 4294967295 := by decide
  omega
set_option maxRecDepth 100000 in
theorem act_cells {H : Type} {enc : TypeId × Value → H} {w : World} {base : Nat} {sp : Nat → Bool} {held : Bool} {fuel : Nat} {cs : List Value} {x : DataW H × List MemPlace}
    (h : DataW.trod enc Try.prog w base sp held fuel 73 cs = some x) :
    ∃ f t, cs = [.int .i64 f, .int .u32 t] ∧ (Lit.int .i64 f).wf = true ∧ (Lit.int .u32 t).wf = true := by
  obtain ⟨xs, n, _, _, hlen, hxl, hg⟩ := DataW.trod_struct Try.underlying73 h
  rw [cellsAct] at hlen
  match cs, hlen with
  | [c0, c1], _ =>
    have g0 := hg 0 _ rfl
    have g1 := hg 1 _ rfl
    simp [cellsU32, cellsInt] at g0 g1
    have hx2 : xs.length = 2 := hxl
    rw [List.getElem?_eq_getElem (by omega)] at g0 g1
    obtain ⟨f, e0, _, w0⟩ := DataW.trod_int Try.underlying3 g0
    obtain ⟨t, e1, _, w1⟩ := DataW.trod_int Try.underlying71 g1
    simp only [List.cons.injEq, and_true] at e0 e1
    subst e0 e1
    exact ⟨f, t, rfl, w0, w1⟩
set_option maxRecDepth 100000 in
theorem acts_in {H : Type} {enc : TypeId × Value → H} {w : World} {base : Nat} {sp : Nat → Bool} {held : Bool} {fuel : Nat} {a : Option Addr} {n cap : Nat} {x : DataW H × List MemPlace}
    (h : DataW.trod enc Try.prog w base sp held fuel 64 (Value.slice a n cap).cells.toList = some x) : ∃ F T, Acts w a n F T := by
  rcases Deep.open_slice Try.underlying64 h with ⟨hcs, _⟩ | ⟨x, l, c, m, nn, D, Pl, hcs, _, hl, hm, hmm, _, hi⟩
  · simp [Value.cells] at hcs
    obtain ⟨rfl, rfl, rfl⟩ := hcs
    exact ⟨fun _ => 0, fun _ => 0, by simp, fun h => by omega⟩
  · simp [Value.cells] at hcs
    obtain ⟨rfl, rfl, rfl⟩ := hcs
    have hlm : n ≤ m := by rw [hmm]; split <;> omega
    have hex : 0 < n → x = ⟨x.block, x.off, none⟩ ∧ x.block < w.heap.size := by
      intro h0
      obtain ⟨cs', hc, ht⟩ := hi 0 (by omega)
      obtain ⟨_, _, rfl, _⟩ := act_cells ht
      rw [cellsAct] at hc
      obtain ⟨_, hcl, hat⟩ := World.cells?_some hc
      have e00 := cell_spot ((hat 0 (by omega)).trans (List.getElem?_cons_zero))
      have e0 := e00.1
      have e1 := e00.2
      rw [Deep.add_add] at e0 e1
      refine ⟨?_, by simpa [Addr.add] using e1⟩
      cases x; simp [Addr.add] at e0; simp [e0]
    have key : ∀ i, i < n → ∃ y : Int × Int, w.cell? ⟨x.block, x.off + i * 2, none⟩ = some (.int .i64 y.1) ∧ w.cell? ⟨x.block, x.off + i * 2 + 1, none⟩ = some (.int .u32 y.2) ∧ 0 ≤ y.2 ∧ y.2 ≤ 4294967295 := by
      intro i hil
      obtain ⟨cs', hc, ht⟩ := hi i (by omega)
      obtain ⟨f, t, rfl, wf, wt⟩ := act_cells ht
      rw [cellsAct] at hc
      obtain ⟨_, hcl, hat⟩ := World.cells?_some hc
      have bt := bounds_u32 wt
      have ex := (hex (by omega)).1
      refine ⟨⟨f, t⟩, ?_, ?_, ?_⟩
      · have h1 := hat 0 (by omega)
        rw [Deep.add_add, ex, add_at, ← Nat.add_assoc] at h1
        exact h1
      · have h1 := hat 1 (by omega)
        rw [Deep.add_add, ex, add_at, ← Nat.add_assoc] at h1
        exact h1
      · show 0 ≤ t ∧ t ≤ 4294967295
        omega
    obtain ⟨f, hf⟩ := Deep.choose_lt key
    exact ⟨fun i => (f i).1, fun i => (f i).2, by unfold maxLen at *; omega, fun h0 => ⟨x.block, x.off, by rw [← (hex h0).1], (hex h0).2, fun k hk => hf k hk⟩⟩
theorem ts_walk (off : Int) (a0 : Option Addr) (n0 ca0 : Nat) (b0 : Option Addr) (m0 cb0 : Nat) (F T G U : Nat → Int) (c : Int) (a : Option Addr) (n ca : Nat) (r b : Int) (B P : Nat → Int) (now : Int) (la : Option Addr) (ll lc : Nat) (KD WT : Nat → Int) (w : World) (hS0 : Sps w a0 n0 F T) (hR0 : Sps w b0 m0 G U) (hS : Sps w a n B P) (hA : Acts w la ll KD WT) :
    Calls Try.prog 8 #[calV off a0 n0 ca0 b0 m0 cb0, conV c a n ca r b, .int .i64 now, .slice la ll lc] w fun e w' => e = .returned (.bool true) ∧ Below w.heap.size w w' := by
  cases x0 : decide (n0 ≤ 60 ∧ m0 ≤ 60)
  · exact ts_skip0 off a0 n0 ca0 b0 m0 cb0 F T G U c a n ca r b B P now la ll lc KD WT w hS0 hR0 hS _ rfl x0
  cases x1 : decide (60 < (n : Int))
  case true => exact ts_skip1 off a0 n0 ca0 b0 m0 cb0 F T G U c a n ca r b B P now la ll lc KD WT w hS0 hR0 hS _ rfl x0 x1
  cases x2 : decide (60 < (ll : Int))
  case true => exact ts_skip2 off a0 n0 ca0 b0 m0 cb0 F T G U c a n ca r b B P now la ll lc KD WT w hS0 hR0 hS _ rfl x0 x1 x2
  cases x3 : (checkE off F T n0 G U m0 != 0)
  case true => exact ts_skip3 off a0 n0 ca0 b0 m0 cb0 F T G U c a n ca r b B P now la ll lc KD WT w hS0 hR0 hS _ rfl x0 x1 x2 x3
  cases x4 : goodC c n r b B P
  · exact ts_skip4 off a0 n0 ca0 b0 m0 cb0 F T G U c a n ca r b B P now la ll lc KD WT w hS0 hR0 hS _ rfl x0 x1 x2 x3 x4
  cases x5 : decide (now < 0)
  case true => exact ts_skip5 off a0 n0 ca0 b0 m0 cb0 F T G U c a n ca r b B P now la ll lc KD WT w hS0 hR0 hS _ rfl x0 x1 x2 x3 x4 x5
  cases x6 : decide (1125899906842624 < now)
  case true => exact ts_skip6 off a0 n0 ca0 b0 m0 cb0 F T G U c a n ca r b B P now la ll lc KD WT w hS0 hR0 hS _ rfl x0 x1 x2 x3 x4 x5 x6
  exact ts_ok off a0 n0 ca0 b0 m0 cb0 F T G U c a n ca r b B P now la ll lc KD WT w hS0 hR0 hS hA (by simpa using x3) x0 x1 x2 x4 x5 x6
end Go.Proofs.Ythnnbmofpmedhaa

/- The law DicePlay returns true for every input, and its arguments read afterwards as before. No further conditions. -/
import Derived.Test.YtfakgemifbgafaaDcN
import Derived.WalkKit
import Derived.ProofKit
import Derived.OpenShut
import Derived.ShutString
import Derived.ChangeOld
import Derived.Below
namespace Go.Proofs.Ytfakgemifbgafaa.dicePlay
open Go.ChangeShapes Go.WideShapes Go.ChangeAt Go.RowKit
open Go.ChangeMaps (open_string shut_string)
set_option linter.unusedVariables false

theorem own : ownKnob Try.prog.godebug = none := by kernel_rfl
theorem laidOut : laidOutB Try.prog = true := by kernel_rfl

set_option maxRecDepth 100000 in
/-- A slice that came in lies in a block that is there. -/
theorem slice_there68 {w : World} {base : Nat} {a : Option Addr} {n c : Nat} (h : Value.okWide Try.prog w .any base 68 (.slice a n c)) : ∀ k, w.heap.size ≤ k → (Value.slice a n c).ownBlock ≠ some k := by
  intro k hk e
  cases a with
  | none => simp [Value.ownBlock] at e
  | some x =>
    simp only [Value.ownBlock, Option.map_some, Option.some.injEq] at e
    simp only [Value.okWide, Try.underlying68, Cell.okWide, Cell.ok] at h
    obtain ⟨_, _, _, _, row, cells, hs, _⟩ := h
    have hx : w.heap[x.block]? = none := Array.getElem?_eq_none (by omega)
    simp [World.shape?, hx] at hs

theorem walk (a0 : Option Addr) (len0 cap0 : Nat) (z0 : List Int) (a1 : Option Addr) (len1 cap1 : Nat) (K1 M1 A1 B1 Lo1 Hi1 : Nat → Int) (w : World) (w0 : IsRow .u8 w a0 len0 cap0 z0) (h0 : ∀ j, w.heap.size ≤ j → (Value.slice a0 len0 cap0).ownBlock ≠ some j) (w1 : Asks w a1 len1 K1 M1 A1 B1 Lo1 Hi1) :
    Calls Try.prog 8 #[.slice a0 len0 cap0, .slice a1 len1 cap1] w fun e w' => e = .returned (.bool true) ∧ Below w.heap.size w w' := by
  have hm : len0 ≤ 9223372036854775807 := by
    rcases w0 with ⟨_, h, _, _⟩ | ⟨_, _, h1, h2, _⟩
    · omega
    · unfold maxLen at h2; omega
  have hm' : len1 ≤ 9223372036854775807 := by
    have := w1.1
    unfold maxLen at this; omega
  by_cases hl : len0 ≤ 3000 ∧ len1 ≤ 100
  · obtain ⟨hb, hn⟩ := w0.rb (by omega)
    exact dplay_ok a0 a1 len0 cap0 len1 cap1 _ K1 M1 A1 B1 Lo1 Hi1 w hb hn (fun k hk => Nat.lt_of_not_le fun h => h0 k h hk) hl.1 hl.2 w1.2
  · exact dplay_big a0 a1 len0 cap0 len1 cap1 w hm hm' (by omega)

set_option maxRecDepth 100000 in
theorem lifted (os : Os) (started : os.Started) (H : Type) (enc : TypeId × Value → H) :
    ReturnsInHanded {} Try.checked os 8 .any (Rows.dicePlaySpec.pre6 enc Try.prog Try.f8 Rows.dicePlayRow.domain false) (Rows.dicePlaySpec.post enc Try.prog Try.f8 false true false false) := by
  refine returnsInHanded_of_change (C := Try.checked) own started (by kernel_rfl) Try.func8
    (ChangeSpec.witness6 (enc := enc) (C := Try.checked) false ⟨#[], #[.slice none 0 0, .slice none 0 0], []⟩ 8 (by kernel_rfl) (by kernel_rfl) (by kernel_rfl) (by kernel_rfl)) ?_
  intro W base args ds gs before hval0 hW hcnd _
  have hval : ∀ (j : Nat) t v, Try.f8.params[j]? = some t → args[j]? = some v → Value.okWide Try.prog W .any base t v := hval0
  have hW' := hW
  obtain ⟨p, q, hA0, hV, rfl, hfz, hnd⟩ := hW
  have hA : DataW.TrodAll enc Try.prog W 0 (fun _ => true) true Try.f8.params.toList args.toList ds p := hA0
  rw [Try.params8] at hA hval
  obtain ⟨v0, vs0, d0, ds0, p0, q0, hargs, rfl, rfl, h0, r0⟩ := trodAll_cons hA
  obtain ⟨v1, vs1, d1, ds1, p1, q1, rfl, rfl, rfl, h1, r1⟩ := trodAll_cons r0
  obtain ⟨rfl, rfl, rfl⟩ := trodAll_nil r1
  obtain rfl : args = #[v0, v1] := by cases args; simp_all
  obtain ⟨rfl, rfl⟩ := trodVars_none hV
  obtain ⟨a0, len0, cap0, rfl⟩ := okWide_slice Try.underlying68 (hval 0 68 v0 rfl rfl)
  have k0 := h0
  have lt0 : ∀ x ∈ p0, x.block < W.heap.size := by obtain ⟨m, hm⟩ := k0; exact DataW.trod_lt m _ _ _ hm
  obtain ⟨z0, w0⟩ : ∃ zs, IsRow .u8 W a0 len0 cap0 zs := by
    obtain ⟨fuel, hf⟩ := h0
    rcases open_ints Try.underlying68 Try.underlying5 (by kernel_rfl) hf with ⟨hcs, _⟩ | ⟨x, l, c, zs, hcs, _, hl, hm, hz, _, hcell, hwz⟩
    · simp [Value.cells] at hcs
      obtain ⟨rfl, rfl, rfl⟩ := hcs
      exact ⟨[], .inl ⟨rfl, rfl, rfl, rfl⟩⟩
    · simp [Value.cells] at hcs
      obtain ⟨rfl, rfl, rfl⟩ := hcs
      exact ⟨zs, .inr ⟨_, rfl, hl, hm, by simpa using hz, hcell, hwz⟩⟩
  obtain ⟨a1, len1, cap1, rfl⟩ := okWide_slice Try.underlying69 (hval 1 69 v1 rfl rfl)
  have k1 := h1
  have lt1 : ∀ x ∈ p1, x.block < W.heap.size := by obtain ⟨m, hm⟩ := k1; exact DataW.trod_lt m _ _ _ hm
  obtain ⟨K1, M1, A1, B1, Lo1, Hi1, w1⟩ : ∃ K M A B Lo Hi, Asks W a1 len1 K M A B Lo Hi := by
    obtain ⟨fuel, hf⟩ := h1
    exact asks_in hf
  clear hA0 hval0
  refine (walk a0 len0 cap0 z0 a1 len1 cap1 K1 M1 A1 B1 Lo1 Hi1 W w0 (slice_there68 (hval 0 68 _ rfl rfl)) w1).mono fun e W' ⟨he, bel⟩ => ?_
  subst he
  exact ⟨_, rfl, _, _, _, [], _, [], hW', trodAll_mk1 (shut_bool Try.underlying4 _), (trodAll_cons_mk (Below.trod laidOut (by kernel_rfl) (of_decide_eq_true (by kernel_rfl)) k0 bel lt0) (trodAll_cons_mk (Below.trod laidOut (by kernel_rfl) (of_decide_eq_true (by kernel_rfl)) k1 bel lt1) trodAll_mk0)), rfl, bel.frame _, fun h => by cases h⟩

theorem over : Rows.dicePlayRow.holds Try.pinned (OpenSpec.ofChange Rows.dicePlaySpec) :=
  OpenClaim.holds_of_wide 8 Try.f8 rfl rfl rfl rfl rfl rfl rfl ⟨rfl, rfl, rfl, rfl, rfl⟩ rfl rfl rfl rfl rfl (by kernel_rfl) Try.func8 (by kernel_rfl)
    (of_decide_eq_true (by kernel_rfl)) (by unfold Func.isWrapper; first | (rw [if_pos (by decide +kernel)]; kernel_rfl) | (rw [if_neg (by decide +kernel)]; exact ⟨rfl, rfl⟩))
    (fun os started H enc _ => lifted os started H enc)

theorem proved : Rows.DicePlaySaid := over
#print axioms proved
end Go.Proofs.Ytfakgemifbgafaa.dicePlay

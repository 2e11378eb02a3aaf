/- A range over a function that hands out a kind and bytes each time: what the loop owes, and what its function owes. The bytes that a round is handed can be read in the world of that round. -/
import Derived.Test.YteehglaadofidaaFrE
import Derived.RangeFuncNested
import Derived.RangeFuncBound
import Derived.RangeFuncCalls
import Derived.RangeFuncLeaves
import Derived.Shelf.Abstract
import Derived.Shelf.RegionOpen
import Derived.WalkKit
import Derived.OwnWalkIn
import Derived.TacticsInMore
import Derived.LoopNIn
import Derived.LoopIn
namespace Go.Proofs.Yteehglaadofidaa
open Go.RowKit Go.Shelf

/-- All blocks but those of X lie as they lay. -/
structure Kept (X : Nat → Prop) (W W' : World) : Prop where
  size : W.heap.size ≤ W'.heap.size
  block : ∀ b, b < W.heap.size → ¬ X b → W'.heap[b]? = W.heap[b]?
theorem Kept.refl (X : Nat → Prop) (W : World) : Kept X W W := ⟨Nat.le_refl _, fun _ _ _ => rfl⟩
theorem Kept.trans {X : Nat → Prop} {A B C : World} (h : Kept X A B) (k : Kept X B C) : Kept X A C :=
  ⟨Nat.le_trans h.size k.size, fun b hb hx => (k.block b (Nat.lt_of_lt_of_le hb h.size) hx).trans (h.block b hb hx)⟩
theorem Kept.more {X Y : Nat → Prop} {A B : World} (h : Kept X A B) (hxy : ∀ b, X b → Y b) : Kept Y A B := ⟨h.size, fun b hb hy => h.block b hb (fun hx => hy (hxy b hx))⟩
theorem Kept.below {X : Nat → Prop} {W W' : World} (h : Below W.heap.size W W') : Kept X W W' := ⟨h.size, fun b hb _ => h.block b hb⟩
theorem Kept.putObj {X : Nat → Prop} (W : World) (l : Nat) (o : Obj) (hl : X l) : Kept X W (W.putObj l o) :=
  ⟨by simp, fun b _ hx => World.putObj_heap_other (fun e => hx (e ▸ hl))⟩
theorem Kept.setCell {X : Nat → Prop} (W : World) (p : Addr) (v : Value) (hl : X p.block) : Kept X W (W.setCell p v) :=
  ⟨by simp, fun b _ hx => Below.heap_setCell _ _ _ _ (fun e => hx (e ▸ hl))⟩
theorem RB.keptX {X : Nat → Prop} {W W' : World} {v : Value} {bs : List Nat} (h : RB W v bs) (hk : Kept X W W') (hv : ∀ b, v.ownBlock = some b → ¬ X b) : RB W' v bs := by
  obtain ⟨h1, h2, h3⟩ := h
  refine ⟨h1, h2, ?_⟩
  rcases h3 with h3 | ⟨x, cap, rfl, ha, hm, hc⟩
  · exact .inl h3
  · refine .inr ⟨x, cap, rfl, ha, hm, fun i hi => ?_⟩
    have hbk : (x.add i).block = x.block := by unfold Addr.add; split <;> rfl
    have hlt := (cell_spot (hc i hi)).2
    rw [World.cell?_of_block (hk.block (x.add i).block hlt (by rw [hbk]; exact hv _ rfl))]
    exact hc i hi
/-- A turn of a block that holds no cells turns no bytes. -/
theorem RB.putObj {W : World} {v : Value} {bs : List Nat} (h : RB W v bs) {l : Nat} {o : Obj} (o' : Obj) (hl : W.heap[l]? = some o) (ho : o.isCells = false) : RB (W.putObj l o') v bs := by
  obtain ⟨h1, h2, h3⟩ := h
  refine ⟨h1, h2, ?_⟩
  rcases h3 with h3 | ⟨x, cap, rfl, ha, hm, hc⟩
  · exact .inl h3
  · exact .inr ⟨x, cap, rfl, ha, hm, fun i hi => cell_kept (hc i hi) (grownBy_putObj' W l o') (fun r e => by cases e; exact ⟨o, hl, ho⟩)⟩
theorem below_putObj {B : Nat} (W : World) (l : Nat) (o : Obj) (hl : B ≤ l) : Below B W (W.putObj l o) :=
  ⟨rfl, rfl, rfl, by simp, fun k hk => World.putObj_heap_other (by omega)⟩

/-- What yield owes the function that calls it: round k takes row k, and says 'on'. -/
def Yielding (l : Nat) (X : Nat → Prop) (rows : List (Nat × List Nat)) (J : Nat → World → Prop) : Prop :=
  ∀ (k kd : Nat) (body : List Nat) (u : Value) (W : World), rows[k]? = some (kd, body) → J k W → RB W u body →
    YieldAt Fence.wide 1 Try.prog l #[.int .u8 (kd : Int), u] W fun e W' => e = .returned (.bool true) ∧ J (k + 1) W' ∧ Kept X W W'
/-- What the function owes the loop. -/
def Handing (gf : Nat) (lb : Array Value) (rows : List (Nat × List Nat)) (X : Nat → Prop) (w : World) : Prop :=
  ∀ (J : Nat → World → Prop), (∀ k V V', J k V → Below V.heap.size V V' → J k V') → ∀ (l : Nat) (W : World), w.heap.size < l → Below w.heap.size w W →
    Yielding l (fun b => X b ∨ b = l) rows J → J 0 W → CallsIn Fence.wide 2 Try.prog gf (#[.func (.yield l) #[] #[]] ++ lb) W fun e W' => (∃ v, e = .returned v) ∧ J rows.length W'
/-- How a round is left: on. -/
def OnlyOn (X : Nat → Prop) (I : World → Prop) (W : World) : Exit → Act → World → Prop
  | .normal, _, W' => KeepsOthers W W' ∧ Kept X W W' ∧ I W'
  | _, _, _ => False

theorem range_rows {g : Operand} {ps : Array Tmp} {assign body : Code} {Q : Exit → Act → World → Prop} {a : Act} {w : World} {gf : Nat} {lb : Array Value}
    (hg : a.eval g = .func (.func gf) #[] lb) (eg : ∀ args w, (callFunc gf args).run Try.prog w = .ok (.enter gf args) w)
    (rows : List (Nat × List Nat)) (X : Nat → Prop) (hiter : Handing gf lb rows X w)
    (I : Nat → World → Prop) (hI : ∀ k V V', I k V → Below w.heap.size V V' → I k V') (h0 : I 0 w) (hps : ps.size = 2) (a₁ : Nat → Value → Act)
    (hassign : ∀ (l kd : Nat) (u : Value) (W : World) (K : Act → World → Prop), K (a₁ kd u) W →
      assign.wpIn (Fence.wide.inRound l) 1 Try.prog (Exit.then K (fun _ _ _ => False)) { tmps := (ps.zip #[.int .u8 (kd : Int), u]).foldl (fun t (p, v) => t.setIfInBounds p v) a.tmps, defers := [] } W)
    (hbody : ∀ (l k kd : Nat) (bs : List Nat) (u : Value) (W : World), rows[k]? = some (kd, bs) → I k W → RB W u bs → body.wpIn (Fence.wide.inRound l) 1 Try.prog (OnlyOn X (I (k + 1)) W) (a₁ kd u) W)
    (hdone : ∀ (W : World), I rows.length W → W.heap[w.heap.size]? = some (.deferred (some [])) → Q .normal { a with defers := { target := .collected w.heap.size, args := #[] } :: a.defers } W) :
    (Code.rangeFunc g ps assign body).wpIn Fence.wide 3 Try.prog Q a w := by
  refine wpIn_rangeFunc fun fn _ => ?_
  obtain ⟨B, hB⟩ : ∃ B, w.heap.size = B := ⟨_, rfl⟩
  rw [hB] at hI hdone
  obtain ⟨rec, hrec⟩ : ∃ rec : LoopState → Loop, rec = fun st => { state := st, pending := none, fn, tmps := a.tmps, params := ps, assign, body, defers := B } := ⟨_, rfl⟩
  have hst : ∀ st, ({ rec .ready with state := st } : Loop) = rec st := fun st => by rw [hrec]
  have start := run_enterLoop_outer (P := Try.prog) (w := w) fn a.tmps ps assign body
  rw [hB] at start
  obtain ⟨W1, hW1⟩ : ∃ W1, (w.alloc (.deferred (some []))).alloc (.loop (rec .ready)) = W1 := ⟨_, rfl⟩
  have start' : (Instr.enterLoop fn a.tmps ps assign body Fence.wide.round).run Try.prog w = .ok (B + 1, [{ target := .collected B, args := #[] }]) W1 := by
    rw [← hW1, hrec]; exact start
  have hlt : (w.alloc (.deferred (some []))).heap.size = B + 1 := by rw [World.size_alloc, hB]
  have hL : W1.heap[B + 1]? = some (.loop (rec .ready)) := by
    have := World.alloc_heap_new (w.alloc (.deferred (some []))) (.loop (rec .ready)); rw [hlt, hW1] at this; exact this
  have hD : W1.heap[B]? = some (.deferred (some [])) := by
    rw [← hW1, Below.heap_alloc _ _ _ (by omega), ← hB]; exact World.alloc_heap_new w _
  have hbW : Below B w W1 := by
    rw [← hW1]
    exact ((Below.refl B w).alloc (by omega) _).alloc (by omega) _
  -- the call's own invariant, and the loop's record and block beside it
  let J : Nat → World → Prop := fun k V => I k V ∧ V.heap[B + 1]? = some (.loop (rec .ready)) ∧ V.heap[B]? = some (.deferred (some []))
  have hJ : ∀ k V V', J k V → Below V.heap.size V V' → J k V' := fun k V V' ⟨h1, h2, h3⟩ hb => by
    have s2 := (Array.getElem?_eq_some_iff.1 h2).1
    exact ⟨hI k V V' h1 (hb.mono (by omega)), (hb.block _ s2).trans h2, (hb.block _ (by omega)).trans h3⟩
  have hY : Yielding (B + 1) (fun b => X b ∨ b = B + 1) rows J := by
    rintro k kd bs u W hrow ⟨h1, h2, h3⟩ hu
    have hy := run_yield (P := Try.prog) (args := #[.int .u8 (kd : Int), u]) h2 (by rw [hrec]; exact hps.symm)
    refine ⟨_, _, _, _, hy, roundIn_of_wpIn trivial ?_⟩
    rw [hrec]
    refine hassign (B + 1) kd u W _ ⟨_, run_beginRound h2 (by rw [hrec]), ?_⟩
    rw [hst]
    have s2 := (Array.getElem?_eq_some_iff.1 h2).1
    have g2 : (W.putObj (B + 1) (.loop (rec .busy))).heap[B + 1]? = some (.loop (rec .busy)) := World.putObj_heap_same s2
    have g3 : (W.putObj (B + 1) (.loop (rec .busy))).heap[B]? = some (.deferred (some [])) := (World.putObj_heap_other (by omega)).trans h3
    refine wpIn_mono (hbody (B + 1) k kd bs u _ hrow (hI k _ _ h1 (below_putObj W _ _ (by omega))) (hu.putObj _ h2 rfl)) ?_
    rintro e a3 W3 hp
    cases e with
    | normal =>
      obtain ⟨hk, hx, hi⟩ := hp
      have k2 := hk.same _ _ g2 rfl
      have k3 := hk.same _ _ g3 rfl
      have hend := run_endRound (P := Try.prog) none k2
      have hfin : ({ rec .busy with state := if (none : Option Code).isNone then LoopState.ready else LoopState.done, pending := none } : Loop) = rec .ready := by rw [hrec]; rfl
      rw [hfin] at hend
      have s3 := (Array.getElem?_eq_some_iff.1 k2).1
      refine ⟨_, _, hend, rfl, ⟨hI _ _ _ hi (below_putObj W3 _ _ (by omega)), World.putObj_heap_same s3, (World.putObj_heap_other (by omega)).trans k3⟩, ?_⟩
      exact ((Kept.putObj W _ _ (.inr rfl)).trans (hx.more fun b hb => .inl hb)).trans (Kept.putObj W3 _ _ (.inr rfl))
    | ret => exact hp.elim
    | exit id => exact hp.elim
    | goto t => exact hp.elim
    | panic ch => exact hp.elim
    | outgrown => exact hp.elim
  refine ⟨B + 1, [{ target := .collected B, args := #[] }], W1, { target := .fn (.func gf) lb, args := #[.func (.yield (B + 1)) #[] #[]] }, W1, gf, #[.func (.yield (B + 1)) #[] #[]] ++ lb, W1, start', ?_, fun _ _ => trivial, ?_, fun _ => by omega, ?_⟩
  · simp only [resolve, hg]
    simp [go_sem]
  · simp [invoke, go_sem, eg]
  · refine (hiter J hJ (B + 1) W1 (by omega) (by rw [hB]; exact hbW) hY ⟨hI 0 _ _ h0 hbW, hL, hD⟩).mono ?_
    rintro e W2 ⟨⟨v, rfl⟩, h1, h2, h3⟩
    have hend := run_endLoop (P := Try.prog) h2 (by rw [hrec]; simp)
    have hp : (rec .ready).pending = none := by rw [hrec]
    rw [hp] at hend
    exact ⟨none, _, hend, hdone _ (hI _ _ _ h1 (below_putObj W2 _ _ (by omega))) ((World.putObj_heap_other (by omega)).trans h3)⟩
end Go.Proofs.Yteehglaadofidaa

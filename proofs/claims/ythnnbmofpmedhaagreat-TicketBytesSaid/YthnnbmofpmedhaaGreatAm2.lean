import Derived.Test.YthnnbmofpmedhaaGreatOw1
import Derived.RangeFuncNested
import Derived.RangeFuncBound
import Derived.RangeFuncCalls
import Derived.RangeFuncLeaves
import Derived.Shelf.Abstract
import Derived.Shelf.RegionOpen
import Derived.OwnWalkIn
import Derived.TacticsInMore
import Derived.LoopNIn
import Derived.LoopIn
import Derived.Outline
import Derived.Test.YthnnbmofpmedhaaGreatSp1
namespace Go.Proofs.YthnnbmofpmedhaaGreat
open Go.RowKit
/- A range over a function that hands out spans: what the loop owes, and what its function owes; rounds may leave the loop. -/
open Go.RowKit Go.Shelf

/-- All blocks but those of X lie as they lay. -/
structure Kept (X : Nat → Prop) (W W' : World) : Prop where
  size : W.heap.size ≤ W'.heap.size
  block : ∀ b, b < W.heap.size → ¬ X b → W'.heap[b]? = W.heap[b]?
theorem Kept.refl (X : Nat → Prop) (W : World) : Kept X W W := ⟨Nat.le_refl _, fun _ _ _ => rfl⟩
theorem Kept.trans {X : Nat → Prop} {A B C : World} (h : Kept X A B) (k : Kept X B C) : Kept X A C :=
  ⟨Nat.le_trans h.size k.size, fun b hb hx => (k.block b (Nat.lt_of_lt_of_le hb h.size) hx).trans (h.block b hb hx)⟩
theorem Kept.more {X Y : Nat → Prop} {A B : World} (h : Kept X A B) (hxy : ∀ b, X b → Y b) : Kept Y A B := ⟨h.size, fun b hb hy => h.block b hb (fun hx => hy (hxy b hx))⟩
theorem Kept.below {X : Nat → Prop} {W W' : World} (h : Below W.heap.size W W') : Kept X W W' := ⟨h.size, fun b hb _ => h.block b hb⟩
theorem Kept.only {X : Nat → Prop} {W W' : World} (h : Only X W W') : Kept X W W' := ⟨h.size, h.block⟩
theorem Kept.putObj {X : Nat → Prop} (W : World) (l : Nat) (o : Obj) (hl : X l) : Kept X W (W.putObj l o) :=
  ⟨by simp, fun b _ hx => World.putObj_heap_other (fun e => hx (e ▸ hl))⟩
theorem Kept.setCell {X : Nat → Prop} (W : World) (p : Addr) (v : Value) (hl : X p.block) : Kept X W (W.setCell p v) :=
  ⟨by simp, fun b _ hx => Below.heap_setCell _ _ _ _ (fun e => hx (e ▸ hl))⟩
theorem Kept.cell {X : Nat → Prop} {W W' : World} (h : Kept X W W') {p : Addr} (hp : p.block < W.heap.size) (hx : ¬ X p.block) : W'.cell? p = W.cell? p := World.cell?_of_block (h.block _ hp hx)
theorem Sps.keptX {X : Nat → Prop} {w w' : World} {a : Option Addr} {n : Nat} {F T : Nat → Int} (h : Sps w a n F T) (o : Kept X w w') (hx : ∀ x, 0 < n → a = some x → ¬ X x.block) : Sps w' a n F T := by
  refine ⟨h.1, fun hp => ?_⟩
  obtain ⟨ab, ao, e, hl, hc⟩ := h.2 hp
  have hn : ¬ X ab := hx _ hp e
  exact ⟨ab, ao, e, Nat.lt_of_lt_of_le hl o.size, fun k hk => ⟨(o.cell (p := ⟨ab, ao + k * 2, none⟩) hl hn).trans (hc k hk).1, (o.cell (p := ⟨ab, ao + k * 2 + 1, none⟩) hl hn).trans (hc k hk).2.1, (hc k hk).2.2⟩⟩

/-- All cells, and all blocks below B, lie as they lay. -/
structure Tame (B : Nat) (V V' : World) : Prop where
  os : V'.os = V.os
  tape : V'.tape = V.tape
  output : V'.output = V.output
  size : V.heap.size ≤ V'.heap.size
  block : ∀ b o, V.heap[b]? = some o → (o.isCells = true ∨ b < B) → V'.heap[b]? = some o
theorem Tame.below {B : Nat} {V V' : World} (h : Tame B V V') (hB : B ≤ V.heap.size) : Below B V V' :=
  ⟨h.os, h.tape, h.output, h.size, fun k hk => by
    have hlt : k < V.heap.size := by omega
    obtain ⟨o, ho⟩ : ∃ o, V.heap[k]? = some o := ⟨_, Array.getElem?_eq_getElem hlt⟩
    rw [ho]; exact h.block k o ho (.inr hk)⟩
theorem Tame.belowLe {B B' : Nat} {V V' : World} (h : Tame B V V') (hB : B' ≤ B) (hV : B' ≤ V.heap.size) : Below B' V V' :=
  ⟨h.os, h.tape, h.output, h.size, fun k hk => by
    have hlt : k < V.heap.size := by omega
    obtain ⟨o, ho⟩ : ∃ o, V.heap[k]? = some o := ⟨_, Array.getElem?_eq_getElem hlt⟩
    rw [ho]; exact h.block k o ho (.inr (by omega))⟩
theorem Tame.of_below {B : Nat} {V V' : World} (h : Below V.heap.size V V') : Tame B V V' :=
  ⟨h.os, h.tape, h.output, h.size, fun b o ho _ => (h.block b (Array.getElem?_eq_some_iff.1 ho).1).trans ho⟩
theorem Tame.trans {B : Nat} {A V V' : World} (h : Tame B A V) (k : Tame B V V') : Tame B A V' :=
  ⟨k.os.trans h.os, k.tape.trans h.tape, k.output.trans h.output, Nat.le_trans h.size k.size, fun b o ho hb => k.block b o (h.block b o ho hb) hb⟩
theorem Tame.putObj {B : Nat} (V : World) {l : Nat} {o : Obj} (o' : Obj) (hl : V.heap[l]? = some o) (ho : o.isCells = false) (hB : B ≤ l) : Tame B V (V.putObj l o') :=
  ⟨rfl, rfl, rfl, by simp, fun b u hu hb => by
    by_cases e : b = l
    · subst e
      rw [hl] at hu
      injection hu with hu
      subst hu
      rcases hb with hb | hb
      · rw [ho] at hb; cases hb
      · omega
    · exact (World.putObj_heap_other e).trans hu⟩
theorem isCells_of_cell {V : World} {p : Addr} {v : Value} (h : V.cell? p = some v) : ∃ o, V.heap[p.block]? = some o ∧ o.isCells = true := by
  have hlt := (cell_spot h).2
  refine ⟨V.heap[p.block], Array.getElem?_eq_getElem hlt, ?_⟩
  have h2 : V.heap[p.block]? = some V.heap[p.block] := Array.getElem?_eq_getElem hlt
  cases hc : V.heap[p.block] with
  | cells vs t => rfl
  | _ => simp [World.cell?, h2, hc] at h
theorem Tame.cell {B : Nat} {V V' : World} (h : Tame B V V') {p : Addr} {v : Value} (hc : V.cell? p = some v) : V'.cell? p = some v := by
  obtain ⟨o, ho, hi⟩ := isCells_of_cell hc
  exact (World.cell?_of_block ((h.block _ o ho (.inl hi)).trans ho.symm)).trans hc
theorem Tame.frozen {B : Nat} {V V' : World} (h : Tame B V V') {p : Addr} {v : Value} (hc : V.cell? p = some v) : V'.frozen? p = V.frozen? p := by
  obtain ⟨o, ho, hi⟩ := isCells_of_cell hc
  exact World.frozen?_of_block ((h.block _ o ho (.inl hi)).trans ho.symm)
/-- A variable of one's own in a block. -/
def Var (W : World) (b : Nat) (v : Value) : Prop := W.cell? ⟨b, 0, none⟩ = some v ∧ W.frozen? ⟨b, 0, none⟩ = false
theorem Var.lt {W : World} {b : Nat} {v : Value} (h : Var W b v) : b < W.heap.size := (cell_spot h.1).2
theorem Var.tame {B : Nat} {W W' : World} {b : Nat} {v : Value} (h : Var W b v) (t : Tame B W W') : Var W' b v := ⟨t.cell h.1, (t.frozen h.1).trans h.2⟩
theorem Var.kept {W W' : World} {b : Nat} {v : Value} (h : Var W b v) (t : Below W.heap.size W W') : Var W' b v := h.tame (Tame.of_below (B := 0) t)
theorem Var.keptX {X : Nat → Prop} {W W' : World} {b : Nat} {v : Value} (h : Var W b v) (t : Kept X W W') (hx : ¬ X b) : Var W' b v :=
  ⟨(t.cell (p := ⟨b, 0, none⟩) h.lt hx).trans h.1, (World.frozen?_of_block (t.block _ h.lt hx)).trans h.2⟩
theorem Var.set {W : World} {b : Nat} {v : Value} (h : Var W b v) (u : Value) (hu : u.oneCell' = true) (hv : v.oneCell' = true) : Var (W.setCell ⟨b, 0, none⟩ u) b u :=
  ⟨World.cell?_setCell_same' _ _ _ (by rw [h.1]; rfl), (World.frozen?_setCell _ _ _ _).trans h.2⟩
theorem Var.other {W : World} {b c : Nat} {v : Value} (h : Var W b v) (hne : b ≠ c) (o : Nat) (u : Value) : Var (W.setCell ⟨c, o, none⟩ u) b v :=
  ⟨(World.cell?_of_block (Below.heap_setCell _ _ _ _ hne)).trans h.1, (World.frozen?_setCell _ _ _ _).trans h.2⟩
theorem Var.new (W : World) (v : Value) (t : TypeId) (hv : v.oneCell' = true) : Var (W.alloc (.cells #[v] t)) W.heap.size v := ⟨by simp, by simp⟩
theorem Sps.tame {B : Nat} {w w' : World} {a : Option Addr} {n : Nat} {F T : Nat → Int} (h : Sps w a n F T) (o : Tame B w w') : Sps w' a n F T := by
  refine ⟨h.1, fun hp => ?_⟩
  obtain ⟨ab, ao, e, hl, hc⟩ := h.2 hp
  exact ⟨ab, ao, e, Nat.lt_of_lt_of_le hl o.size, fun k hk => ⟨o.cell (hc k hk).1, o.cell (hc k hk).2.1, (hc k hk).2.2⟩⟩
theorem OS.tame {B : Nat} {w w' : World} {base : Nat} {v : Value} {l : List (Int × Int)} (h : OS w base v l) (o : Tame B w w') : OS w' base v l := by
  obtain ⟨h1, h2⟩ := h
  refine ⟨h1, ?_⟩
  rcases h2 with h2 | ⟨g, cap, cur, hv, hg, hh, r⟩
  · exact .inl h2
  · exact .inr ⟨g, cap, cur, hv, hg, o.block g _ hh (.inl rfl), r⟩

/-- What may turn: what lay in V, but for P. -/
def Turns (P : Nat → Prop) (V : World) (b : Nat) : Prop := ¬ P b ∧ b < V.heap.size
/-- What yield owes the function that calls it: round k takes span k, and says 'on', or 'enough'. V: where the caller's own invariant stood; what the function laid since then stays, and so does P. -/
def Yielding (l : Nat) (P : Nat → Prop) (rows : List (Int × Int)) (J : Nat → World → Prop) (Js : World → Prop) : Prop :=
  ∀ (k : Nat) (f t : Int) (V W : World), rows[k]? = some (f, t) → J k V → Below V.heap.size V W →
    YieldAt Fence.wide 1 Tryz.prog l #[.agg #[.int .i64 f, .int .i64 t]] W fun e W' => (∃ b, e = .returned (.bool b) ∧ (b = true → J (k + 1) W' ∧ Kept (Turns P V) W W') ∧ (b = false → Js W'))
/-- What the function owes the loop. -/
def Handing (gf : Nat) (lb : Array Value) (rows : List (Int × Int)) (P : Nat → Prop) (w : World) : Prop :=
  ∀ (J : Nat → World → Prop) (Js : World → Prop), (∀ k V V', J k V → Below V.heap.size V V' → J k V') → (∀ V V', Js V → Below V.heap.size V V' → Js V') → ∀ (l : Nat) (W : World), w.heap.size < l → Below w.heap.size w W →
    Yielding l P rows J Js → J 0 W → CallsIn Fence.wide 2 Tryz.prog gf (#[.func (.yield l) #[] #[]] ++ lb) W fun e W' => (∃ v, e = .returned v) ∧ (J rows.length W' ∨ Js W')
/-- How a round is left. -/
def Around (X : Nat → Prop) (I : World → Prop) (Ix : Code → World → Prop) (W : World) : Exit → Act → World → Prop
  | .normal, _, W' => KeepsOthers W W' ∧ Kept X W W' ∧ I W'
  | .ret, _, W' => KeepsOthers W W' ∧ Ix .ret W'
  | .exit id, _, W' => KeepsOthers W W' ∧ Ix (.exit id) W'
  | _, _, _ => False

theorem range_spans {g : Operand} {ps : Array Tmp} {assign body : Code} {Q : Exit → Act → World → Prop} {a : Act} {w : World} {gf : Nat} {lb : Array Value}
    (hg : a.eval g = .func (.func gf) #[] lb) (eg : ∀ args w, (callFunc gf args).run Tryz.prog w = .ok (.enter gf args) w)
    (rows : List (Int × Int)) (P : Nat → Prop) (hP : ∀ b, P b → b < w.heap.size) (hiter : Handing gf lb rows P w)
    (I : Nat → World → Prop) (Ix : Code → World → Prop) (hI : ∀ k V V', I k V → Tame w.heap.size V V' → I k V') (hIx : ∀ c V V', Ix c V → Tame w.heap.size V V' → Ix c V') (h0 : I 0 w) (hps : ps.size = 1) (a₁ : Int → Int → Nat → Act)
    (hassign : ∀ (l : Nat) (f t : Int) (W : World) (K : Act → World → Prop), K (a₁ f t W.heap.size) (W.alloc (.cells #[.int .i64 f, .int .i64 t] 61)) →
      assign.wpIn (Fence.wide.inRound l) 1 Tryz.prog (Exit.then K (fun _ _ _ => False)) { tmps := (ps.zip #[.agg #[.int .i64 f, .int .i64 t]]).foldl (fun t (p, v) => t.setIfInBounds p v) a.tmps, defers := [] } W)
    (hbody : ∀ (l k : Nat) (f t : Int) (c : Nat) (V W : World), rows[k]? = some (f, t) → I k V → Tame w.heap.size V W → W.cell? ⟨c, 0, none⟩ = some (.int .i64 f) → W.cell? ⟨c, 1, none⟩ = some (.int .i64 t) → V.heap.size ≤ c → body.wpIn (Fence.wide.inRound l) 1 Tryz.prog (Around (Turns P V) (I (k + 1)) Ix W) (a₁ f t c) W)
    (hdone : ∀ (W : World), I rows.length W → W.heap[w.heap.size]? = some (.deferred (some [])) → Q .normal { a with defers := { target := .collected w.heap.size, args := #[] } :: a.defers } W)
    (hstop : ∀ (c : Code) (W : World), Ix c W → W.heap[w.heap.size]? = some (.deferred (some [])) → c.wpIn Fence.wide 3 Tryz.prog Q { a with defers := { target := .collected w.heap.size, args := #[] } :: a.defers } W) :
    (Code.rangeFunc g ps assign body).wpIn Fence.wide 3 Tryz.prog Q a w := by
  refine wpIn_rangeFunc fun fn _ => ?_
  obtain ⟨B, hB⟩ : ∃ B, w.heap.size = B := ⟨_, rfl⟩
  rw [hB] at hI hIx hdone hstop hbody hP
  obtain ⟨rec, hrec⟩ : ∃ rec : LoopState → Option Code → Loop, rec = fun st pe => { state := st, pending := pe, fn, tmps := a.tmps, params := ps, assign, body, defers := B } := ⟨_, rfl⟩
  have start := run_enterLoop_outer (P := Tryz.prog) (w := w) fn a.tmps ps assign body
  rw [hB] at start
  obtain ⟨W1, hW1⟩ : ∃ W1, (w.alloc (.deferred (some []))).alloc (.loop (rec .ready none)) = W1 := ⟨_, rfl⟩
  have start' : (Instr.enterLoop fn a.tmps ps assign body Fence.wide.round).run Tryz.prog w = .ok (B + 1, [{ target := .collected B, args := #[] }]) W1 := by
    rw [← hW1, hrec]; exact start
  have hlt : (w.alloc (.deferred (some []))).heap.size = B + 1 := by rw [World.size_alloc, hB]
  have hL : W1.heap[B + 1]? = some (.loop (rec .ready none)) := by
    have := World.alloc_heap_new (w.alloc (.deferred (some []))) (.loop (rec .ready none)); rw [hlt, hW1] at this; exact this
  have hD : W1.heap[B]? = some (.deferred (some [])) := by
    rw [← hW1, Below.heap_alloc _ _ _ (by omega), ← hB]; exact World.alloc_heap_new w _
  have hbW : Below B w W1 := by
    rw [← hW1]
    exact ((Below.refl B w).alloc (by omega) _).alloc (by omega) _
  -- the call's own invariant, and the loop's record and block beside it
  let J : Nat → World → Prop := fun k V => I k V ∧ V.heap[B + 1]? = some (.loop (rec .ready none)) ∧ V.heap[B]? = some (.deferred (some []))
  let Js : World → Prop := fun V => ∃ c, Ix c V ∧ V.heap[B + 1]? = some (.loop (rec .done (some c))) ∧ V.heap[B]? = some (.deferred (some []))
  have hJ : ∀ k V V', J k V → Below V.heap.size V V' → J k V' := fun k V V' ⟨h1, h2, h3⟩ hb => by
    have s2 := (Array.getElem?_eq_some_iff.1 h2).1
    exact ⟨hI k V V' h1 (Tame.of_below hb), (hb.block _ s2).trans h2, (hb.block _ (by omega)).trans h3⟩
  have hJs : ∀ V V', Js V → Below V.heap.size V V' → Js V' := fun V V' ⟨c, h1, h2, h3⟩ hb => by
    have s2 := (Array.getElem?_eq_some_iff.1 h2).1
    exact ⟨c, hIx c V V' h1 (Tame.of_below hb), (hb.block _ s2).trans h2, (hb.block _ (by omega)).trans h3⟩
  have hY : Yielding (B + 1) P rows J Js := by
    rintro k f t V W hrow ⟨h1, h2, h3⟩ hVW
    have hV := h1
    have sV := (Array.getElem?_eq_some_iff.1 h2).1
    have htl : Turns P V (B + 1) := ⟨fun h => by have := hP _ h; omega, sV⟩
    have hVs := hVW.size
    have hTV := Tame.of_below (B := B) hVW
    replace h1 := hI k V W h1 hTV
    replace h2 := (hVW.block _ sV).trans h2
    replace h3 := (hVW.block _ (by omega)).trans h3
    have hy := run_yield (P := Tryz.prog) (args := #[.agg #[.int .i64 f, .int .i64 t]]) h2 (by rw [hrec]; exact hps.symm)
    refine ⟨_, _, _, _, hy, roundIn_of_wpIn trivial ?_⟩
    rw [hrec]
    have s2 := (Array.getElem?_eq_some_iff.1 h2).1
    refine hassign (B + 1) f t W _ ⟨_, run_beginRound (r := rec .ready none) ((Below.heap_alloc _ _ _ s2).trans h2) (by rw [hrec]), ?_⟩
    have hbA : Below W.heap.size W (W.alloc (.cells #[.int .i64 f, .int .i64 t] 61)) := (Below.refl _ _).alloc (Nat.le_refl _) _
    have e1 := (hbA.block _ s2).trans h2
    have e2 := (hbA.block _ (show B < W.heap.size by omega)).trans h3
    have c0 : (W.alloc (.cells #[.int .i64 f, .int .i64 t] 61)).cell? ⟨W.heap.size, 0, none⟩ = some (.int .i64 f) := by simp
    have c1 : (W.alloc (.cells #[.int .i64 f, .int .i64 t] 61)).cell? ⟨W.heap.size, 1, none⟩ = some (.int .i64 t) := by simp
    have hTA := hTV.trans (Tame.of_below (B := B) hbA)
    have hKA : Kept (Turns P V) W (W.alloc (.cells #[.int .i64 f, .int .i64 t] 61)) := Kept.below hbA
    have hcs : V.heap.size ≤ W.heap.size := hVs
    generalize W.heap.size = cb at c0 c1 hcs
    generalize W.alloc (.cells #[.int .i64 f, .int .i64 t] 61) = WA at *
    have hst : ({ rec .ready none with state := .busy } : Loop) = rec .busy none := by rw [hrec]
    rw [hst]
    have sA := (Array.getElem?_eq_some_iff.1 e1).1
    have hT := Tame.putObj (B := B) WA (.loop (rec .busy none)) e1 rfl (show B ≤ B + 1 by omega)
    have g2 : (WA.putObj (B + 1) (.loop (rec .busy none))).heap[B + 1]? = some (.loop (rec .busy none)) := World.putObj_heap_same sA
    have g3 : (WA.putObj (B + 1) (.loop (rec .busy none))).heap[B]? = some (.deferred (some [])) := (World.putObj_heap_other (by omega)).trans e2
    refine wpIn_mono (hbody (B + 1) k f t cb V _ hrow hV (hTA.trans hT) (hT.cell c0) (hT.cell c1) hcs) ?_
    have fin : ∀ (jump : Option Code) (W3 : World), KeepsOthers (WA.putObj (B + 1) (.loop (rec .busy none))) W3 →
        (Instr.endRound (B + 1) jump).run Tryz.prog W3 = .ok (.bool jump.isNone) (W3.putObj (B + 1) (.loop (rec (if jump.isNone then .ready else .done) jump))) ∧
        Tame B W3 (W3.putObj (B + 1) (.loop (rec (if jump.isNone then .ready else .done) jump))) ∧
        (W3.putObj (B + 1) (.loop (rec (if jump.isNone then .ready else .done) jump))).heap[B + 1]? = some (.loop (rec (if jump.isNone then .ready else .done) jump)) ∧
        (W3.putObj (B + 1) (.loop (rec (if jump.isNone then .ready else .done) jump))).heap[B]? = some (.deferred (some [])) := fun jump W3 hk3 => by
      have k2 := hk3.same _ _ g2 rfl
      have k3 := hk3.same _ _ g3 rfl
      have hend := run_endRound (P := Tryz.prog) jump k2
      have hfin : ({ rec .busy none with state := if jump.isNone then LoopState.ready else LoopState.done, pending := jump } : Loop) = rec (if jump.isNone then .ready else .done) jump := by rw [hrec]
      rw [hfin] at hend
      exact ⟨hend, Tame.putObj W3 _ k2 rfl (by omega), World.putObj_heap_same (Array.getElem?_eq_some_iff.1 k2).1, (World.putObj_heap_other (by omega)).trans k3⟩
    rintro e a3 W3 hp
    cases e with
    | normal =>
      obtain ⟨hk, hx, hi⟩ := hp
      obtain ⟨hr, ht, hl3, hd3⟩ := fin none W3 hk
      refine ⟨_, _, hr, true, rfl, fun _ => ⟨⟨hI _ _ _ hi ht, hl3, hd3⟩, ?_⟩, fun h => by cases h⟩
      exact hKA.trans (((Kept.putObj WA _ _ htl).trans hx).trans (Kept.putObj W3 _ _ htl))
    | ret =>
      obtain ⟨hk, hi⟩ := hp
      obtain ⟨hr, ht, hl3, hd3⟩ := fin (some .ret) W3 hk
      exact ⟨_, _, hr, false, rfl, fun h => (by cases h), fun _ => ⟨.ret, hIx _ _ _ hi ht, hl3, hd3⟩⟩
    | exit id =>
      obtain ⟨hk, hi⟩ := hp
      obtain ⟨hr, ht, hl3, hd3⟩ := fin (some (.exit id)) W3 hk
      exact ⟨_, _, hr, false, rfl, fun h => (by cases h), fun _ => ⟨.exit id, hIx _ _ _ hi ht, hl3, hd3⟩⟩
    | goto t => exact hp.elim
    | panic ch => exact hp.elim
    | outgrown => exact hp.elim
  refine ⟨B + 1, [{ target := .collected B, args := #[] }], W1, { target := .fn (.func gf) lb, args := #[.func (.yield (B + 1)) #[] #[]] }, W1, gf, #[.func (.yield (B + 1)) #[] #[]] ++ lb, W1, start', ?_, fun _ _ => trivial, ?_, fun _ => by omega, ?_⟩
  · simp only [resolve, hg]
    simp [go_sem]
  · simp [invoke, go_sem, eg]
  · refine (hiter J Js hJ hJs (B + 1) W1 (by omega) (by rw [hB]; exact hbW) hY ⟨hI 0 _ _ h0 (Tame.of_below (by rw [hB]; exact hbW)), hL, hD⟩).mono ?_
    rintro e W2 ⟨⟨v, rfl⟩, (⟨h1, h2, h3⟩ | ⟨c, h1, h2, h3⟩)⟩
    · have hend := run_endLoop (P := Tryz.prog) h2 (by rw [hrec]; simp)
      have hp : (rec .ready none).pending = none := by rw [hrec]
      rw [hp] at hend
      exact ⟨none, _, hend, hdone _ (hI _ _ _ h1 (Tame.putObj W2 _ h2 rfl (by omega))) ((World.putObj_heap_other (by omega)).trans h3)⟩
    · have hend := run_endLoop (P := Tryz.prog) h2 (by rw [hrec]; simp)
      have hp : (rec .done (some c)).pending = some c := by rw [hrec]
      rw [hp] at hend
      exact ⟨some c, _, hend, hstop c _ (hIx c _ _ h1 (Tame.putObj W2 _ h2 rfl (by omega))) ((World.putObj_heap_other (by omega)).trans h3)⟩
/- Free: the function that hands out what is not closed. -/
open Go.RowKit Go.Shelf
attribute [local go_sem] Oper.semAt_some

def gap (x y : Int) : List (Int × Int) := if x < y then [(x, y)] else []
/-- What is free from at up to to, the spans from the i-th on being closed, m of them. -/
def freeG (F T : Nat → Int) (to : Int) : Nat → Nat → Int → List (Int × Int)
  | 0, _, at_ => gap at_ to
  | m + 1, i, at_ => gap at_ (min to (F i)) ++ freeG F T to m (i + 1) (T i)
theorem gap_len (x y : Int) : (gap x y).length ≤ 1 := by unfold gap; split <;> simp
theorem freeG_len (F T : Nat → Int) (to : Int) : ∀ m i at_, (freeG F T to m i at_).length ≤ m + 1 := by
  intro m
  induction m with
  | zero => intro i a; exact gap_len _ _
  | succ m ih =>
    intro i a
    have := ih (i + 1) (T i)
    have := gap_len a (min to (F i))
    simp only [freeG, List.length_append]; omega
/-- The free spans of a range. -/
def freeL (F T : Nat → Int) (n : Nat) (x y : Int) : List (Int × Int) := freeG F T y (n - idx T x n) (idx T x n) x
theorem freeL_len (F T : Nat → Int) (n : Nat) (x y : Int) (hn : n ≤ 32) : (freeL F T n x y).length ≤ 33 := by
  have := freeG_len F T y (n - idx T x n) (idx T x n) x
  unfold freeL; omega
/-- Where the loop stands: behind the j-th of the spans from the i-th on. -/
def atJ (T : Nat → Int) (x : Int) (i : Nat) : Nat → Int
  | 0 => x
  | j + 1 => T (i + j)
theorem neq_gap (f t : Int) (h : f < t) (w : World) : (binOp .neq 61 (.agg #[.int .i64 f, .int .i64 t]) (.agg #[.int .i64 0, .int .i64 0])).run Tryz.prog w = .ok (.bool true) w := by
  rw [neq_span]
  have : (f == 0 && t == 0) = false := by
    cases h1 : f == 0 <;> cases h2 : t == 0 <;> simp_all
  rw [this]; rfl
theorem neq_zero (w : World) : (binOp .neq 61 (.agg #[.int .i64 0, .int .i64 0]) (.agg #[.int .i64 0, .int .i64 0])).run Tryz.prog w = .ok (.bool false) w := by
  rw [neq_span]; rfl

theorem betw_yes (x y : Int) (w : World) (h : x < y) : Calls Tryz.prog 86 #[.int .i64 x, .int .i64 y] w fun e w' => e = .returned (.agg #[.int .i64 x, .int .i64 y]) ∧ Below w.heap.size w w' :=
  (between_span x y w).mono (by
    rintro e w' ⟨u, v, rfl, rfl, rfl, hb⟩
    exact ⟨by rw [show gapF x y = x from if_neg (by omega), show gapT x y = y from if_neg (by omega)], hb⟩)
theorem betw_no (x y : Int) (w : World) (h : ¬ x < y) : Calls Tryz.prog 86 #[.int .i64 x, .int .i64 y] w fun e w' => e = .returned (.agg #[.int .i64 0, .int .i64 0]) ∧ Below w.heap.size w w' :=
  (between_span x y w).mono (by
    rintro e w' ⟨u, v, rfl, rfl, rfl, hb⟩
    exact ⟨by rw [show gapF x y = 0 from if_pos (by omega), show gapT x y = 0 from if_pos (by omega)], hb⟩)
set_option maxRecDepth 100000 in
set_option maxHeartbeats 4000000 in
theorem free1_in (l : Nat) (P : Nat → Prop) {p a : Option Addr} {n c : Nat} {F T : Nat → Int} (fb ab tb : Nat) (x y : Int) (J : Nat → World → Prop) (Js : World → Prop) (hJ : ∀ k V V', J k V → Below V.heap.size V V' → J k V')
    (hY : Yielding l P (freeL F T n x y) J Js) (W : World) (hal : Alm p a n c F T W) (hfb : W.cell? ⟨fb, 0, none⟩ = some (.int .i64 x)) (hab : W.cell? ⟨ab, 0, none⟩ = some (.pointer p)) (htb : W.cell? ⟨tb, 0, none⟩ = some (.int .i64 y))
    (hX : P tb) (hXr : ∀ z, 0 < n → a = some z → P z.block) (h0 : J 0 W) :
    CallsIn Fence.wide 2 Tryz.prog 84 #[.func (.yield l) #[] #[], .pointer (some ⟨fb, 0, none⟩), .pointer (some ⟨ab, 0, none⟩), .pointer (some ⟨tb, 0, none⟩)] W fun e W' => (∃ v, e = .returned v) ∧ (J (freeL F T n x y).length W' ∨ Js W') := by
  have haf := after_any x hal
  have hidx := idx_le T x n
  have hlen := hal.len
  have HG := Lib.hid hal.good
  have hfl : freeL F T n x y = freeG F T y (n - idx T x n) (idx T x n) x := rfl
  have hql : (freeL F T n x y).length ≤ 33 := freeL_len F T n x y hlen
  obtain ⟨rows, hrows⟩ : ∃ r, freeL F T n x y = r := ⟨_, rfl⟩
  rw [hrows] at hY hfl hql ⊢
  obtain ⟨i, hi⟩ : ∃ i, idx T x n = i := ⟨_, rfl⟩
  rw [hi] at haf hidx hfl
  obtain ⟨m, hm⟩ : ∃ m, n - i = m := ⟨_, rfl⟩
  have haf2 : Calls Tryz.prog 85 #[.pointer p, .int .i64 x] W (fun e w' => ∃ a' c', e = .returned (.slice a' m c') ∧ Sps w' a' m (sh F i) (sh T i) ∧ (∀ z, 0 < m → a' = some z → P z.block) ∧ Below W.heap.size W w') := haf.mono (by
    rintro e w' ⟨a', c', rfl, _, hS, hbl, hb⟩
    rw [hm] at hS hbl ⊢
    refine ⟨a', c', rfl, hS, fun z hz hz2 => ?_, hb⟩
    obtain ⟨z2, hz3, hz4⟩ := hbl z hz hz2
    exact hz4 ▸ hXr z2 (by omega) hz3)
  rw [hm] at hfl
  have HFL := Lib.hid hfl
  have HJ := Lib.hid hJ
  have HY := Lib.hid hY
  have H0 := Lib.hid h0
  have HX := Lib.hid hX
  have hq := guard_span
  clear haf hal hfl hJ hY h0 hrows hi hXr hX
  refine callsIn_of_wp Tryz.func84 rfl trivial ?_
  simp only [Tryz.ntmps84, List.size_toArray, List.length_cons, List.length_nil, Nat.reduceAdd, Nat.reduceSub, Array.replicate_succ, Array.replicate_zero, List.push_toArray, List.append_toArray, List.nil_append, List.cons_append]
  gi_wp2_with (refine ⟨trivial, ?_⟩; gi_at_call 85; refine (callsIn_wide.2 haf2).mono ?_; rintro e w1 ⟨a', c', rfl, hS, hblk, hb1⟩; have htb1 := (hb1.cell (p := ⟨tb, 0, none⟩) (cell_spot htb).2).trans htb; have HS := Lib.hid hS; have HBL := Lib.hid hblk; have HJ1 := Lib.hid (HJ.out 0 _ _ H0.out hb1); have HZ := Lib.hid hb1.size; clear hS hblk hb1)
  clear hfb hab htb haf2
  gi_loopw [5, 15] (fun s t wr => ∃ (q k : Nat), s = .int .i64 (atJ T x i q) ∧ t = .int .i64 (q : Int) ∧ q ≤ m ∧ k ≤ rows.length ∧ rows.drop k = freeG F T y (m - q) (i + q) (atJ T x i q) ∧ J k wr ∧ Sps wr a' m (sh F i) (sh T i) ∧ wr.cell? ⟨tb, 0, none⟩ = some (.int .i64 y) ∧ W.heap.size ≤ wr.heap.size) (fun _ t _ => m - (intOf t).toNat)
  case atStart => exact ⟨0, 0, rfl, rfl, Nat.zero_le _, Nat.zero_le _, HFL.out, HJ1.out, HS.out, htb1, HZ.out⟩
  case round =>
    clear htb1
    obtain ⟨q, k, rfl, rfl, hqm, hk, hd, hj, hS, ht, hz⟩ := hrel
    obtain ⟨z, hze⟩ : ∃ z, atJ T x i q = z := ⟨_, rfl⟩
    rw [hze] at hd ⊢
    have HJK := Lib.hid hj
    have HSK := Lib.hid hS
    by_cases hlt : q < m
    · obtain ⟨r, hr⟩ : ∃ r, m - q = r + 1 := ⟨m - q - 1, by omega⟩
      have hd0 := hd
      rw [hr] at hd
      obtain ⟨rb, ro, rfl, hrb, hc⟩ := hS.2 (by omega)
      obtain ⟨c0, c1, b0, b1, b2, b3⟩ := hc q hlt
      have hf0 : sh F i q = F (i + q) := rfl
      have hu0 : sh T i q = T (i + q) := rfl
      have hat : atJ T x i (q + 1) = T (i + q) := rfl
      simp only [freeG] at hd
      obtain ⟨f, hf⟩ : ∃ f, F (i + q) = f := ⟨_, rfl⟩
      obtain ⟨u, hu⟩ : ∃ f, T (i + q) = f := ⟨_, rfl⟩
      rw [hf0, hf] at c0 b0 b1
      rw [hu0, hu] at c1 b2 b3
      rw [hf, hu] at hd
      rw [hu] at hat
      have HAT := Lib.hid hat
      have hm1 : m - (q + 1) = r := by omega
      have q0 : (0 : Int) ≤ (q : Int) := by omega
      have ql : (q : Int) < (m : Int) := by omega
      have qd : decide ((q : Int) < (m : Int)) = true := decide_eq_true ql
      clear hf0 hu0 hf hu hat hc hS hj hd0 hr hze
      by_cases hg : z < min y f
      · have hgap : gap z (min y f) = [(z, min y f)] := if_pos hg
        rw [hgap] at hd
        have hget : rows[k]? = some (z, min y f) := by
          have : (rows.drop k)[0]? = some (z, min y f) := by rw [hd]; rfl
          rwa [List.getElem?_drop, Nat.add_zero] at this
        have hd1 : rows.drop (k + 1) = freeG F T y r (i + q + 1) u := by rw [← List.drop_drop, hd]; rfl
        have hk1 : k + 1 ≤ rows.length := (List.getElem?_eq_some_iff.1 hget).1
        have HD := Lib.hid hd1
        have HGT := Lib.hid hget
        have hnq := neq_gap z (min y f) hg
        have HBT := Lib.hid (fun w => betw_yes z (min y f) w hg)
        have htA : (wr.alloc (.cells #[.int .i64 f, .int .i64 u] 61)).cell? ⟨tb, 0, none⟩ = some (.int .i64 y) := (World.cell?_alloc_past _ _ _ (cell_spot ht).2).trans ht
        have huA : (wr.alloc (.cells #[.int .i64 f, .int .i64 u] 61)).cell? ⟨wr.heap.size, 1, none⟩ = some (.int .i64 u) := by simp
        have hbA : Below wr.heap.size wr (wr.alloc (.cells #[.int .i64 f, .int .i64 u] 61)) := (Below.refl _ _).alloc (Nat.le_refl _) _
        have hzA : wr.heap.size < (wr.alloc (.cells #[.int .i64 f, .int .i64 u] 61)).heap.size := by simp
        have HBA := Lib.hid hbA
        have HUA := Lib.hid huA
        have HZA := Lib.hid hzA
        clear hd hd1 hget hgap huA hbA hzA
        gi_wp2_with (refine ⟨trivial, ?_⟩; gi_at_call 86; refine (callsIn_wide.2 (HBT.out _)).mono ?_; rintro e w2 ⟨rfl, hb2⟩; have HB2 := Lib.hid (HBA.out.trans (hb2.mono HBA.out.size)); have HU2 := Lib.hid ((hb2.cell (p := ⟨wr.heap.size, 1, none⟩) HZA.out).trans HUA.out); have HZ2 := Lib.hid (Nat.lt_of_lt_of_le HZA.out hb2.size); have HT2 := Lib.hid ((hb2.cell (p := ⟨tb, 0, none⟩) (cell_spot htA).2).trans htA); clear hb2)
        have hB4 : Below wr.heap.size wr (w2.alloc (.cells #[.int .i64 z, .int .i64 (min y f)] 61)) := HB2.out.alloc HB2.out.size _
        have hU4 : (w2.alloc (.cells #[.int .i64 z, .int .i64 (min y f)] 61)).cell? ⟨wr.heap.size, 1, none⟩ = some (.int .i64 u) := (World.cell?_alloc_past _ _ _ HZ2.out).trans HU2.out
        have hZ4 : wr.heap.size < (w2.alloc (.cells #[.int .i64 z, .int .i64 (min y f)] 61)).heap.size := by rw [World.size_alloc]; have := HZ2.out; omega
        have hT4 : (w2.alloc (.cells #[.int .i64 z, .int .i64 (min y f)] 61)).cell? ⟨tb, 0, none⟩ = some (.int .i64 y) := (World.cell?_alloc_past _ _ _ (cell_spot HT2.out).2).trans HT2.out
        generalize (w2.alloc (.cells #[.int .i64 z, .int .i64 (min y f)] 61)) = W4 at *
        obtain ⟨fn, tmps, assign, body', hy, hRd⟩ := HY.out k z (min y f) wr W4 HGT.out HJK.out hB4
        have HB4 := Lib.hid hB4
        have HU4 := Lib.hid hU4
        have HT4 := Lib.hid hT4
        have HZ4 := Lib.hid hZ4
        clear hB4 hU4 hT4 hZ4 htA ht
        rw [hy]
        gi_wp2
        refine hRd.mono ?_
        rintro e W3 ⟨b, rfl, hyes, hno⟩
        clear hy hRd
        cases b
        · have hjs := Lib.hid (hno rfl)
          clear hyes hno
          gi_wp2
          refine bodyPost_ret (results_none rfl _ _ _) rfl ⟨⟨_, rfl⟩, .inr hjs.out⟩
        · obtain ⟨hJ3, hk3⟩ := hyes rfl
          have hnx : ¬ Turns P wr wr.heap.size := fun h => by have := h.2; omega
          have hu3 : W3.cell? ⟨wr.heap.size, 1, none⟩ = some (.int .i64 u) := (hk3.cell (p := ⟨wr.heap.size, 1, none⟩) HZ4.out hnx).trans HU4.out
          have hK : Kept (Turns P wr) wr W3 := (Kept.below HB4.out).trans hk3
          have HS3 := Lib.hid (HSK.out.keptX hK fun z' h1 h2 h3 => h3.1 (HBL.out z' (by omega) h2))
          have HT3 := Lib.hid ((hk3.cell (p := ⟨tb, 0, none⟩) (cell_spot HT4.out).2 (fun h => h.1 HX.out)).trans HT4.out)
          have HJ3 := Lib.hid hJ3
          have HZ3 := Lib.hid (Nat.le_trans hz hK.size)
          clear hyes hno hJ3 hk3 hK hnx
          gi_wp2
          go_roundw
          case rel => exact ⟨q + 1, k + 1, by rw [HAT.out], by go_num, by omega, hk1, by rw [hm1, ← Nat.add_assoc, HAT.out]; exact HD.out, HJ3.out, HS3.out, HT3.out, HZ3.out⟩
          case measure => simp [intOf]; omega
      · have hgap : gap z (min y f) = [] := if_neg hg
        rw [hgap, List.nil_append] at hd
        have HD := Lib.hid hd
        have hnq := neq_zero
        have HBT := Lib.hid (fun w => betw_no z (min y f) w hg)
        have htA : (wr.alloc (.cells #[.int .i64 f, .int .i64 u] 61)).cell? ⟨tb, 0, none⟩ = some (.int .i64 y) := (World.cell?_alloc_past _ _ _ (cell_spot ht).2).trans ht
        have huA : (wr.alloc (.cells #[.int .i64 f, .int .i64 u] 61)).cell? ⟨wr.heap.size, 1, none⟩ = some (.int .i64 u) := by simp
        have hbA : Below wr.heap.size wr (wr.alloc (.cells #[.int .i64 f, .int .i64 u] 61)) := (Below.refl _ _).alloc (Nat.le_refl _) _
        have hzA : wr.heap.size < (wr.alloc (.cells #[.int .i64 f, .int .i64 u] 61)).heap.size := by simp
        have HBA := Lib.hid hbA
        have HUA := Lib.hid huA
        have HZA := Lib.hid hzA
        clear hd hgap huA hbA hzA
        gi_wp2_with (refine ⟨trivial, ?_⟩; gi_at_call 86; refine (callsIn_wide.2 (HBT.out _)).mono ?_; rintro e w2 ⟨rfl, hb2⟩; have HB2 := Lib.hid (HBA.out.trans (hb2.mono HBA.out.size)); have hu2 := (hb2.cell (p := ⟨wr.heap.size, 1, none⟩) HZA.out).trans HUA.out; have HZ2 := Lib.hid (Nat.lt_of_lt_of_le HZA.out hb2.size); have hu4 : (w2.alloc (.cells #[.int .i64 0, .int .i64 0] 61)).cell? ⟨wr.heap.size, 1, none⟩ = some (.int .i64 u) := (World.cell?_alloc_past _ _ _ HZ2.out).trans hu2; clear hb2 hu2)
        have hB4 : Below wr.heap.size wr (w2.alloc (.cells #[.int .i64 0, .int .i64 0] 61)) := HB2.out.alloc HB2.out.size _
        have HB4 := Lib.hid hB4
        clear hB4
        refine ⟨fun _ h => (by cases h), ?_⟩
        gi_wp2
        go_roundw
        case rel => exact ⟨q + 1, k, by rw [HAT.out], by go_num, by omega, hk, by rw [hm1, ← Nat.add_assoc, HAT.out]; exact HD.out, HJ.out _ _ _ HJK.out HB4.out, HSK.out.kept HB4.out, (HB4.out.cell (p := ⟨tb, 0, none⟩) (cell_spot ht).2).trans ht, Nat.le_trans hz HB4.out.size⟩
        case measure => simp [intOf]; omega
    · obtain rfl : q = m := by omega
      rw [Nat.sub_self] at hd
      simp only [freeG] at hd
      have qd : decide ((q : Int) < (q : Int)) = false := decide_eq_false (by omega)
      obtain ⟨sa, sc, hsv⟩ : ∃ sa sc, a' = sa ∧ c' = sc := ⟨_, _, rfl, rfl⟩
      clear hS hj hze
      by_cases hg : z < y
      · have hgap : gap z y = [(z, y)] := if_pos hg
        rw [hgap] at hd
        have hget : rows[k]? = some (z, y) := by
          have : (rows.drop k)[0]? = some (z, y) := by rw [hd]; rfl
          rwa [List.getElem?_drop, Nat.add_zero] at this
        have hd1 : k + 1 = rows.length := by
          have : (rows.drop k).length = 1 := by rw [hd]; rfl
          rw [List.length_drop] at this; omega
        have HGT := Lib.hid hget
        have HD := Lib.hid hd1
        have hnq := neq_gap z y hg
        have HBT := Lib.hid (fun w => betw_yes z y w hg)
        have HZR : Hid (wr.heap.size ≤ wr.heap.size) := Lib.hid (Nat.le_refl _)
        clear hd hget hgap hd1
        gi_wp2_with (refine ⟨trivial, ?_⟩; gi_at_call 86; refine (callsIn_wide.2 (HBT.out _)).mono ?_; rintro e w2 ⟨rfl, hb2⟩; have HB2 := Lib.hid hb2; clear hb2)
        have hB4 : Below wr.heap.size wr (w2.alloc (.cells #[.int .i64 z, .int .i64 y] 61)) := HB2.out.alloc HB2.out.size _
        generalize (w2.alloc (.cells #[.int .i64 z, .int .i64 y] 61)) = W4 at *
        obtain ⟨fn, tmps, assign, body', hy, hRd⟩ := HY.out k z y wr W4 HGT.out HJK.out hB4
        clear hB4
        rw [hy]
        gi_wp2
        refine hRd.mono ?_
        rintro e W3 ⟨b, rfl, hyes, hno⟩
        have HYN : Hid (J rows.length W3 ∨ Js W3) := Lib.hid (by
          cases b
          · exact .inr (hno rfl)
          · exact .inl (by rw [← HD.out]; exact (hyes rfl).1))
        clear hy hRd hyes hno
        gi_wp2
        refine bodyPost_end (results_none rfl _ _ _) rfl ⟨⟨_, rfl⟩, HYN.out⟩
      · have hgap : gap z y = [] := if_neg hg
        rw [hgap] at hd
        have hd1 : k = rows.length := by
          have : (rows.drop k).length = 0 := by rw [hd]; rfl
          rw [List.length_drop] at this; omega
        have HD := Lib.hid hd1
        have hnq := neq_zero
        have HBT := Lib.hid (fun w => betw_no z y w hg)
        clear hd hgap hd1
        gi_wp2_with (refine ⟨trivial, ?_⟩; gi_at_call 86; refine (callsIn_wide.2 (HBT.out _)).mono ?_; rintro e w2 ⟨rfl, hb2⟩; have HB2 := Lib.hid hb2; clear hb2)
        have hB4 : Below wr.heap.size wr (w2.alloc (.cells #[.int .i64 0, .int .i64 0] 61)) := HB2.out.alloc HB2.out.size _
        have HB4 := Lib.hid hB4
        clear hB4
        refine bodyPost_end (results_none rfl _ _ _) rfl ⟨⟨_, rfl⟩, .inl (by rw [← HD.out]; exact HJ.out _ _ _ HJK.out HB4.out)⟩
theorem free1_enters : ∀ args w, (callFunc 84 args).run Tryz.prog w = .ok (.enter 84 args) w := enters_of Tryz.func84 (by kernel_rfl) rfl
/-- The enumeration of what is free, over whatever loop. -/
theorem free_handing (P : Nat → Prop) {p a : Option Addr} {n c : Nat} {F T : Nat → Int} (fb ab tb : Nat) (x y : Int) (w : World) (hal : Alm p a n c F T w) (hfb : w.cell? ⟨fb, 0, none⟩ = some (.int .i64 x)) (hab : w.cell? ⟨ab, 0, none⟩ = some (.pointer p)) (htb : w.cell? ⟨tb, 0, none⟩ = some (.int .i64 y))
    (hX : P tb) (hXr : ∀ z, 0 < n → a = some z → P z.block) :
    Handing 84 #[.pointer (some ⟨fb, 0, none⟩), .pointer (some ⟨ab, 0, none⟩), .pointer (some ⟨tb, 0, none⟩)] (freeL F T n x y) P w := by
  intro J Js hJ hJs l W hl hB hY h0
  have htl := (cell_spot htb).2
  exact free1_in l P fb ab tb x y J Js hJ hY W (hal.kept hB) ((hB.cell (p := ⟨fb, 0, none⟩) (cell_spot hfb).2).trans hfb) ((hB.cell (p := ⟨ab, 0, none⟩) (cell_spot hab).2).trans hab) ((hB.cell (p := ⟨tb, 0, none⟩) htl).trans htb) hX hXr h0

/-- What Free hands back: the function, over boxes of its own. -/
def Freed (p : Option Addr) (x y : Int) (w : World) (e : Ending) (w' : World) : Prop :=
  ∃ fb ab tb, e = .returned (.func (.func 84) #[] #[.pointer (some ⟨fb, 0, none⟩), .pointer (some ⟨ab, 0, none⟩), .pointer (some ⟨tb, 0, none⟩)]) ∧
    w'.cell? ⟨fb, 0, none⟩ = some (.int .i64 x) ∧ w'.cell? ⟨ab, 0, none⟩ = some (.pointer p) ∧ w'.cell? ⟨tb, 0, none⟩ = some (.int .i64 y) ∧ w.heap.size ≤ fb ∧ w.heap.size ≤ ab ∧ w.heap.size ≤ tb ∧ Below w.heap.size w w'
set_option maxRecDepth 100000 in
set_option maxHeartbeats 4000000 in
theorem freed_any (p : Option Addr) (x y : Int) (w : World) : Calls Tryz.prog 62 #[.pointer p, .int .i64 x, .int .i64 y] w (Freed p (max x 0) (min y 1125899906842624) w) := by
  have hmf : ∀ (fn : Fn) (first cap : Array Value) (w : World), (Instr.makeFunc fn first cap).run Tryz.prog w = .ok (.func fn first cap) w := fun _ _ _ _ => rfl
  go_enter Tryz.func62, Tryz.ntmps62
  go_wp2
  go_region
  go_wp2
  go_ret
  refine ⟨_, _, _, rfl, ?_, ?_, ?_, by omega, Nat.le_refl _, by omega, ?_⟩
  · show (((w.alloc _).alloc _).alloc _).cell? _ = _
    rw [World.cell?_alloc_past _ _ _ (by simp)]
    simp
  · show (((w.alloc _).alloc _).alloc _).cell? _ = _
    rw [World.cell?_alloc_past _ _ _ (by simp; omega), World.cell?_alloc_past _ _ _ (by simp)]
    simp
  · show (((w.alloc _).alloc _).alloc _).cell? _ = _
    rw [World.cell?_alloc_at _ _ _ _ (by simp)]
    rfl
  · exact ((((Below.refl _ _).alloc (Nat.le_refl _) _).alloc (by simp) _).alloc (by simp; omega) _).drew
/- The law's list of what is free. -/
open Go.RowKit Go.Shelf
attribute [local go_sem] Oper.semAt_some

theorem OS.kept_set {w : World} {base b : Nat} {v : Value} {l : List (Int × Int)} (h : OS w base v l) (hne : ∀ g, v.ownBlock = some g → g ≠ b) (u : Value) : OS (w.setCell ⟨b, 0, none⟩ u) base v l := by
  obtain ⟨h1, h2⟩ := h
  refine ⟨h1, ?_⟩
  rcases h2 with h2 | ⟨g, cap, cur, hv, hg, hh, r⟩
  · exact .inl h2
  · exact .inr ⟨g, cap, cur, hv, hg, (Below.heap_setCell _ _ _ _ (hne g (by rw [hv]; rfl))).trans hh, r⟩
theorem seq_nil (fb ab tb : Nat) (w : World) : (binOp .eql 106 (.func (.func 84) #[] #[.pointer (some ⟨fb, 0, none⟩), .pointer (some ⟨ab, 0, none⟩), .pointer (some ⟨tb, 0, none⟩)]) .nilFunc).run Tryz.prog w = .ok (.bool false) w := by
  kernel_rfl
/-- append(s, one span), under a fence. -/
theorem append_spanIn {Fn : Fence} {n : Nat} {w : World} {ops : Array Oper} {rest : List Oper} {o : Oper} {a : Act} {Q : Exit → Act → World → Prop} (hgd : o.guard = none) (s x : Operand)
    (ho : o.op = .call { callee := .builtin .append, args := #[s, x], argTypes := #[22, 22] })
    (base : Nat) (v : Value) (l : List (Int × Int)) (f t : Int) (ad : Addr) (c : Nat) (hs : a.eval s = v) (hx : a.eval x = .slice (some ad) 1 c) (hown : OS w base v l)
    (hc : ∀ j u, [Value.int .i64 f, .int .i64 t][j]? = some u → w.cell? (ad.add j) = some u)
    (hlen : l.length ≤ 100000) (hbase : base ≤ w.heap.size)
    (h : ∀ v' w', OS w' base v' (l ++ [(f, t)]) → w.grownBy w' v.ownBlock → wpListIn Fn n Tryz.prog ops Q rest (a.put o.dst v') w') : wpListIn Fn n Tryz.prog ops Q (o :: rest) a w := by
  obtain ⟨i0, hi, hz0, hz1, hz2⟩ := info_parts spans_info
  refine wpListIn_append_own w hgd s x 22 ho base 61 i0 (.agg #[.int .i64 0, .int .i64 0]) 2 16 Tryz.underlying22 hi hz0 hz1 hz2 rfl (by decide) v l.length (spc l) hs hown ad 1 c [.int .i64 f, .int .i64 t] hx rfl hc
    (by intro u hu; simp only [List.mem_cons, List.not_mem_nil, or_false] at hu; rcases hu with rfl | rfl <;> rfl) (by unfold maxLen; omega) (by omega) hbase ?_
  intro v' w' h1 h2 _
  exact h v' w' (by unfold OS; rw [List.length_append, spc_append]; exact h1) h2

/-- What the law's list of what is free is. -/
def Listed (l : List (Int × Int)) (w : World) (e : Ending) (w' : World) : Prop := ∃ v, e = .returned (.tuple #[v, .bool true]) ∧ OS w' w.heap.size v l ∧ Below w.heap.size w w'
/- Bounds of what is free; rows compared; the example of layer 9; the reference's Next. -/
open Go.RowKit

theorem freeG_mem (F T : Nat → Int) (x y : Int) : ∀ m i at_, x ≤ at_ → (∀ j, i ≤ j → j < i + m → x ≤ T j) → ∀ s ∈ freeG F T y m i at_, x ≤ s.1 ∧ s.1 < s.2 ∧ s.2 ≤ y := by
  intro m
  induction m with
  | zero =>
    intro i a ha _ s hs
    simp only [freeG, gap] at hs
    split at hs
    · simp only [List.mem_singleton] at hs
      subst hs
      exact ⟨ha, by assumption, Int.le_refl _⟩
    · cases hs
  | succ m ih =>
    intro i a ha hT s hs
    simp only [freeG, List.mem_append, gap] at hs
    rcases hs with hs | hs
    · split at hs
      · simp only [List.mem_singleton] at hs
        subst hs
        exact ⟨ha, by assumption, by show min y (F i) ≤ y; omega⟩
      · cases hs
    · exact ih (i + 1) (T i) (hT i (Nat.le_refl _) (by omega)) (fun j h1 h2 => hT j (by omega) (by omega)) s hs
theorem freeL_mem {F T : Nat → Int} {n : Nat} (x y : Int) : ∀ s ∈ freeL F T n x y, x ≤ s.1 ∧ s.1 < s.2 ∧ s.2 ≤ y := by
  have h1 := idx_le T x n
  exact freeG_mem F T x y _ _ x (Int.le_refl _) fun j h2 h3 => by
    have := idx_hi (t := x) n j h2 (by omega)
    omega
/-- Spans whose ends fit. -/
def Fits (l : List (Int × Int)) : Prop := ∀ s ∈ l, -9223372036854775808 ≤ s.1 ∧ s.1 ≤ 9223372036854775807 ∧ -9223372036854775808 ≤ s.2 ∧ s.2 ≤ 9223372036854775807
theorem free_fits (F T : Nat → Int) (n : Nat) (x y : Int) : Fits (freeL F T n (max x 0) (min y 1125899906842624)) := fun s hs => by
  have := freeL_mem _ _ s hs
  omega
theorem sps_fits {w : World} {a : Option Addr} {n : Nat} {F T : Nat → Int} (h : Sps w a n F T) : Fits (pairs F T n) := by
  intro s hs
  obtain ⟨k, hk, rfl⟩ := pairs_mem.1 hs
  obtain ⟨_, _, _, _, _, _, b⟩ := h.at (Below.refl _ _) k hk
  exact b
theorem sameB_refl (F T : Nat → Int) : ∀ n, sameB F T F T n = true := fun n => sameB_iff.2 fun k hk => ⟨rfl, rfl⟩
/-- A row of one's own against a row that has the same spans. -/
theorem rsame_row {w : World} {base : Nat} {v : Value} {a : Option Addr} {n cap : Nat} {F T : Nat → Int} (h : OS w base v (pairs F T n)) (hS : Sps w a n F T) :
    Calls Tryz.prog 28 #[v, .slice a n cap] w fun e w' => e = .returned (.bool true) ∧ ∃ q, w' = w.drewN q := by
  obtain ⟨va, vc, rfl, _, _⟩ := h.shape
  have h1 := (h.sps (sps_fits hS)).2
  rw [pairs_len] at h1 ⊢
  have h2 := rsame_any va a n vc n cap _ _ F T w h1 hS
  have e : sameL (fr (pairs F T n)) (til (pairs F T n)) F T n n = true := by
    simp only [sameL, decide_true, Bool.true_and]
    exact sameB_iff.2 fun k hk => pairs_at F T n k hk
  rw [e] at h2
  exact h2
/-- Two rows of one's own with the same spans. -/
theorem rsame_own {w : World} {base base' : Nat} {v v' : Value} {l : List (Int × Int)} (h : OS w base v l) (h' : OS w base' v' l) (hl : Fits l) :
    Calls Tryz.prog 28 #[v, v'] w fun e w' => e = .returned (.bool true) ∧ ∃ q, w' = w.drewN q := by
  obtain ⟨va, vc, rfl, _, _⟩ := h.shape
  obtain ⟨va', vc', rfl, _, _⟩ := h'.shape
  have h2 := rsame_any va va' l.length vc l.length vc' _ _ _ _ w (h.sps hl).2 (h'.sps hl).2
  have e : sameL (fr l) (til l) (fr l) (til l) l.length l.length = true := by
    simp only [sameL, decide_true, Bool.true_and]
    exact sameB_refl _ _ _
  rw [e] at h2
  exact h2

theorem lit_two (w : World) (a b c d : Int) (h : -9223372036854775808 ≤ a ∧ a ≤ 9223372036854775807 ∧ -9223372036854775808 ≤ b ∧ b ≤ 9223372036854775807 ∧ -9223372036854775808 ≤ c ∧ c ≤ 9223372036854775807 ∧ -9223372036854775808 ≤ d ∧ d ≤ 9223372036854775807) :
    Sps (w.alloc (.cells #[.int .i64 a, .int .i64 b, .int .i64 c, .int .i64 d] 61)) (some ⟨w.heap.size, 0, none⟩) 2 (fr [(a, b), (c, d)]) (til [(a, b), (c, d)]) := by
  refine ⟨by unfold maxLen; omega, fun _ => ⟨w.heap.size, 0, rfl, by simp, fun k hk => ?_⟩⟩
  rcases (by omega : k = 0 ∨ k = 1) with rfl | rfl
  · refine ⟨by simp [fr], by simp [til], ?_⟩
    simp only [fr, til, List.getD_eq_getElem?_getD, List.getElem?_cons_zero, Option.getD_some]
    omega
  · refine ⟨by simp [fr], by simp [til], ?_⟩
    simp only [fr, til, List.getD_eq_getElem?_getD, List.getElem?_cons_succ, List.getElem?_cons_zero, Option.getD_some]
    omega
theorem lit_one (w : World) (a b : Int) (h : -9223372036854775808 ≤ a ∧ a ≤ 9223372036854775807 ∧ -9223372036854775808 ≤ b ∧ b ≤ 9223372036854775807) :
    Sps (w.alloc (.cells #[.int .i64 a, .int .i64 b] 61)) (some ⟨w.heap.size, 0, none⟩) 1 (fr [(a, b)]) (til [(a, b)]) := by
  refine ⟨by unfold maxLen; omega, fun _ => ⟨w.heap.size, 0, rfl, by simp, fun k hk => ?_⟩⟩
  obtain rfl : k = 0 := by omega
  refine ⟨by simp [fr], by simp [til], ?_⟩
  simp only [fr, til, List.getD_eq_getElem?_getD, List.getElem?_cons_zero, Option.getD_some]
  omega
theorem pairs_lit2 (x y : Int × Int) : pairs (fr [x, y]) (til [x, y]) 2 = [x, y] := by
  simp [pairs, List.range_succ, fr, til]

end Go.Proofs.YthnnbmofpmedhaaGreat

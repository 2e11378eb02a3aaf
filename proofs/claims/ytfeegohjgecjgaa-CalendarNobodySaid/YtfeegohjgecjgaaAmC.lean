/- A range over a function that hands out spans: what the loop owes, and what its function owes; rounds may leave the loop. -/
import Derived.Test.YtfeegohjgecjgaaAmB
import Derived.RangeFuncNested
import Derived.RangeFuncBound
import Derived.RangeFuncCalls
import Derived.RangeFuncLeaves
import Derived.Shelf.Abstract
import Derived.Shelf.RegionOpen
import Derived.OwnWalkIn
import Derived.TacticsInMore
import Derived.LoopNIn
import Derived.LoopIn
namespace Go.Proofs.Ytfeegohjgecjgaa
open Go.RowKit Go.Shelf

/-- All blocks but those of X lie as they lay. -/
structure Kept (X : Nat → Prop) (W W' : World) : Prop where
  size : W.heap.size ≤ W'.heap.size
  block : ∀ b, b < W.heap.size → ¬ X b → W'.heap[b]? = W.heap[b]?
theorem Kept.refl (X : Nat → Prop) (W : World) : Kept X W W := ⟨Nat.le_refl _, fun _ _ _ => rfl⟩
theorem Kept.trans {X : Nat → Prop} {A B C : World} (h : Kept X A B) (k : Kept X B C) : Kept X A C :=
  ⟨Nat.le_trans h.size k.size, fun b hb hx => (k.block b (Nat.lt_of_lt_of_le hb h.size) hx).trans (h.block b hb hx)⟩
theorem Kept.more {X Y : Nat → Prop} {A B : World} (h : Kept X A B) (hxy : ∀ b, X b → Y b) : Kept Y A B := ⟨h.size, fun b hb hy => h.block b hb (fun hx => hy (hxy b hx))⟩
theorem Kept.below {X : Nat → Prop} {W W' : World} (h : Below W.heap.size W W') : Kept X W W' := ⟨h.size, fun b hb _ => h.block b hb⟩
theorem Kept.only {X : Nat → Prop} {W W' : World} (h : Only X W W') : Kept X W W' := ⟨h.size, h.block⟩
theorem Kept.putObj {X : Nat → Prop} (W : World) (l : Nat) (o : Obj) (hl : X l) : Kept X W (W.putObj l o) :=
  ⟨by simp, fun b _ hx => World.putObj_heap_other (fun e => hx (e ▸ hl))⟩
theorem Kept.setCell {X : Nat → Prop} (W : World) (p : Addr) (v : Value) (hl : X p.block) : Kept X W (W.setCell p v) :=
  ⟨by simp, fun b _ hx => Below.heap_setCell _ _ _ _ (fun e => hx (e ▸ hl))⟩
theorem Kept.cell {X : Nat → Prop} {W W' : World} (h : Kept X W W') {p : Addr} (hp : p.block < W.heap.size) (hx : ¬ X p.block) : W'.cell? p = W.cell? p := World.cell?_of_block (h.block _ hp hx)
theorem Sps.keptX {X : Nat → Prop} {w w' : World} {a : Option Addr} {n : Nat} {F T : Nat → Int} (h : Sps w a n F T) (o : Kept X w w') (hx : ∀ x, 0 < n → a = some x → ¬ X x.block) : Sps w' a n F T := by
  refine ⟨h.1, fun hp => ?_⟩
  obtain ⟨ab, ao, e, hl, hc⟩ := h.2 hp
  have hn : ¬ X ab := hx _ hp e
  exact ⟨ab, ao, e, Nat.lt_of_lt_of_le hl o.size, fun k hk => ⟨(o.cell (p := ⟨ab, ao + k * 2, none⟩) hl hn).trans (hc k hk).1, (o.cell (p := ⟨ab, ao + k * 2 + 1, none⟩) hl hn).trans (hc k hk).2.1, (hc k hk).2.2⟩⟩

/-- All cells, and all blocks below B, lie as they lay. -/
structure Tame (B : Nat) (V V' : World) : Prop where
  os : V'.os = V.os
  tape : V'.tape = V.tape
  output : V'.output = V.output
  size : V.heap.size ≤ V'.heap.size
  block : ∀ b o, V.heap[b]? = some o → (o.isCells = true ∨ b < B) → V'.heap[b]? = some o
theorem Tame.below {B : Nat} {V V' : World} (h : Tame B V V') (hB : B ≤ V.heap.size) : Below B V V' :=
  ⟨h.os, h.tape, h.output, h.size, fun k hk => by
    have hlt : k < V.heap.size := by omega
    obtain ⟨o, ho⟩ : ∃ o, V.heap[k]? = some o := ⟨_, Array.getElem?_eq_getElem hlt⟩
    rw [ho]; exact h.block k o ho (.inr hk)⟩
theorem Tame.belowLe {B B' : Nat} {V V' : World} (h : Tame B V V') (hB : B' ≤ B) (hV : B' ≤ V.heap.size) : Below B' V V' :=
  ⟨h.os, h.tape, h.output, h.size, fun k hk => by
    have hlt : k < V.heap.size := by omega
    obtain ⟨o, ho⟩ : ∃ o, V.heap[k]? = some o := ⟨_, Array.getElem?_eq_getElem hlt⟩
    rw [ho]; exact h.block k o ho (.inr (by omega))⟩
theorem Tame.of_below {B : Nat} {V V' : World} (h : Below V.heap.size V V') : Tame B V V' :=
  ⟨h.os, h.tape, h.output, h.size, fun b o ho _ => (h.block b (Array.getElem?_eq_some_iff.1 ho).1).trans ho⟩
theorem Tame.trans {B : Nat} {A V V' : World} (h : Tame B A V) (k : Tame B V V') : Tame B A V' :=
  ⟨k.os.trans h.os, k.tape.trans h.tape, k.output.trans h.output, Nat.le_trans h.size k.size, fun b o ho hb => k.block b o (h.block b o ho hb) hb⟩
theorem Tame.putObj {B : Nat} (V : World) {l : Nat} {o : Obj} (o' : Obj) (hl : V.heap[l]? = some o) (ho : o.isCells = false) (hB : B ≤ l) : Tame B V (V.putObj l o') :=
  ⟨rfl, rfl, rfl, by simp, fun b u hu hb => by
    by_cases e : b = l
    · subst e
      rw [hl] at hu
      injection hu with hu
      subst hu
      rcases hb with hb | hb
      · rw [ho] at hb; cases hb
      · omega
    · exact (World.putObj_heap_other e).trans hu⟩
theorem isCells_of_cell {V : World} {p : Addr} {v : Value} (h : V.cell? p = some v) : ∃ o, V.heap[p.block]? = some o ∧ o.isCells = true := by
  have hlt := (cell_spot h).2
  refine ⟨V.heap[p.block], Array.getElem?_eq_getElem hlt, ?_⟩
  have h2 : V.heap[p.block]? = some V.heap[p.block] := Array.getElem?_eq_getElem hlt
  cases hc : V.heap[p.block] with
  | cells vs t => rfl
  | _ => simp [World.cell?, h2, hc] at h
theorem Tame.cell {B : Nat} {V V' : World} (h : Tame B V V') {p : Addr} {v : Value} (hc : V.cell? p = some v) : V'.cell? p = some v := by
  obtain ⟨o, ho, hi⟩ := isCells_of_cell hc
  exact (World.cell?_of_block ((h.block _ o ho (.inl hi)).trans ho.symm)).trans hc
theorem Tame.frozen {B : Nat} {V V' : World} (h : Tame B V V') {p : Addr} {v : Value} (hc : V.cell? p = some v) : V'.frozen? p = V.frozen? p := by
  obtain ⟨o, ho, hi⟩ := isCells_of_cell hc
  exact World.frozen?_of_block ((h.block _ o ho (.inl hi)).trans ho.symm)
/-- A variable of one's own in a block. -/
def Var (W : World) (b : Nat) (v : Value) : Prop := W.cell? ⟨b, 0, none⟩ = some v ∧ W.frozen? ⟨b, 0, none⟩ = false
theorem Var.lt {W : World} {b : Nat} {v : Value} (h : Var W b v) : b < W.heap.size := (cell_spot h.1).2
theorem Var.tame {B : Nat} {W W' : World} {b : Nat} {v : Value} (h : Var W b v) (t : Tame B W W') : Var W' b v := ⟨t.cell h.1, (t.frozen h.1).trans h.2⟩
theorem Var.kept {W W' : World} {b : Nat} {v : Value} (h : Var W b v) (t : Below W.heap.size W W') : Var W' b v := h.tame (Tame.of_below (B := 0) t)
theorem Var.keptX {X : Nat → Prop} {W W' : World} {b : Nat} {v : Value} (h : Var W b v) (t : Kept X W W') (hx : ¬ X b) : Var W' b v :=
  ⟨(t.cell (p := ⟨b, 0, none⟩) h.lt hx).trans h.1, (World.frozen?_of_block (t.block _ h.lt hx)).trans h.2⟩
theorem Var.set {W : World} {b : Nat} {v : Value} (h : Var W b v) (u : Value) (hu : u.oneCell' = true) (hv : v.oneCell' = true) : Var (W.setCell ⟨b, 0, none⟩ u) b u :=
  ⟨World.cell?_setCell_same' _ _ _ (by rw [h.1]; rfl), (World.frozen?_setCell _ _ _ _).trans h.2⟩
theorem Var.other {W : World} {b c : Nat} {v : Value} (h : Var W b v) (hne : b ≠ c) (o : Nat) (u : Value) : Var (W.setCell ⟨c, o, none⟩ u) b v :=
  ⟨(World.cell?_of_block (Below.heap_setCell _ _ _ _ hne)).trans h.1, (World.frozen?_setCell _ _ _ _).trans h.2⟩
theorem Var.new (W : World) (v : Value) (t : TypeId) (hv : v.oneCell' = true) : Var (W.alloc (.cells #[v] t)) W.heap.size v := ⟨by simp, by simp⟩
theorem Sps.tame {B : Nat} {w w' : World} {a : Option Addr} {n : Nat} {F T : Nat → Int} (h : Sps w a n F T) (o : Tame B w w') : Sps w' a n F T := by
  refine ⟨h.1, fun hp => ?_⟩
  obtain ⟨ab, ao, e, hl, hc⟩ := h.2 hp
  exact ⟨ab, ao, e, Nat.lt_of_lt_of_le hl o.size, fun k hk => ⟨o.cell (hc k hk).1, o.cell (hc k hk).2.1, (hc k hk).2.2⟩⟩
theorem OS.tame {B : Nat} {w w' : World} {base : Nat} {v : Value} {l : List (Int × Int)} (h : OS w base v l) (o : Tame B w w') : OS w' base v l := by
  obtain ⟨h1, h2⟩ := h
  refine ⟨h1, ?_⟩
  rcases h2 with h2 | ⟨g, cap, cur, hv, hg, hh, r⟩
  · exact .inl h2
  · exact .inr ⟨g, cap, cur, hv, hg, o.block g _ hh (.inl rfl), r⟩

/-- What may turn: what lay in V, but for P. -/
def Turns (P : Nat → Prop) (V : World) (b : Nat) : Prop := ¬ P b ∧ b < V.heap.size
/-- What yield owes the function that calls it: round k takes span k, and says 'on', or 'enough'. V: where the caller's own invariant stood; what the function laid since then stays, and so does P. -/
def Yielding (l : Nat) (P : Nat → Prop) (rows : List (Int × Int)) (J : Nat → World → Prop) (Js : World → Prop) : Prop :=
  ∀ (k : Nat) (f t : Int) (V W : World), rows[k]? = some (f, t) → J k V → Below V.heap.size V W →
    YieldAt Fence.wide 1 Try.prog l #[.agg #[.int .i64 f, .int .i64 t]] W fun e W' => (∃ b, e = .returned (.bool b) ∧ (b = true → J (k + 1) W' ∧ Kept (Turns P V) W W') ∧ (b = false → Js W'))
/-- What the function owes the loop. -/
def Handing (gf : Nat) (lb : Array Value) (rows : List (Int × Int)) (P : Nat → Prop) (w : World) : Prop :=
  ∀ (J : Nat → World → Prop) (Js : World → Prop), (∀ k V V', J k V → Below V.heap.size V V' → J k V') → (∀ V V', Js V → Below V.heap.size V V' → Js V') → ∀ (l : Nat) (W : World), w.heap.size < l → Below w.heap.size w W →
    Yielding l P rows J Js → J 0 W → CallsIn Fence.wide 2 Try.prog gf (#[.func (.yield l) #[] #[]] ++ lb) W fun e W' => (∃ v, e = .returned v) ∧ (J rows.length W' ∨ Js W')
/-- How a round is left. -/
def Around (X : Nat → Prop) (I : World → Prop) (Ix : Code → World → Prop) (W : World) : Exit → Act → World → Prop
  | .normal, _, W' => KeepsOthers W W' ∧ Kept X W W' ∧ I W'
  | .ret, _, W' => KeepsOthers W W' ∧ Ix .ret W'
  | .exit id, _, W' => KeepsOthers W W' ∧ Ix (.exit id) W'
  | _, _, _ => False

theorem range_spans {g : Operand} {ps : Array Tmp} {assign body : Code} {Q : Exit → Act → World → Prop} {a : Act} {w : World} {gf : Nat} {lb : Array Value}
    (hg : a.eval g = .func (.func gf) #[] lb) (eg : ∀ args w, (callFunc gf args).run Try.prog w = .ok (.enter gf args) w)
    (rows : List (Int × Int)) (P : Nat → Prop) (hP : ∀ b, P b → b < w.heap.size) (hiter : Handing gf lb rows P w)
    (I : Nat → World → Prop) (Ix : Code → World → Prop) (hI : ∀ k V V', I k V → Tame w.heap.size V V' → I k V') (hIx : ∀ c V V', Ix c V → Tame w.heap.size V V' → Ix c V') (h0 : I 0 w) (hps : ps.size = 1) (a₁ : Int → Int → Nat → Act)
    (hassign : ∀ (l : Nat) (f t : Int) (W : World) (K : Act → World → Prop), K (a₁ f t W.heap.size) (W.alloc (.cells #[.int .i64 f, .int .i64 t] 30)) →
      assign.wpIn (Fence.wide.inRound l) 1 Try.prog (Exit.then K (fun _ _ _ => False)) { tmps := (ps.zip #[.agg #[.int .i64 f, .int .i64 t]]).foldl (fun t (p, v) => t.setIfInBounds p v) a.tmps, defers := [] } W)
    (hbody : ∀ (l k : Nat) (f t : Int) (c : Nat) (V W : World), rows[k]? = some (f, t) → I k V → Tame w.heap.size V W → W.cell? ⟨c, 0, none⟩ = some (.int .i64 f) → W.cell? ⟨c, 1, none⟩ = some (.int .i64 t) → V.heap.size ≤ c → body.wpIn (Fence.wide.inRound l) 1 Try.prog (Around (Turns P V) (I (k + 1)) Ix W) (a₁ f t c) W)
    (hdone : ∀ (W : World), I rows.length W → W.heap[w.heap.size]? = some (.deferred (some [])) → Q .normal { a with defers := { target := .collected w.heap.size, args := #[] } :: a.defers } W)
    (hstop : ∀ (c : Code) (W : World), Ix c W → W.heap[w.heap.size]? = some (.deferred (some [])) → c.wpIn Fence.wide 3 Try.prog Q { a with defers := { target := .collected w.heap.size, args := #[] } :: a.defers } W) :
    (Code.rangeFunc g ps assign body).wpIn Fence.wide 3 Try.prog Q a w := by
  refine wpIn_rangeFunc fun fn _ => ?_
  obtain ⟨B, hB⟩ : ∃ B, w.heap.size = B := ⟨_, rfl⟩
  rw [hB] at hI hIx hdone hstop hbody hP
  obtain ⟨rec, hrec⟩ : ∃ rec : LoopState → Option Code → Loop, rec = fun st pe => { state := st, pending := pe, fn, tmps := a.tmps, params := ps, assign, body, defers := B } := ⟨_, rfl⟩
  have start := run_enterLoop_outer (P := Try.prog) (w := w) fn a.tmps ps assign body
  rw [hB] at start
  obtain ⟨W1, hW1⟩ : ∃ W1, (w.alloc (.deferred (some []))).alloc (.loop (rec .ready none)) = W1 := ⟨_, rfl⟩
  have start' : (Instr.enterLoop fn a.tmps ps assign body Fence.wide.round).run Try.prog w = .ok (B + 1, [{ target := .collected B, args := #[] }]) W1 := by
    rw [← hW1, hrec]; exact start
  have hlt : (w.alloc (.deferred (some []))).heap.size = B + 1 := by rw [World.size_alloc, hB]
  have hL : W1.heap[B + 1]? = some (.loop (rec .ready none)) := by
    have := World.alloc_heap_new (w.alloc (.deferred (some []))) (.loop (rec .ready none)); rw [hlt, hW1] at this; exact this
  have hD : W1.heap[B]? = some (.deferred (some [])) := by
    rw [← hW1, Below.heap_alloc _ _ _ (by omega), ← hB]; exact World.alloc_heap_new w _
  have hbW : Below B w W1 := by
    rw [← hW1]
    exact ((Below.refl B w).alloc (by omega) _).alloc (by omega) _
  -- the call's own invariant, and the loop's record and block beside it
  let J : Nat → World → Prop := fun k V => I k V ∧ V.heap[B + 1]? = some (.loop (rec .ready none)) ∧ V.heap[B]? = some (.deferred (some []))
  let Js : World → Prop := fun V => ∃ c, Ix c V ∧ V.heap[B + 1]? = some (.loop (rec .done (some c))) ∧ V.heap[B]? = some (.deferred (some []))
  have hJ : ∀ k V V', J k V → Below V.heap.size V V' → J k V' := fun k V V' ⟨h1, h2, h3⟩ hb => by
    have s2 := (Array.getElem?_eq_some_iff.1 h2).1
    exact ⟨hI k V V' h1 (Tame.of_below hb), (hb.block _ s2).trans h2, (hb.block _ (by omega)).trans h3⟩
  have hJs : ∀ V V', Js V → Below V.heap.size V V' → Js V' := fun V V' ⟨c, h1, h2, h3⟩ hb => by
    have s2 := (Array.getElem?_eq_some_iff.1 h2).1
    exact ⟨c, hIx c V V' h1 (Tame.of_below hb), (hb.block _ s2).trans h2, (hb.block _ (by omega)).trans h3⟩
  have hY : Yielding (B + 1) P rows J Js := by
    rintro k f t V W hrow ⟨h1, h2, h3⟩ hVW
    have hV := h1
    have sV := (Array.getElem?_eq_some_iff.1 h2).1
    have htl : Turns P V (B + 1) := ⟨fun h => by have := hP _ h; omega, sV⟩
    have hVs := hVW.size
    have hTV := Tame.of_below (B := B) hVW
    replace h1 := hI k V W h1 hTV
    replace h2 := (hVW.block _ sV).trans h2
    replace h3 := (hVW.block _ (by omega)).trans h3
    have hy := run_yield (P := Try.prog) (args := #[.agg #[.int .i64 f, .int .i64 t]]) h2 (by rw [hrec]; exact hps.symm)
    refine ⟨_, _, _, _, hy, roundIn_of_wpIn trivial ?_⟩
    rw [hrec]
    have s2 := (Array.getElem?_eq_some_iff.1 h2).1
    refine hassign (B + 1) f t W _ ⟨_, run_beginRound (r := rec .ready none) ((Below.heap_alloc _ _ _ s2).trans h2) (by rw [hrec]), ?_⟩
    have hbA : Below W.heap.size W (W.alloc (.cells #[.int .i64 f, .int .i64 t] 30)) := (Below.refl _ _).alloc (Nat.le_refl _) _
    have e1 := (hbA.block _ s2).trans h2
    have e2 := (hbA.block _ (show B < W.heap.size by omega)).trans h3
    have c0 : (W.alloc (.cells #[.int .i64 f, .int .i64 t] 30)).cell? ⟨W.heap.size, 0, none⟩ = some (.int .i64 f) := by simp
    have c1 : (W.alloc (.cells #[.int .i64 f, .int .i64 t] 30)).cell? ⟨W.heap.size, 1, none⟩ = some (.int .i64 t) := by simp
    have hTA := hTV.trans (Tame.of_below (B := B) hbA)
    have hKA : Kept (Turns P V) W (W.alloc (.cells #[.int .i64 f, .int .i64 t] 30)) := Kept.below hbA
    have hcs : V.heap.size ≤ W.heap.size := hVs
    generalize W.heap.size = cb at c0 c1 hcs
    generalize W.alloc (.cells #[.int .i64 f, .int .i64 t] 30) = WA at *
    have hst : ({ rec .ready none with state := .busy } : Loop) = rec .busy none := by rw [hrec]
    rw [hst]
    have sA := (Array.getElem?_eq_some_iff.1 e1).1
    have hT := Tame.putObj (B := B) WA (.loop (rec .busy none)) e1 rfl (show B ≤ B + 1 by omega)
    have g2 : (WA.putObj (B + 1) (.loop (rec .busy none))).heap[B + 1]? = some (.loop (rec .busy none)) := World.putObj_heap_same sA
    have g3 : (WA.putObj (B + 1) (.loop (rec .busy none))).heap[B]? = some (.deferred (some [])) := (World.putObj_heap_other (by omega)).trans e2
    refine wpIn_mono (hbody (B + 1) k f t cb V _ hrow hV (hTA.trans hT) (hT.cell c0) (hT.cell c1) hcs) ?_
    have fin : ∀ (jump : Option Code) (W3 : World), KeepsOthers (WA.putObj (B + 1) (.loop (rec .busy none))) W3 →
        (Instr.endRound (B + 1) jump).run Try.prog W3 = .ok (.bool jump.isNone) (W3.putObj (B + 1) (.loop (rec (if jump.isNone then .ready else .done) jump))) ∧
        Tame B W3 (W3.putObj (B + 1) (.loop (rec (if jump.isNone then .ready else .done) jump))) ∧
        (W3.putObj (B + 1) (.loop (rec (if jump.isNone then .ready else .done) jump))).heap[B + 1]? = some (.loop (rec (if jump.isNone then .ready else .done) jump)) ∧
        (W3.putObj (B + 1) (.loop (rec (if jump.isNone then .ready else .done) jump))).heap[B]? = some (.deferred (some [])) := fun jump W3 hk3 => by
      have k2 := hk3.same _ _ g2 rfl
      have k3 := hk3.same _ _ g3 rfl
      have hend := run_endRound (P := Try.prog) jump k2
      have hfin : ({ rec .busy none with state := if jump.isNone then LoopState.ready else LoopState.done, pending := jump } : Loop) = rec (if jump.isNone then .ready else .done) jump := by rw [hrec]
      rw [hfin] at hend
      exact ⟨hend, Tame.putObj W3 _ k2 rfl (by omega), World.putObj_heap_same (Array.getElem?_eq_some_iff.1 k2).1, (World.putObj_heap_other (by omega)).trans k3⟩
    rintro e a3 W3 hp
    cases e with
    | normal =>
      obtain ⟨hk, hx, hi⟩ := hp
      obtain ⟨hr, ht, hl3, hd3⟩ := fin none W3 hk
      refine ⟨_, _, hr, true, rfl, fun _ => ⟨⟨hI _ _ _ hi ht, hl3, hd3⟩, ?_⟩, fun h => by cases h⟩
      exact hKA.trans (((Kept.putObj WA _ _ htl).trans hx).trans (Kept.putObj W3 _ _ htl))
    | ret =>
      obtain ⟨hk, hi⟩ := hp
      obtain ⟨hr, ht, hl3, hd3⟩ := fin (some .ret) W3 hk
      exact ⟨_, _, hr, false, rfl, fun h => (by cases h), fun _ => ⟨.ret, hIx _ _ _ hi ht, hl3, hd3⟩⟩
    | exit id =>
      obtain ⟨hk, hi⟩ := hp
      obtain ⟨hr, ht, hl3, hd3⟩ := fin (some (.exit id)) W3 hk
      exact ⟨_, _, hr, false, rfl, fun h => (by cases h), fun _ => ⟨.exit id, hIx _ _ _ hi ht, hl3, hd3⟩⟩
    | goto t => exact hp.elim
    | panic ch => exact hp.elim
    | outgrown => exact hp.elim
  refine ⟨B + 1, [{ target := .collected B, args := #[] }], W1, { target := .fn (.func gf) lb, args := #[.func (.yield (B + 1)) #[] #[]] }, W1, gf, #[.func (.yield (B + 1)) #[] #[]] ++ lb, W1, start', ?_, fun _ _ => trivial, ?_, fun _ => by omega, ?_⟩
  · simp only [resolve, hg]
    simp [go_sem]
  · simp [invoke, go_sem, eg]
  · refine (hiter J Js hJ hJs (B + 1) W1 (by omega) (by rw [hB]; exact hbW) hY ⟨hI 0 _ _ h0 (Tame.of_below (by rw [hB]; exact hbW)), hL, hD⟩).mono ?_
    rintro e W2 ⟨⟨v, rfl⟩, (⟨h1, h2, h3⟩ | ⟨c, h1, h2, h3⟩)⟩
    · have hend := run_endLoop (P := Try.prog) h2 (by rw [hrec]; simp)
      have hp : (rec .ready none).pending = none := by rw [hrec]
      rw [hp] at hend
      exact ⟨none, _, hend, hdone _ (hI _ _ _ h1 (Tame.putObj W2 _ h2 rfl (by omega))) ((World.putObj_heap_other (by omega)).trans h3)⟩
    · have hend := run_endLoop (P := Try.prog) h2 (by rw [hrec]; simp)
      have hp : (rec .done (some c)).pending = some c := by rw [hrec]
      rw [hp] at hend
      exact ⟨some c, _, hend, hstop c _ (hIx c _ _ h1 (Tame.putObj W2 _ h2 rfl (by omega))) ((World.putObj_heap_other (by omega)).trans h3)⟩
end Go.Proofs.Ytfeegohjgecjgaa

import Derived.Test.YthefnakbpalecaaMaI
import Derived.Test.YthefnakbpalecaaLzA
import Derived.RangeFuncNested
import Derived.RangeFuncBound
import Derived.RangeFuncCalls
import Derived.RangeFuncLeaves
import Derived.Shelf.Abstract
import Derived.Shelf.RegionOpen
import Derived.WalkKit
import Derived.OwnWalkIn
import Derived.TacticsInMore
import Derived.LoopNIn
import Derived.LoopIn
import Derived.Outline
namespace Go.Proofs.Ythefnakbpalecaa
open Go.RowKit
/- The frames with which bytes begin, one after the other. No Go text here. -/

theorem take_ok_n {bs : List Nat} (h : (takeOf bs).e = 0) : (takeOf bs).n = (takeOf bs).body.length + 8 ∧ (takeOf bs).n ≤ bs.length ∧ (takeOf bs).body.length ≤ 65536 := by
  unfold takeOf at *
  by_cases h1 : badHead bs
  · rw [if_pos h1] at h; cases h
  · rw [if_neg h1] at h ⊢
    by_cases h2 : bs.length < szAt bs + 8
    · rw [if_pos h2] at h; cases h
    · rw [if_neg h2] at h ⊢
      have hz : szAt bs = szOf bs := by unfold szAt; rw [if_pos (by omega)]
      have hm : szOf bs ≤ 65536 := by unfold badHead at h1; omega
      by_cases h3 : sumFits (bs.take (szOf bs + 8)) (szOf bs + 5)
      · rw [if_pos h3]
        refine ⟨?_, by show szOf bs + 8 ≤ bs.length; omega, ?_⟩
        · show szOf bs + 8 = _
          rw [List.length_take, List.length_drop]; omega
        · show ((bs.drop 5).take (szOf bs)).length ≤ _
          rw [List.length_take]; omega
      · rw [if_neg h3] at h; cases h
theorem take_ok_n0 {bs : List Nat} (h : (takeOf bs).e = 0) : 8 ≤ (takeOf bs).n := by have := (take_ok_n h).1; omega
def rowsF : Nat → List Nat → List (Nat × List Nat)
  | 0, _ => []
  | f + 1, bs => if (takeOf bs).e = 0 then ((takeOf bs).kind, (takeOf bs).body) :: rowsF f (bs.drop (takeOf bs).n) else []
def rowsOf (bs : List Nat) : List (Nat × List Nat) := rowsF bs.length bs
theorem ftake_nil : (takeOf []).e = 23 := by decide
theorem rowsF_nil : ∀ f, rowsF f [] = []
  | 0 => rfl
  | f + 1 => by rw [rowsF, ftake_nil]; rfl
theorem rowsF_same : ∀ (f g : Nat) (bs : List Nat), bs.length ≤ f → bs.length ≤ g → rowsF f bs = rowsF g bs := by
  intro f
  induction f with
  | zero =>
    intro g bs h _
    have : bs = [] := List.length_eq_zero_iff.1 (by omega)
    subst this
    rw [rowsF_nil, rowsF_nil]
  | succ f ih =>
    intro g bs hf hg
    cases g with
    | zero =>
      have : bs = [] := List.length_eq_zero_iff.1 (by omega)
      subst this
      rw [rowsF_nil, rowsF_nil]
    | succ g =>
      rw [rowsF, rowsF]
      by_cases he : (takeOf bs).e = 0
      · rw [if_pos he, if_pos he]
        have h8 := take_ok_n0 he
        rw [ih g _ (by rw [List.length_drop]; omega) (by rw [List.length_drop]; omega)]
      · rw [if_neg he, if_neg he]
theorem rowsF_eq (f : Nat) (bs : List Nat) (h : bs.length ≤ f) : rowsF f bs = rowsOf bs := rowsF_same f _ bs h (Nat.le_refl _)
theorem rows_no {bs : List Nat} (h : (takeOf bs).e ≠ 0) : rowsOf bs = [] := by
  unfold rowsOf
  cases bs.length with
  | zero => rfl
  | succ m => rw [rowsF, if_neg h]
theorem rows_yes {bs : List Nat} (h : (takeOf bs).e = 0) : rowsOf bs = ((takeOf bs).kind, (takeOf bs).body) :: rowsOf (bs.drop (takeOf bs).n) := by
  have h8 := take_ok_n0 h
  have hl := (take_ok_n h).2.1
  have e : rowsOf bs = rowsF bs.length bs := rfl
  rw [e]
  obtain ⟨m, hm⟩ : ∃ m, bs.length = m + 1 := ⟨bs.length - 1, by omega⟩
  rw [hm, rowsF, if_pos h, rowsF_eq m _ (by rw [List.length_drop]; omega)]
/-- How many bytes rows take. -/
def sizeR (rows : List (Nat × List Nat)) : Nat := (rows.map fun r => r.2.length + 8).sum
theorem sizeR_cons (r : Nat × List Nat) (rows : List (Nat × List Nat)) : sizeR (r :: rows) = r.2.length + 8 + sizeR rows := by simp [sizeR]
theorem sizeR_take (rows : List (Nat × List Nat)) (k : Nat) (r : Nat × List Nat) (h : rows[k]? = some r) : sizeR (rows.take (k + 1)) = sizeR (rows.take k) + (r.2.length + 8) := by
  unfold sizeR
  rw [List.take_add_one, h]
  simp
def endAt (bs : List Nat) : Nat := sizeR (rowsOf bs)
/-- Where the frames end, and what there is behind them. -/
theorem end_facts : ∀ (m : Nat) (bs : List Nat), bs.length ≤ m → endAt bs ≤ bs.length ∧ (takeOf (bs.drop (endAt bs))).e ≠ 0 := by
  intro m
  induction m with
  | zero =>
    intro bs h
    have : bs = [] := List.length_eq_zero_iff.1 (by omega)
    subst this
    have : endAt [] = 0 := rfl
    rw [this]
    exact ⟨Nat.le_refl _, by rw [List.drop_nil, ftake_nil]; omega⟩
  | succ m ih =>
    intro bs h
    unfold endAt
    by_cases he : (takeOf bs).e = 0
    · rw [rows_yes he, sizeR_cons]
      have h8 := take_ok_n he
      have := ih (bs.drop (takeOf bs).n) (by rw [List.length_drop]; omega)
      unfold endAt at this
      rw [List.length_drop, List.drop_drop] at this
      dsimp only
      rw [← h8.1]
      exact ⟨by omega, this.2⟩
    · rw [rows_no he]
      have : sizeR [] = 0 := rfl
      rw [this, List.drop_zero]
      exact ⟨by omega, he⟩
theorem end_le (bs : List Nat) : endAt bs ≤ bs.length := (end_facts bs.length bs (Nat.le_refl _)).1
theorem end_e (bs : List Nat) : (takeOf (bs.drop (endAt bs))).e ≠ 0 := (end_facts bs.length bs (Nat.le_refl _)).2
/-- Why they end. -/
def whyEnd (bs : List Nat) : Nat := if endAt bs = bs.length then 0 else (takeOf (bs.drop (endAt bs))).e
theorem sizeR_take_le (bs : List Nat) (k : Nat) : sizeR ((rowsOf bs).take k) ≤ bs.length := by
  have h1 : sizeR ((rowsOf bs).take k) ≤ endAt bs := by
    unfold endAt
    have : sizeR (rowsOf bs) = sizeR ((rowsOf bs).take k) + sizeR ((rowsOf bs).drop k) := by
      unfold sizeR
      rw [← List.sum_append, ← List.map_append, List.take_append_drop]
    omega
  exact Nat.le_trans h1 (end_le bs)
/- A range over a function that hands out a kind and bytes each time; rounds may leave the loop: what the loop owes, and what its function owes. -/
open Go.RowKit Go.Shelf

/-- All blocks but those of X lie as they lay. -/
structure Kept (X : Nat → Prop) (W W' : World) : Prop where
  size : W.heap.size ≤ W'.heap.size
  block : ∀ b, b < W.heap.size → ¬ X b → W'.heap[b]? = W.heap[b]?
theorem Kept.refl (X : Nat → Prop) (W : World) : Kept X W W := ⟨Nat.le_refl _, fun _ _ _ => rfl⟩
theorem Kept.trans {X : Nat → Prop} {A B C : World} (h : Kept X A B) (k : Kept X B C) : Kept X A C :=
  ⟨Nat.le_trans h.size k.size, fun b hb hx => (k.block b (Nat.lt_of_lt_of_le hb h.size) hx).trans (h.block b hb hx)⟩
theorem Kept.more {X Y : Nat → Prop} {A B : World} (h : Kept X A B) (hxy : ∀ b, X b → Y b) : Kept Y A B := ⟨h.size, fun b hb hy => h.block b hb (fun hx => hy (hxy b hx))⟩
theorem Kept.below {X : Nat → Prop} {W W' : World} (h : Below W.heap.size W W') : Kept X W W' := ⟨h.size, fun b hb _ => h.block b hb⟩
theorem Kept.only {X : Nat → Prop} {W W' : World} (h : Only X W W') : Kept X W W' := ⟨h.size, h.block⟩
theorem Kept.putObj {X : Nat → Prop} (W : World) (l : Nat) (o : Obj) (hl : X l) : Kept X W (W.putObj l o) :=
  ⟨by simp, fun b _ hx => World.putObj_heap_other (fun e => hx (e ▸ hl))⟩
theorem Kept.setCell {X : Nat → Prop} (W : World) (p : Addr) (v : Value) (hl : X p.block) : Kept X W (W.setCell p v) :=
  ⟨by simp, fun b _ hx => Below.heap_setCell _ _ _ _ (fun e => hx (e ▸ hl))⟩
theorem RB.keptX {X : Nat → Prop} {W W' : World} {v : Value} {bs : List Nat} (h : RB W v bs) (hk : Kept X W W') (hv : ∀ b, v.ownBlock = some b → ¬ X b) : RB W' v bs := by
  obtain ⟨h1, h2, h3⟩ := h
  refine ⟨h1, h2, ?_⟩
  rcases h3 with h3 | ⟨x, cap, rfl, ha, hm, hc⟩
  · exact .inl h3
  · refine .inr ⟨x, cap, rfl, ha, hm, fun i hi => ?_⟩
    have hbk : (x.add i).block = x.block := by unfold Addr.add; split <;> rfl
    have hlt := (cell_spot (hc i hi)).2
    rw [World.cell?_of_block (hk.block (x.add i).block hlt (by rw [hbk]; exact hv _ rfl))]
    exact hc i hi
/-- A turn of a block that holds no cells turns no bytes. -/
theorem RB.putObj {W : World} {v : Value} {bs : List Nat} (h : RB W v bs) {l : Nat} {o : Obj} (o' : Obj) (hl : W.heap[l]? = some o) (ho : o.isCells = false) : RB (W.putObj l o') v bs := by
  obtain ⟨h1, h2, h3⟩ := h
  refine ⟨h1, h2, ?_⟩
  rcases h3 with h3 | ⟨x, cap, rfl, ha, hm, hc⟩
  · exact .inl h3
  · exact .inr ⟨x, cap, rfl, ha, hm, fun i hi => cell_kept (hc i hi) (grownBy_putObj' W l o') (fun r e => by cases e; exact ⟨o, hl, ho⟩)⟩
theorem below_putObj {B : Nat} (W : World) (l : Nat) (o : Obj) (hl : B ≤ l) : Below B W (W.putObj l o) :=
  ⟨rfl, rfl, rfl, by simp, fun k hk => World.putObj_heap_other (by omega)⟩

theorem Kept.cell {X : Nat → Prop} {W W' : World} (h : Kept X W W') {p : Addr} (hp : p.block < W.heap.size) (hx : ¬ X p.block) : W'.cell? p = W.cell? p := World.cell?_of_block (h.block _ hp hx)
/-- All cells, and all blocks below B, lie as they lay. -/
structure Tame (B : Nat) (V V' : World) : Prop where
  os : V'.os = V.os
  tape : V'.tape = V.tape
  output : V'.output = V.output
  size : V.heap.size ≤ V'.heap.size
  block : ∀ b o, V.heap[b]? = some o → (o.isCells = true ∨ b < B) → V'.heap[b]? = some o
theorem Tame.below {B : Nat} {V V' : World} (h : Tame B V V') (hB : B ≤ V.heap.size) : Below B V V' :=
  ⟨h.os, h.tape, h.output, h.size, fun k hk => by
    have hlt : k < V.heap.size := by omega
    obtain ⟨o, ho⟩ : ∃ o, V.heap[k]? = some o := ⟨_, Array.getElem?_eq_getElem hlt⟩
    rw [ho]; exact h.block k o ho (.inr hk)⟩
theorem Tame.belowLe {B B' : Nat} {V V' : World} (h : Tame B V V') (hB : B' ≤ B) (hV : B' ≤ V.heap.size) : Below B' V V' :=
  ⟨h.os, h.tape, h.output, h.size, fun k hk => by
    have hlt : k < V.heap.size := by omega
    obtain ⟨o, ho⟩ : ∃ o, V.heap[k]? = some o := ⟨_, Array.getElem?_eq_getElem hlt⟩
    rw [ho]; exact h.block k o ho (.inr (by omega))⟩
theorem Tame.of_below {B : Nat} {V V' : World} (h : Below V.heap.size V V') : Tame B V V' :=
  ⟨h.os, h.tape, h.output, h.size, fun b o ho _ => (h.block b (Array.getElem?_eq_some_iff.1 ho).1).trans ho⟩
theorem Tame.trans {B : Nat} {A V V' : World} (h : Tame B A V) (k : Tame B V V') : Tame B A V' :=
  ⟨k.os.trans h.os, k.tape.trans h.tape, k.output.trans h.output, Nat.le_trans h.size k.size, fun b o ho hb => k.block b o (h.block b o ho hb) hb⟩
theorem Tame.putObj {B : Nat} (V : World) {l : Nat} {o : Obj} (o' : Obj) (hl : V.heap[l]? = some o) (ho : o.isCells = false) (hB : B ≤ l) : Tame B V (V.putObj l o') :=
  ⟨rfl, rfl, rfl, by simp, fun b u hu hb => by
    by_cases e : b = l
    · subst e
      rw [hl] at hu
      injection hu with hu
      subst hu
      rcases hb with hb | hb
      · rw [ho] at hb; cases hb
      · omega
    · exact (World.putObj_heap_other e).trans hu⟩
theorem isCells_of_cell {V : World} {p : Addr} {v : Value} (h : V.cell? p = some v) : ∃ o, V.heap[p.block]? = some o ∧ o.isCells = true := by
  have hlt := (cell_spot h).2
  refine ⟨V.heap[p.block], Array.getElem?_eq_getElem hlt, ?_⟩
  have h2 : V.heap[p.block]? = some V.heap[p.block] := Array.getElem?_eq_getElem hlt
  cases hc : V.heap[p.block] with
  | cells vs t => rfl
  | _ => simp [World.cell?, h2, hc] at h
theorem Tame.cell {B : Nat} {V V' : World} (h : Tame B V V') {p : Addr} {v : Value} (hc : V.cell? p = some v) : V'.cell? p = some v := by
  obtain ⟨o, ho, hi⟩ := isCells_of_cell hc
  exact (World.cell?_of_block ((h.block _ o ho (.inl hi)).trans ho.symm)).trans hc
theorem Tame.frozen {B : Nat} {V V' : World} (h : Tame B V V') {p : Addr} {v : Value} (hc : V.cell? p = some v) : V'.frozen? p = V.frozen? p := by
  obtain ⟨o, ho, hi⟩ := isCells_of_cell hc
  exact World.frozen?_of_block ((h.block _ o ho (.inl hi)).trans ho.symm)
/-- A variable of one's own in a block. -/
def Var (W : World) (b : Nat) (v : Value) : Prop := W.cell? ⟨b, 0, none⟩ = some v ∧ W.frozen? ⟨b, 0, none⟩ = false
theorem Var.lt {W : World} {b : Nat} {v : Value} (h : Var W b v) : b < W.heap.size := (cell_spot h.1).2
theorem Var.tame {B : Nat} {W W' : World} {b : Nat} {v : Value} (h : Var W b v) (t : Tame B W W') : Var W' b v := ⟨t.cell h.1, (t.frozen h.1).trans h.2⟩
theorem Var.kept {W W' : World} {b : Nat} {v : Value} (h : Var W b v) (t : Below W.heap.size W W') : Var W' b v := h.tame (Tame.of_below (B := 0) t)
theorem Var.keptX {X : Nat → Prop} {W W' : World} {b : Nat} {v : Value} (h : Var W b v) (t : Kept X W W') (hx : ¬ X b) : Var W' b v :=
  ⟨(t.cell (p := ⟨b, 0, none⟩) h.lt hx).trans h.1, (World.frozen?_of_block (t.block _ h.lt hx)).trans h.2⟩
theorem Var.set {W : World} {b : Nat} {v : Value} (h : Var W b v) (u : Value) (hu : u.oneCell' = true) (hv : v.oneCell' = true) : Var (W.setCell ⟨b, 0, none⟩ u) b u :=
  ⟨World.cell?_setCell_same' _ _ _ (by rw [h.1]; rfl), (World.frozen?_setCell _ _ _ _).trans h.2⟩
theorem Var.other {W : World} {b c : Nat} {v : Value} (h : Var W b v) (hne : b ≠ c) (o : Nat) (u : Value) : Var (W.setCell ⟨c, o, none⟩ u) b v :=
  ⟨(World.cell?_of_block (Below.heap_setCell _ _ _ _ hne)).trans h.1, (World.frozen?_setCell _ _ _ _).trans h.2⟩
theorem Var.new (W : World) (v : Value) (t : TypeId) (hv : v.oneCell' = true) : Var (W.alloc (.cells #[v] t)) W.heap.size v := ⟨by simp, by simp⟩
theorem Tame.rb {B : Nat} {V V' : World} (h : Tame B V V') {v : Value} {bs : List Nat} (hr : RB V v bs) : RB V' v bs := by
  obtain ⟨h1, h2, h3⟩ := hr
  refine ⟨h1, h2, ?_⟩
  rcases h3 with h3 | ⟨x, cap, rfl, ha, hm, hc⟩
  · exact .inl h3
  · exact .inr ⟨x, cap, rfl, ha, hm, fun i hi => h.cell (hc i hi)⟩

/-- What yield owes the function that calls it: round k takes row k, and says 'on', or 'enough'. -/
def Yielding (l : Nat) (X : Nat → Prop) (rows : List (Nat × List Nat)) (J : Nat → World → Prop) (Js : World → Prop) : Prop :=
  ∀ (k kd : Nat) (body : List Nat) (u : Value) (W : World), rows[k]? = some (kd, body) → J k W → RB W u body →
    YieldAt Fence.wide 1 Try.prog l #[.int .u8 (kd : Int), u] W fun e W' => (∃ b, e = .returned (.bool b) ∧ (b = true → J (k + 1) W' ∧ Kept X W W') ∧ (b = false → Js W'))
/-- What the function owes the loop. -/
def Handing (gf : Nat) (lb : Array Value) (rows : List (Nat × List Nat)) (X : Nat → Prop) (w : World) : Prop :=
  ∀ (J : Nat → World → Prop) (Js : World → Prop), (∀ k V V', J k V → Below V.heap.size V V' → J k V') → (∀ V V', Js V → Below V.heap.size V V' → Js V') → ∀ (l : Nat) (W : World), w.heap.size < l → Below w.heap.size w W →
    Yielding l (fun b => X b ∨ b = l) rows J Js → J 0 W → CallsIn Fence.wide 2 Try.prog gf (#[.func (.yield l) #[] #[]] ++ lb) W fun e W' => (∃ v, e = .returned v) ∧ (J rows.length W' ∨ Js W')
/-- How a round is left. -/
def Around (X : Nat → Prop) (I : World → Prop) (Ix : Code → World → Prop) (W : World) : Exit → Act → World → Prop
  | .normal, _, W' => KeepsOthers W W' ∧ Kept X W W' ∧ I W'
  | .ret, _, W' => KeepsOthers W W' ∧ Ix .ret W'
  | .exit id, _, W' => KeepsOthers W W' ∧ Ix (.exit id) W'
  | _, _, _ => False

theorem range_frames {g : Operand} {ps : Array Tmp} {assign body : Code} {Q : Exit → Act → World → Prop} {a : Act} {w : World} {gf : Nat} {lb : Array Value}
    (hg : a.eval g = .func (.func gf) #[] lb) (eg : ∀ args w, (callFunc gf args).run Try.prog w = .ok (.enter gf args) w)
    (rows : List (Nat × List Nat)) (X : Nat → Prop) (hiter : Handing gf lb rows X w)
    (I : Nat → World → Prop) (Ix : Code → World → Prop) (hI : ∀ k V V', I k V → Tame w.heap.size V V' → I k V') (hIx : ∀ c V V', Ix c V → Tame w.heap.size V V' → Ix c V') (h0 : I 0 w) (hps : ps.size = 2) (a₁ : Nat → Value → Act)
    (hassign : ∀ (l kd : Nat) (u : Value) (W : World) (K : Act → World → Prop), K (a₁ kd u) W →
      assign.wpIn (Fence.wide.inRound l) 1 Try.prog (Exit.then K (fun _ _ _ => False)) { tmps := (ps.zip #[.int .u8 (kd : Int), u]).foldl (fun t (p, v) => t.setIfInBounds p v) a.tmps, defers := [] } W)
    (hbody : ∀ (l k kd : Nat) (bs : List Nat) (u : Value) (W : World), rows[k]? = some (kd, bs) → I k W → RB W u bs → w.heap.size ≤ W.heap.size → body.wpIn (Fence.wide.inRound l) 1 Try.prog (Around X (I (k + 1)) Ix W) (a₁ kd u) W)
    (hdone : ∀ (W : World), I rows.length W → W.heap[w.heap.size]? = some (.deferred (some [])) → Q .normal { a with defers := { target := .collected w.heap.size, args := #[] } :: a.defers } W)
    (hstop : ∀ (c : Code) (W : World), Ix c W → W.heap[w.heap.size]? = some (.deferred (some [])) → c.wpIn Fence.wide 3 Try.prog Q { a with defers := { target := .collected w.heap.size, args := #[] } :: a.defers } W) :
    (Code.rangeFunc g ps assign body).wpIn Fence.wide 3 Try.prog Q a w := by
  refine wpIn_rangeFunc fun fn _ => ?_
  obtain ⟨B, hB⟩ : ∃ B, w.heap.size = B := ⟨_, rfl⟩
  rw [hB] at hI hIx hdone hstop hbody
  obtain ⟨rec, hrec⟩ : ∃ rec : LoopState → Option Code → Loop, rec = fun st pe => { state := st, pending := pe, fn, tmps := a.tmps, params := ps, assign, body, defers := B } := ⟨_, rfl⟩
  have start := run_enterLoop_outer (P := Try.prog) (w := w) fn a.tmps ps assign body
  rw [hB] at start
  obtain ⟨W1, hW1⟩ : ∃ W1, (w.alloc (.deferred (some []))).alloc (.loop (rec .ready none)) = W1 := ⟨_, rfl⟩
  have start' : (Instr.enterLoop fn a.tmps ps assign body Fence.wide.round).run Try.prog w = .ok (B + 1, [{ target := .collected B, args := #[] }]) W1 := by
    rw [← hW1, hrec]; exact start
  have hlt : (w.alloc (.deferred (some []))).heap.size = B + 1 := by rw [World.size_alloc, hB]
  have hL : W1.heap[B + 1]? = some (.loop (rec .ready none)) := by
    have := World.alloc_heap_new (w.alloc (.deferred (some []))) (.loop (rec .ready none)); rw [hlt, hW1] at this; exact this
  have hD : W1.heap[B]? = some (.deferred (some [])) := by
    rw [← hW1, Below.heap_alloc _ _ _ (by omega), ← hB]; exact World.alloc_heap_new w _
  have hbW : Below B w W1 := by
    rw [← hW1]
    exact ((Below.refl B w).alloc (by omega) _).alloc (by omega) _
  -- the call's own invariant, and the loop's record and block beside it
  let J : Nat → World → Prop := fun k V => I k V ∧ V.heap[B + 1]? = some (.loop (rec .ready none)) ∧ V.heap[B]? = some (.deferred (some []))
  let Js : World → Prop := fun V => ∃ c, Ix c V ∧ V.heap[B + 1]? = some (.loop (rec .done (some c))) ∧ V.heap[B]? = some (.deferred (some []))
  have hJ : ∀ k V V', J k V → Below V.heap.size V V' → J k V' := fun k V V' ⟨h1, h2, h3⟩ hb => by
    have s2 := (Array.getElem?_eq_some_iff.1 h2).1
    exact ⟨hI k V V' h1 (Tame.of_below hb), (hb.block _ s2).trans h2, (hb.block _ (by omega)).trans h3⟩
  have hJs : ∀ V V', Js V → Below V.heap.size V V' → Js V' := fun V V' ⟨c, h1, h2, h3⟩ hb => by
    have s2 := (Array.getElem?_eq_some_iff.1 h2).1
    exact ⟨c, hIx c V V' h1 (Tame.of_below hb), (hb.block _ s2).trans h2, (hb.block _ (by omega)).trans h3⟩
  have hY : Yielding (B + 1) (fun b => X b ∨ b = B + 1) rows J Js := by
    rintro k kd bs u W hrow ⟨h1, h2, h3⟩ hu
    have hy := run_yield (P := Try.prog) (args := #[.int .u8 (kd : Int), u]) h2 (by rw [hrec]; exact hps.symm)
    refine ⟨_, _, _, _, hy, roundIn_of_wpIn trivial ?_⟩
    rw [hrec]
    have s2 := (Array.getElem?_eq_some_iff.1 h2).1
    refine hassign (B + 1) kd u W _ ⟨_, run_beginRound (r := rec .ready none) h2 (by rw [hrec]), ?_⟩
    have hst : ({ rec .ready none with state := .busy } : Loop) = rec .busy none := by rw [hrec]
    rw [hst]
    have hT := Tame.putObj (B := B) W (.loop (rec .busy none)) h2 rfl (show B ≤ B + 1 by omega)
    have g2 : (W.putObj (B + 1) (.loop (rec .busy none))).heap[B + 1]? = some (.loop (rec .busy none)) := World.putObj_heap_same s2
    have g3 : (W.putObj (B + 1) (.loop (rec .busy none))).heap[B]? = some (.deferred (some [])) := (World.putObj_heap_other (by omega)).trans h3
    refine wpIn_mono (hbody (B + 1) k kd bs u _ hrow (hI k _ _ h1 hT) (hT.rb hu) (by have := hT.size; omega)) ?_
    have fin : ∀ (jump : Option Code) (W3 : World), KeepsOthers (W.putObj (B + 1) (.loop (rec .busy none))) W3 →
        (Instr.endRound (B + 1) jump).run Try.prog W3 = .ok (.bool jump.isNone) (W3.putObj (B + 1) (.loop (rec (if jump.isNone then .ready else .done) jump))) ∧
        Tame B W3 (W3.putObj (B + 1) (.loop (rec (if jump.isNone then .ready else .done) jump))) ∧
        (W3.putObj (B + 1) (.loop (rec (if jump.isNone then .ready else .done) jump))).heap[B + 1]? = some (.loop (rec (if jump.isNone then .ready else .done) jump)) ∧
        (W3.putObj (B + 1) (.loop (rec (if jump.isNone then .ready else .done) jump))).heap[B]? = some (.deferred (some [])) := fun jump W3 hk3 => by
      have k2 := hk3.same _ _ g2 rfl
      have k3 := hk3.same _ _ g3 rfl
      have hend := run_endRound (P := Try.prog) jump k2
      have hfin : ({ rec .busy none with state := if jump.isNone then LoopState.ready else LoopState.done, pending := jump } : Loop) = rec (if jump.isNone then .ready else .done) jump := by rw [hrec]
      rw [hfin] at hend
      exact ⟨hend, Tame.putObj W3 _ k2 rfl (by omega), World.putObj_heap_same (Array.getElem?_eq_some_iff.1 k2).1, (World.putObj_heap_other (by omega)).trans k3⟩
    rintro e a3 W3 hp
    cases e with
    | normal =>
      obtain ⟨hk, hx, hi⟩ := hp
      obtain ⟨hr, ht, hl3, hd3⟩ := fin none W3 hk
      refine ⟨_, _, hr, true, rfl, fun _ => ⟨⟨hI _ _ _ hi ht, hl3, hd3⟩, ?_⟩, fun h => by cases h⟩
      exact ((Kept.putObj W _ _ (.inr rfl)).trans (hx.more fun b hb => .inl hb)).trans (Kept.putObj W3 _ _ (.inr rfl))
    | ret =>
      obtain ⟨hk, hi⟩ := hp
      obtain ⟨hr, ht, hl3, hd3⟩ := fin (some .ret) W3 hk
      exact ⟨_, _, hr, false, rfl, fun h => (by cases h), fun _ => ⟨.ret, hIx _ _ _ hi ht, hl3, hd3⟩⟩
    | exit id =>
      obtain ⟨hk, hi⟩ := hp
      obtain ⟨hr, ht, hl3, hd3⟩ := fin (some (.exit id)) W3 hk
      exact ⟨_, _, hr, false, rfl, fun h => (by cases h), fun _ => ⟨.exit id, hIx _ _ _ hi ht, hl3, hd3⟩⟩
    | goto t => exact hp.elim
    | panic ch => exact hp.elim
    | outgrown => exact hp.elim
  refine ⟨B + 1, [{ target := .collected B, args := #[] }], W1, { target := .fn (.func gf) lb, args := #[.func (.yield (B + 1)) #[] #[]] }, W1, gf, #[.func (.yield (B + 1)) #[] #[]] ++ lb, W1, start', ?_, fun _ _ => trivial, ?_, fun _ => by omega, ?_⟩
  · simp only [resolve, hg]
    simp [go_sem]
  · simp [invoke, go_sem, eg]
  · refine (hiter J Js hJ hJs (B + 1) W1 (by omega) (by rw [hB]; exact hbW) hY ⟨hI 0 _ _ h0 (Tame.of_below (by rw [hB]; exact hbW)), hL, hD⟩).mono ?_
    rintro e W2 ⟨⟨v, rfl⟩, (⟨h1, h2, h3⟩ | ⟨c, h1, h2, h3⟩)⟩
    · have hend := run_endLoop (P := Try.prog) h2 (by rw [hrec]; simp)
      have hp : (rec .ready none).pending = none := by rw [hrec]
      rw [hp] at hend
      exact ⟨none, _, hend, hdone _ (hI _ _ _ h1 (Tame.putObj W2 _ h2 rfl (by omega))) ((World.putObj_heap_other (by omega)).trans h3)⟩
    · have hend := run_endLoop (P := Try.prog) h2 (by rw [hrec]; simp)
      have hp : (rec .done (some c)).pending = some c := by rw [hrec]
      rw [hp] at hend
      exact ⟨some c, _, hend, hstop c _ (hIx c _ _ h1 (Tame.putObj W2 _ h2 rfl (by omega))) ((World.putObj_heap_other (by omega)).trans h3)⟩
/- Walks of frame: the function that enumerates frames (rounds may leave it); frames; Each. -/
open Go.RowKit Go.Shelf
attribute [local go_sem] Oper.semAt_some

def lenV : Value → Nat
  | .slice _ n _ => n
  | _ => 0
set_option maxHeartbeats 1000000 in
theorem frames1_in (l c : Nat) (X : Nat → Prop) (v : Value) (bs : List Nat) (J : Nat → World → Prop) (Js : World → Prop) (hJ : ∀ k V V', J k V → Below V.heap.size V V' → J k V')
    (hX : ∀ b, v.ownBlock = some b → ¬ X b) (hY : Yielding l X (rowsOf bs) J Js) (W : World) (hbox : W.cell? ⟨c, 0, none⟩ = some v) (hb : RB W v bs) (h0 : J 0 W) :
    CallsIn Fence.wide 2 Try.prog 138 #[.func (.yield l) #[] #[], .pointer (some ⟨c, 0, none⟩)] W fun e W' => (∃ v, e = .returned v) ∧ (J (rowsOf bs).length W' ∨ Js W') := by
  obtain ⟨a0, cap0, rfl, _, _⟩ := hb.shape
  obtain ⟨n0, hn0⟩ : ∃ n, bs.length = n := ⟨_, rfl⟩
  rw [hn0] at hX hbox hb
  have HN := Lib.hid hn0
  have HX := Lib.hid hX
  have HB := Lib.hid hb
  have HJ := Lib.hid hJ
  have HY := Lib.hid hY
  have H0 := Lib.hid h0
  clear hn0 hX hb hJ hY h0
  refine callsIn_of_wp Try.func138 rfl trivial ?_
  simp only [Try.ntmps138, List.size_toArray, List.length_cons, List.length_nil, Nat.reduceAdd, Nat.reduceSub, Array.replicate_succ, Array.replicate_zero, List.push_toArray, List.append_toArray, List.nil_append, List.cons_append]
  gi_wp2
  gi_loopw [3] (fun s wr => ∃ (k : Nat) (v' : Value) (rest : List Nat), s = v' ∧ RB wr v' rest ∧ (∀ b, v'.ownBlock = some b → ¬ X b) ∧ k ≤ (rowsOf bs).length ∧ (rowsOf bs).drop k = rowsOf rest ∧ J k wr) (fun s _ => lenV s)
  case atStart => exact ⟨0, _, bs, rfl, HB.out, HX.out, by omega, List.drop_zero, H0.out⟩
  case round =>
    clear hbox
    obtain ⟨k, v', rest, rfl, hr, hx, hk, hd, hj⟩ := hrel
    have HT := Lib.hid (take_any _ _ wr hr)
    by_cases he : (takeOf rest).e = 0
    · obtain ⟨hn8, hnl, hb6⟩ := take_ok_n he
      have hrow := rows_yes he
      rw [hrow] at hd
      have hget : (rowsOf bs)[k]? = some ((takeOf rest).kind, (takeOf rest).body) := by
        have : ((rowsOf bs).drop k)[0]? = some ((takeOf rest).kind, (takeOf rest).body) := by rw [hd]; rfl
        rwa [List.getElem?_drop, Nat.add_zero] at this
      have hd1 : (rowsOf bs).drop (k + 1) = rowsOf (rest.drop (takeOf rest).n) := by
        rw [← List.drop_drop, hd]; rfl
      have hk1 : k + 1 ≤ (rowsOf bs).length := (List.getElem?_eq_some_iff.1 hget).1
      obtain ⟨b, off, cap, hv, hcap, hcm, _, _⟩ := hr.at (by omega)
      subst hv
      have HR := Lib.hid hr
      have HXX := Lib.hid hx
      have HJK := Lib.hid hj
      have HG := Lib.hid hget
      have HD := Lib.hid hd1
      generalize takeOf rest = t at *
      obtain ⟨kd, body, n, e⟩ := t
      dsimp only at he hn8 hnl hb6 HG HD
      subst he
      obtain ⟨L, hL⟩ : ∃ L, rest.length = L := ⟨_, rfl⟩
      have HL := Lib.hid hL
      rw [hL] at HT HR HXX hcap hnl ⊢
      unfold maxLen at hcm
      clear hr hx hd hj hrow hget hd1 hL
      gi_wp2_with (refine ⟨trivial, ?_⟩; gi_at_call 126; refine (callsIn_wide.2 HT.out).mono ?_; rintro e w1 ⟨u, rfl, hu, hB⟩; obtain ⟨ua, uc, hus, _, _⟩ := hu.shape; subst hus)
      have hBk := hB
      obtain ⟨fn, tmps, assign, body', hy, hRd⟩ := HY.out k kd body _ w1 HG.out (HJ.out _ _ _ HJK.out hB) hu
      clear hu
      gi_wp2
      rw [hy]
      gi_wp2
      refine hRd.mono ?_
      rintro e W3 ⟨yb, rfl, hyt, hyf⟩
      cases yb with
      | false =>
        have HJS := Lib.hid (hyf rfl)
        clear hyt hyf hy hRd hBk hB
        gi_wp2
        refine bodyPost_ret (results_none rfl _ _ _) rfl ?_
        exact ⟨⟨_, rfl⟩, .inr HJS.out⟩
      | true =>
      obtain ⟨hJ3, hk3⟩ := hyt rfl
      clear hyf hyt
      have hK : Kept X wr W3 := (Kept.below hB).trans hk3
      have HR3 := Lib.hid (HR.out.keptX hK HXX.out)
      clear hy hRd hBk hB hK hk3
      by_cases hq : cap = body.length + 8
      · have hLn : L = body.length + 8 := by omega
        gi_wp2
        go_roundw
        case rel =>
          have hnil : rest.drop n = [] := List.drop_of_length_le (by have := HL.out; omega)
          rw [hnil] at HD
          exact ⟨k + 1, _, [], rfl, ⟨by simp, by simp, .inr ⟨⟨b, off, none⟩, 0, by simp, by simp, by simp, fun i hi => by simp at hi⟩⟩, fun b' hb' => HXX.out b' hb', hk1, HD.out, hJ3⟩
        case measure => simp [lenV]; omega
      · gi_wp2
        go_roundw
        case rel =>
          have hbh := HR3.out.behind n (by have := HL.out; omega)
          rw [hn8] at hbh
          exact ⟨k + 1, _, rest.drop n, rfl, by rw [hn8]; exact hbh, fun b' hb' => HXX.out b' hb', hk1, HD.out, hJ3⟩
        case measure => simp [lenV]; omega
    · have hrow := rows_no he
      rw [hrow] at hd
      have hkl : k = (rowsOf bs).length := by have := List.drop_eq_nil_iff.1 hd; omega
      have HK := Lib.hid hkl
      have HJK := Lib.hid hj
      obtain ⟨ra, rc, hv, _, _⟩ := hr.shape
      subst hv
      generalize takeOf rest = t at *
      obtain ⟨kd, body, n, e⟩ := t
      dsimp only at he
      have hx : ((e : Int) != 0) = true := by simp; omega
      obtain ⟨L, hL⟩ : ∃ L, rest.length = L := ⟨_, rfl⟩
      rw [hL] at HT ⊢
      clear hr hd hj hrow hkl hL he
      gi_wp2_with (refine ⟨trivial, ?_⟩; gi_at_call 126; refine (callsIn_wide.2 HT.out).mono ?_; rintro e w1 ⟨u, rfl, hu, hB⟩; obtain ⟨ua, uc, hus, _, _⟩ := hu.shape; subst hus)
      refine ⟨fun _ h => (by cases h), ?_⟩
      gi_wp2
      refine bodyPost_ret (results_none rfl _ _ _) rfl ?_
      exact ⟨⟨_, rfl⟩, .inl (by rw [← HK.out]; exact HJ.out _ _ _ HJK.out hB)⟩

/-- What frames hands back: the function, that holds the bytes in a box of its own. -/
theorem frames_any (v : Value) (bs : List Nat) (w : World) (hb : RB w v bs) :
    Calls Try.prog 112 #[v] w fun e w' => e = .returned (.func (.func 138) #[] #[.pointer (some ⟨w.heap.size, 0, none⟩)]) ∧ w.alloc (.cells #[v] 28) = w' := by
  have hmf : ∀ (fn : Fn) (first cap : Array Value) (w : World), (Instr.makeFunc fn first cap).run Try.prog w = .ok (.func fn first cap) w := fun _ _ _ _ => rfl
  obtain ⟨a, cap, rfl, _, _⟩ := hb.shape
  obtain ⟨n, hn⟩ : ∃ n, bs.length = n := ⟨_, rfl⟩
  rw [hn]
  clear hb hn
  go_enter Try.func112, Try.ntmps112
  go_wp2
  go_ret
  exact ⟨rfl, rfl⟩
theorem frames_enters : ∀ args w, (callFunc 138 args).run Try.prog w = .ok (.enter 138 args) w := enters_of Try.func138 (by kernel_rfl) rfl
/-- The enumeration of the frames with which bytes begin, over whatever loop. -/
theorem frames_handing (v : Value) (bs : List Nat) (c : Nat) (X : Nat → Prop) (w : World) (hX : ∀ b, v.ownBlock = some b → ¬ X b ∧ b < w.heap.size) (hbox : w.cell? ⟨c, 0, none⟩ = some v) (hb : RB w v bs) :
    Handing 138 #[.pointer (some ⟨c, 0, none⟩)] (rowsOf bs) X w := by
  intro J Js hJ _ l W hl hB hY h0
  refine frames1_in l c (fun b => X b ∨ b = l) v bs J Js hJ ?_ hY W ((hB.cell (p := ⟨c, 0, none⟩) (cell_spot hbox).2).trans hbox) (hb.kept hB) h0
  intro b hv hx
  obtain ⟨h1, h2⟩ := hX b hv
  rcases hx with hx | hx
  · exact h1 hx
  · omega
/-- What Each hands back. -/
def Eached (w : World) (bs : List Nat) (e : Ending) (w' : World) : Prop :=
  ∃ c v', e = .returned (.func (.func 138) #[] #[.pointer (some ⟨c, 0, none⟩)]) ∧ w'.cell? ⟨c, 0, none⟩ = some v' ∧ RB w' v' bs ∧
    (∀ b, v'.ownBlock = some b → w.heap.size ≤ b ∧ b < w'.heap.size) ∧ Below w.heap.size w w'
theorem each_any (v : Value) (bs : List Nat) (w : World) (hb : RB w v bs) : Calls Try.prog 69 #[v] w (Eached w bs) := by
  have HC := Lib.hid (clone_any v bs w hb)
  have HLT := Lib.hid hb.1
  have HL := Lib.hid hb.2.1
  obtain ⟨a, cap, rfl, _, _⟩ := hb.shape
  obtain ⟨n, hn⟩ : ∃ n, bs.length = n := ⟨_, rfl⟩
  rw [hn] at HC HL ⊢
  have HN := Lib.hid hn
  clear hb hn
  go_enter Try.func69, Try.ntmps69
  go_wp2_with (first
    | (go_at_call 58; refine HC.out.mono ?_; rintro e w1 ⟨u, rfl, ho, hb1⟩; have hr := ho.rb HLT.out (by have := HN.out; have := HL.out; omega); obtain ⟨ua, uc, hus, _, _⟩ := hr.shape; subst hus; have HO := Lib.hid ho; have HB1 := Lib.hid hb1; have HR := Lib.hid hr; clear hr ho hb1)
    | (go_at_call 112; refine (frames_any _ bs _ HR.out).mono ?_; rintro e w2 ⟨rfl, rfl⟩))
  go_ret
  refine ⟨_, _, rfl, ?_, HR.out.kept ((Below.refl _ _).alloc (Nat.le_refl _) _), fun b hb => ?_, HB1.out.alloc HB1.out.size _⟩
  · simp
  · have := World.ownsRow.lt HO.out b hb
    exact ⟨this.1, by rw [World.size_alloc]; omega⟩

end Go.Proofs.Ythefnakbpalecaa

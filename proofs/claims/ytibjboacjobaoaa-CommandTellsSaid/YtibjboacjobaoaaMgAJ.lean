import Derived.Test.YtibjboacjobaoaaMgAH
import Derived.Test.YtibjboacjobaoaaMgAI
import Derived.OneCell
namespace Go.Proofs.Ytibjboacjobaoaa
open Go.RowKit
/- The plan's methods, told by what they turn: the plan's cell alone. -/
open Go.RowKit

theorem only_drewN (X : Nat → Prop) (w : World) (q : Nat) : Only X w (w.drewN q) := ⟨rfl, rfl, rfl, Nat.le_refl _, fun _ _ _ => rfl⟩
/-- What the plan's Nth leaves behind. -/
def NthGotO (base P C : Nat) (a : Option Addr) (n c : Nat) (F T : Nat → Int) (v e : Int) (w : World) (E : Ending) (w' : World) : Prop :=
  E = .returned (.tuple #[.int .i64 v, .int .i64 e]) ∧ Pl base P C a n c F T w' ∧ Only (· = C) w w'
/- A clock in memory; its small functions. -/
open Go.RowKit

/-- Where a clock lies: its block, its almanac's, its plan's, the plan's cell's; the two rows. -/
structure Loc where
  base : Nat
  K : Nat
  A : Nat
  P : Nat
  C : Nat
  a : Option Addr
  ca : Nat
  b : Option Addr
  cb : Nat
structure Ck (L : Loc) (D : Cal) (w : World) : Prop where
  k0 : w.cell? ⟨L.K, 0, none⟩ = some (.pointer (some ⟨L.A, 0, none⟩))
  k1 : w.cell? ⟨L.K, 1, none⟩ = some (.pointer (some ⟨L.P, 0, none⟩))
  k2 : w.cell? ⟨L.K, 2, none⟩ = some (.int .i64 D.off)
  al : w.cell? ⟨L.A, 0, none⟩ = some (.slice L.b D.m L.cb)
  cs : Sps w L.b D.m D.G D.U
  cap : D.m ≤ L.cb
  pl : Pl L.base L.P L.C L.a D.n L.ca D.F D.T w
  neK : L.K ≠ L.C
  neA : L.A ≠ L.C
  far : ∀ x, 0 < D.m → L.b = some x → x.block ≠ L.C
theorem Ck.ltK {L : Loc} {D : Cal} {w : World} (h : Ck L D w) : L.K < w.heap.size := (cell_spot h.k0).2
theorem Ck.ltA {L : Loc} {D : Cal} {w : World} (h : Ck L D w) : L.A < w.heap.size := (cell_spot h.al).2
theorem Ck.alm {L : Loc} {D : Cal} {w : World} (h : Ck L D w) (hd : D.ok) : Alm (some ⟨L.A, 0, none⟩) L.b D.m L.cb D.G D.U w := ⟨.inr ⟨L.A, rfl, h.al⟩, h.cs, h.cap, hd.len, hd.good⟩
theorem Ck.kept {L : Loc} {D : Cal} {w w' : World} (h : Ck L D w) (hb : Below w.heap.size w w') : Ck L D w' :=
  ⟨(hb.cell (p := ⟨L.K, 0, none⟩) h.ltK).trans h.k0, (hb.cell (p := ⟨L.K, 1, none⟩) h.ltK).trans h.k1, (hb.cell (p := ⟨L.K, 2, none⟩) h.ltK).trans h.k2, (hb.cell (p := ⟨L.A, 0, none⟩) h.ltA).trans h.al, h.cs.kept hb, h.cap, h.pl.kept hb, h.neK, h.neA, h.far⟩
theorem Ck.only {L : Loc} {D : Cal} {w w' : World} (h : Ck L D w) (o : Only (· = L.C) w w') (hp : Pl L.base L.P L.C L.a D.n L.ca D.F D.T w') : Ck L D w' :=
  ⟨(o.cell (p := ⟨L.K, 0, none⟩) h.ltK h.neK).trans h.k0, (o.cell (p := ⟨L.K, 1, none⟩) h.ltK h.neK).trans h.k1, (o.cell (p := ⟨L.K, 2, none⟩) h.ltK h.neK).trans h.k2, (o.cell (p := ⟨L.A, 0, none⟩) h.ltA h.neA).trans h.al, h.cs.only o h.far, h.cap, hp, h.neK, h.neA, h.far⟩
theorem Ck.drewN {L : Loc} {D : Cal} {w : World} (h : Ck L D w) (q : Nat) : Ck L D (w.drewN q) := h.kept ⟨rfl, rfl, rfl, Nat.le_refl _, fun _ _ => rfl⟩

def instB (t : Int) : Bool := decide (0 ≤ t) && decide (t ≤ 1125899906842624)
theorem instB_iff (t : Int) : instB t = true ↔ 0 ≤ t ∧ t ≤ 1125899906842624 := by simp [instB]
/-- What a clock's method leaves behind. -/
def Asks (L : Loc) (D : Cal) (v : Value) (w : World) (e : Ending) (w' : World) : Prop := e = .returned v ∧ Ck L D w' ∧ Only (· = L.C) w w'
/- Elapsed. -/
open Go.RowKit Go.Shelf
attribute [local go_sem] Oper.semAt_some

theorem Only.tame {X : Nat → Prop} {B : Nat} {w V V' : World} (h : Only X w V) (t : Tame B V V') (hB : w.heap.size ≤ B) : Only X w V' :=
  ⟨t.os.trans h.os, t.tape.trans h.tape, t.output.trans h.output, Nat.le_trans h.size t.size, fun k hk hx => by
    have hlt : k < V.heap.size := Nat.lt_of_lt_of_le hk h.size
    obtain ⟨o, ho⟩ : ∃ o, V.heap[k]? = some o := ⟨_, Array.getElem?_eq_getElem hlt⟩
    exact (t.block k o ho (.inr (by omega))).trans (ho.symm.trans (h.block k hk hx))⟩
theorem Only.setCell_new {X : Nat → Prop} {w w' : World} (h : Only X w w') {p : Addr} (hp : w.heap.size ≤ p.block) (v : Value) : Only X w (w'.setCell p v) :=
  ⟨h.os, h.tape, h.output, by have := h.size; simpa using this, fun k hk hx => (Below.heap_setCell _ _ _ _ (by omega)).trans (h.block k hk hx)⟩
theorem Tame.same {B : Nat} {V V' : World} (h : Tame B V V') {p : Addr} {v : Value} (hc : V.cell? p = some v) : V'.heap[p.block]? = V.heap[p.block]? := by
  obtain ⟨o, ho, hi⟩ := isCells_of_cell hc
  exact (h.block _ o ho (.inl hi)).trans ho.symm
theorem Pl.tame {B base P C : Nat} {a : Option Addr} {n c : Nat} {F T : Nat → Int} {w w' : World} (h : Pl base P C a n c F T w) (t : Tame B w w') : Pl base P C a n c F T w' := by
  refine ⟨h.hP, h.hC, h.ne, Nat.lt_of_lt_of_le h.lt t.size, t.cell h.row, t.cell h.bef, h.sps.tame t, h.far, ?_⟩
  rcases h.cel with ⟨k, hc⟩ | ⟨g, vc, k, hc, hg, hl, hk⟩
  · exact .inl ⟨k, hc.of_block (t.same (p := ⟨C, 0, none⟩) hc.build)⟩
  · exact .inr ⟨g, vc, k, hc.of_block (t.same (p := ⟨C, 0, none⟩) hc.build), ⟨hg.1, hg.2.same (t.same (p := ⟨g, 0, none⟩) (hk 0 (Nat.zero_le _)))⟩, Nat.lt_of_lt_of_le hl t.size, fun j hj => t.cell (hk j hj)⟩
theorem Ck.tame {B : Nat} {L : Loc} {D : Cal} {w w' : World} (h : Ck L D w) (t : Tame B w w') : Ck L D w' :=
  ⟨t.cell h.k0, t.cell h.k1, t.cell h.k2, t.cell h.al, h.cs.tame t, h.cap, h.pl.tame t, h.neK, h.neA, h.far⟩
theorem keepsOthers_only {X : Nat → Prop} {w w' : World} (h : Only X w w') (hx : ∀ k o, X k → w.heap[k]? = some o → o.isCells = true) : KeepsOthers w w' :=
  ⟨h.size, fun k o hk ho => by
    by_cases hc : X k
    · rw [hx k o hc hk] at ho; cases ho
    · exact (h.block k (Array.getElem?_eq_some_iff.1 hk).1 hc).trans hk⟩
theorem Ck.cells {L : Loc} {D : Cal} {w : World} (h : Ck L D w) : ∀ k o, k = L.C → w.heap[k]? = some o → o.isCells = true := by
  rintro k o rfl ho
  have hc : ∃ v, w.cell? ⟨L.C, 0, none⟩ = some v := by
    rcases h.pl.cel with ⟨k, hc⟩ | ⟨g, vc, k, hc, _⟩
    · exact ⟨_, hc.build⟩
    · exact ⟨_, hc.build⟩
  obtain ⟨v, hv⟩ := hc
  obtain ⟨o', ho', hi⟩ := isCells_of_cell hv
  have : o = o' := by
    have h2 : w.heap[L.C]? = some o' := ho'
    rw [ho] at h2
    injection h2
  rw [this]; exact hi

/-- A block of one cell. -/
def One (W : World) (b : Nat) (v : Value) : Prop := ∃ t, W.heap[b]? = some (.cells #[v] t (0, 0))
theorem One.var {W : World} {b : Nat} {v : Value} (h : One W b v) : Var W b v := by
  obtain ⟨t, h⟩ := h
  exact ⟨cell_of_one h, free_of_one h⟩
theorem One.lt {W : World} {b : Nat} {v : Value} (h : One W b v) : b < W.heap.size := h.var.lt
theorem One.tame {B : Nat} {W W' : World} {b : Nat} {v : Value} (h : One W b v) (t : Tame B W W') : One W' b v := by
  obtain ⟨ty, h⟩ := h
  exact ⟨ty, t.block b _ h (.inl rfl)⟩
theorem One.kept {W W' : World} {b : Nat} {v : Value} (h : One W b v) (t : Below W.heap.size W W') : One W' b v := h.tame (Tame.of_below (B := 0) t)
theorem One.keptX {X : Nat → Prop} {W W' : World} {b : Nat} {v : Value} (h : One W b v) (t : Kept X W W') (hx : ¬ X b) : One W' b v := by
  obtain ⟨ty, h⟩ := h
  exact ⟨ty, (t.block b (lt_of_block h) hx).trans h⟩
theorem One.set {W : World} {b : Nat} {v : Value} (h : One W b v) (u : Value) : One (W.setCell ⟨b, 0, none⟩ u) b u := by
  obtain ⟨ty, h⟩ := h
  exact ⟨ty, one_setCell h⟩
theorem One.other {W : World} {b c : Nat} {v : Value} (h : One W b v) (hne : b ≠ c) (o : Nat) (u : Value) : One (W.setCell ⟨c, o, none⟩ u) b v := by
  obtain ⟨ty, h⟩ := h
  exact ⟨ty, (Below.heap_setCell _ _ _ _ hne).trans h⟩
theorem One.new (W : World) (v : Value) (t : TypeId) : One (W.alloc (.cells #[v] t)) W.heap.size v := ⟨t, World.alloc_heap_new W _⟩
theorem sps_lt {w : World} {a : Option Addr} {n : Nat} {F T : Nat → Int} (h : Sps w a n F T) : ∀ z, 0 < n → a = some z → z.block < w.heap.size := fun z h1 h2 => by
  obtain ⟨rb, ro, e, hlt, _⟩ := h.2 h1
  rw [h2] at e
  injection e with e
  subst e
  exact hlt
theorem Sps.set {w : World} {a : Option Addr} {n : Nat} {F T : Nat → Int} (h : Sps w a n F T) (N : Nat) (hN : ∀ z, 0 < n → a = some z → z.block ≠ N) (u : Value) : Sps (w.setCell ⟨N, 0, none⟩ u) a n F T :=
  h.keptX (X := (· = N)) (Kept.setCell _ _ _ rfl) (fun z h1 h2 h3 => hN z h1 h2 h3)
/-- A cell of one's own is written: the clock stays, even where the plan's sums are one number that is written as it was. -/
theorem Ck.set {L : Loc} {D : Cal} {w0 w : World} {N : Nat} {v : Value} (h0 : Ck L D w0) (hN : w0.heap.size ≤ N) (h : Ck L D w) (h1 : One w N v) (u : Value) (hz : D.n = 0 → u = v) : Ck L D (w.setCell ⟨N, 0, none⟩ u) := by
  have hk := h0.ltK
  have ha := h0.ltA
  have hp := h0.pl.ltP
  have hc := h0.pl.lt
  have hr1 := sps_lt h0.cs
  have hr2 := sps_lt h0.pl.sps
  have cell : ∀ b o, b ≠ N → (w.setCell ⟨N, 0, none⟩ u).cell? ⟨b, o, none⟩ = w.cell? ⟨b, o, none⟩ := fun b o hne => World.cell?_of_block (Below.heap_setCell _ _ _ _ hne)
  refine ⟨(cell _ _ (by omega)).trans h.k0, (cell _ _ (by omega)).trans h.k1, (cell _ _ (by omega)).trans h.k2, (cell _ _ (by omega)).trans h.al, h.cs.set N (fun z h2 h3 => by have := hr1 z h2 h3; omega) u, h.cap, ?_, h.neK, h.neA, h.far⟩
  refine ⟨h.pl.hP, h.pl.hC, h.pl.ne, by simpa using h.pl.lt, (cell _ _ (by omega)).trans h.pl.row, (cell _ _ (by omega)).trans h.pl.bef, h.pl.sps.set N (fun z h2 h3 => by have := hr2 z h2 h3; omega) u, h.pl.far, ?_⟩
  have hC : (w.setCell ⟨N, 0, none⟩ u).heap[L.C]? = w.heap[L.C]? := Below.heap_setCell _ _ _ _ (by show L.C ≠ N; omega)
  rcases h.pl.cel with ⟨k, hce⟩ | ⟨g, vc, k, hce, hg, hl, hkj⟩
  · exact .inl ⟨k, hce.of_block hC⟩
  · refine .inr ⟨g, vc, k, hce.of_block hC, ⟨hg.1, hg.2.setCell _ _⟩, by simpa using hl, fun j hj => ?_⟩
    by_cases e : g = N
    · subst e
      by_cases hn : D.n = 0
      · have hj0 : j = 0 := by omega
        subst hj0
        rw [hz hn]
        have e1 := (h1.set v).var.1
        have e2 := h1.var.1
        rw [e1, ← e2]
        exact hkj 0 hj
      · have h2 := hkj 1 (by omega)
        obtain ⟨t, ht⟩ := h1
        simp [World.cell?, ht] at h2
    · exact (cell _ _ e).trans (hkj j hj)
theorem Cal.V_none {D : Cal} (h : D.n = 0) (t : Int) : D.V t = 0 := by
  unfold Cal.V untilV
  rw [h]
  show _ * 0 + 0 = (0 : Int)
  omega

/- What is due: the arithmetic. -/
open Go.RowKit

theorem until_mono {F T : Nat → Int} {n : Nat} (h : Wk F T n) {a b : Int} (h0 : 0 ≤ a) (hab : a ≤ b) (h1 : b ≤ 2251799813685248) : untilV F T n a ≤ untilV F T n b := by
  obtain ⟨k, rfl⟩ := up_to hab
  clear hab
  induction k with
  | zero => simp
  | succ k ih =>
    have h2 := ih (by omega)
    have := until_step h (a + k) (by omega) (by omega)
    rw [show a + ((k + 1 : Nat) : Int) = a + k + 1 by omega]
    split at this <;> omega
/-- Where a budget is spent within a free span. -/
theorem Cal.nth_due {D : Cal} (h : D.ok) (hn : 0 < D.n) {f t bl : Int} (f0 : 0 ≤ f) (ft : f < t) (t1 : t ≤ 1125899906842624) (hfree : ∀ z, f ≤ z → z < t → hasB D.G D.U z D.m = false) (b0 : 1 ≤ bl) (b1 : bl ≤ D.V t - D.V f) :
    0 ≤ pnV D.F D.T D.n (D.V f + (bl - 1)) ∧ pnV D.F D.T D.n (D.V f + (bl - 1)) ≤ 2251799813685248 ∧
      f < pnV D.F D.T D.n (D.V f + (bl - 1)) + D.off - 604800 + 1 ∧ pnV D.F D.T D.n (D.V f + (bl - 1)) + D.off - 604800 + 1 ≤ t ∧
      D.g (pnV D.F D.T D.n (D.V f + (bl - 1)) + D.off - 604800 + 1) = D.g f + bl ∧ D.opB (pnV D.F D.T D.n (D.V f + (bl - 1)) + D.off - 604800) = true := by
  have o0 := h.off0
  have o1 := h.off1
  have hVf : D.V f = untilV D.F D.T D.n (f - D.off + 604800) := rfl
  have hVt : D.V t = untilV D.F D.T D.n (t - D.off + 604800) := rfl
  obtain ⟨_, _, u0, _⟩ := until_bounds h.wk (f - D.off + 604800)
  have hlast := until_mono h.wk (a := t - D.off + 604800) (b := 2251799813685248) (by omega) (by omega) (Int.le_refl _)
  have he : pnE D.F D.T D.n (D.V f + (bl - 1)) = 0 := by
    rcases Int.decEq (pnE D.F D.T D.n (D.V f + (bl - 1))) 0 with hne | heq
    · obtain ⟨_, h2⟩ := back_no h.wk hne
      omega
    · exact heq
  obtain ⟨h3, h4⟩ := back_ok h.wk he
  obtain ⟨r, hr⟩ : ∃ r, pnV D.F D.T D.n (D.V f + (bl - 1)) = r := ⟨_, rfl⟩
  rw [hr] at h3 h4 ⊢
  have h5 : 0 ≤ r ∧ r ≤ 2251799813685248 := by
    unfold openB at h3
    simp only [Bool.and_eq_true, decide_eq_true_eq] at h3
    exact ⟨h3.1, h3.2.1⟩
  have hlow : f ≤ r + D.off - 604800 := by
    rcases Int.lt_or_le (r + D.off - 604800) f with hc | hc
    · have h6 := until_step h.wk r h5.1 (by omega)
      rw [h3] at h6
      have h7 := until_mono h.wk (a := r + 1) (b := f - D.off + 604800) (by omega) (by omega) (by omega)
      simp only [if_true] at h6
      omega
    · exact hc
  have hhigh : r + D.off - 604800 < t := by
    rcases Int.lt_or_le (r + D.off - 604800) t with hc | hc
    · exact hc
    · have h7 := until_mono h.wk (a := t - D.off + 604800) (b := r) (by omega) (by omega) h5.2
      omega
  have hq : D.V (r + D.off - 604800) = D.V f + (bl - 1) := by
    show untilV D.F D.T D.n (r + D.off - 604800 - D.off + 604800) = _
    rw [show r + D.off - 604800 - D.off + 604800 = r by omega, h4]
  have hop : D.opB (r + D.off - 604800) = true := by
    unfold Cal.opB
    rw [hfree _ hlow hhigh, show r + D.off - 604800 - D.off + 604800 = r by omega, h3]
    rfl
  have hgf := D.g_free h f0 hlow (by omega) (fun z z1 z2 => hfree z z1 (by omega))
  have hst := D.g_step (r + D.off - 604800) (by omega)
  rw [hop] at hst
  simp only [if_true] at hst
  exact ⟨h5.1, h5.2, by omega, by omega, by omega, hop⟩

/-- What is due for a budget above zero, where the plan is not empty: a number and an error's. -/
def Cal.DueIs (D : Cal) (s b v e : Int) : Prop :=
  (e = 10 ∧ v = 0 ∧ D.g 1125899906842624 - D.g s < b) ∨ (e = 0 ∧ D.g v = D.g s + b ∧ D.opB (v - 1) = true ∧ s < v ∧ v ≤ 1125899906842624)
/-- What is due. -/
def Cal.Dues (D : Cal) (s b v e : Int) : Prop :=
  (¬ (0 ≤ s ∧ s ≤ 1125899906842624 ∧ 0 ≤ b) ∧ v = 0 ∧ e = 2) ∨ (0 ≤ s ∧ s ≤ 1125899906842624 ∧ b = 0 ∧ v = s ∧ e = 0) ∨
    (0 ≤ s ∧ s ≤ 1125899906842624 ∧ 0 < b ∧ tsum D.F D.T D.n = 0 ∧ v = 0 ∧ e = 40) ∨ (0 ≤ s ∧ s ≤ 1125899906842624 ∧ 0 < b ∧ tsum D.F D.T D.n ≠ 0 ∧ D.DueIs s b v e)
end Go.Proofs.Ytibjboacjobaoaa

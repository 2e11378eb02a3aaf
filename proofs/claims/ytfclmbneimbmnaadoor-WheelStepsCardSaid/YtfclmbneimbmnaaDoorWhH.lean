/- Advance's inner function: what a row's things become. The words. -/
import Derived.Test.YtfclmbneimbmnaaDoorWhF
namespace Go.Proofs.YtfclmbneimbmnaaDoor
open Go.RowKit

theorem Only.step {X Y : Nat → Prop} {a b c : World} (h : Only X a b) (k : Only Y b c) (hy : ∀ g, Y g → X g ∨ a.heap.size ≤ g) : Only X a c :=
  ⟨k.os.trans h.os, k.tape.trans h.tape, k.output.trans h.output, Nat.le_trans h.size k.size, fun i hi hx => (k.block i (Nat.lt_of_lt_of_le hi h.size) (fun e => by rcases hy i e with e1 | e1; exact hx e1; omega)).trans (h.block i hi hx)⟩

/-- No ring holds a thing of this ID. -/
def WD.free (D : WD) (x : Int) : Prop := ∀ k, k < 4 → ∀ s, s < 64 → ∀ v, v ∈ (D.R k).S s → v.1 ≠ x
theorem Wl.notin {w : World} {D : WD} (h : Wl w D) {x : Int} (hf : D.free x) : ∀ k, k < 4 → (D.R k).M x = none := fun k hk => Rn.nowhere (h.rg k hk) (hf k hk)

theorem Plc.parts {D D' : WD} {a b : Nat} {t : Th} (h : Plc D a b t D') : D'.q = D.q ∧ D'.now = D.now ∧ D'.all = D.all + 1 ∧ ∀ x, x ≠ t.1 → D.free x → D'.free x := by
  rcases h with ⟨_, v, rfl⟩ | ⟨hl, E, _, _, eS, rfl⟩
  · refine ⟨rfl, rfl, ?_, fun x _ hf => hf⟩
    unfold WD.all WD.n
    simp only [List.length_append, List.length_singleton]
    omega
  · generalize hk : lvN a b = k at *
    have hU : ∀ j, (D.ring k E).R j = if j = k then E else D.R j := fun j => rfl
    have hs : slN k b < 64 := slN_lt _ _
    refine ⟨rfl, rfl, ?_, fun x hx hf j hj s hs' v hv => ?_⟩
    · have hn : ∀ j, (D.ring k E).n j = if j = k then D.n k + 1 else D.n j := fun j => by
        unfold WD.n
        rw [hU]
        by_cases e : j = k
        · rw [if_pos e, if_pos e, eS]
          have := tot_upd (D.R k).S (slN k b) ((D.R k).S (slN k b) ++ [t]) 64 hs
          rw [List.length_append, List.length_singleton] at this
          omega
        · rw [if_neg e, if_neg e]
      unfold WD.all
      rw [hn 0, hn 1, hn 2, hn 3]
      have : k = 0 ∨ k = 1 ∨ k = 2 ∨ k = 3 := by omega
      have eb : (D.ring k E).BL = D.BL := rfl
      rw [eb]
      rcases this with e | e | e | e <;> subst e <;> simp <;> omega
    · rw [hU] at hv
      by_cases e : j = k
      · rw [if_pos e, eS] at hv
        unfold upd at hv
        by_cases e2 : s = slN k b
        · rw [if_pos e2] at hv
          rcases List.mem_append.1 hv with h1 | h1
          · exact hf k hl _ hs v h1
          · rw [List.mem_singleton] at h1; subst h1; exact fun e => hx e.symm
        · rw [if_neg e2] at hv
          exact hf k hl s hs' v hv
      · rw [if_neg e] at hv
        exact hf j hj s hs' v hv

/-- What becomes of a row's things at an instant: due, or placed anew. -/
def Mvd (a : Nat) : List Th → WD → List Th → WD → List Th → Prop
  | [], D, L, D', L' => D' = D ∧ L' = L
  | t :: l, D, L, D', L' => if t.2.2 ≤ (a : Int) then Mvd a l D (L ++ [t]) D' L' else ∃ D1, Plc D a t.2.2.toNat t D1 ∧ Mvd a l D1 L D' L'

/-- A wheel on the way: the boxes of the instant (A3), of the row told (A7), of the wheel (A2). -/
structure Mv (w : World) (B A3 A7 A2 a : Nat) (D : WD) (dv : Value) (DL : List Th) : Prop where
  wl : Wl w D
  now : D.now = (a : Int)
  ct : w.cell? ⟨A3, 0, none⟩ = some (.int .i64 a)
  cd : w.cell? ⟨A7, 0, none⟩ = some dv
  cw : w.cell? ⟨A2, 0, none⟩ = some (.pointer (some ⟨D.q, 0, none⟩))
  fd : w.frozen? ⟨A7, 0, none⟩ = false
  own : OT w B dv DL
  ap : ∀ g, D.fp g → g ≠ A3 ∧ g ≠ A7 ∧ g ≠ A2 ∧ dv.ownBlock ≠ some g
  da : ∀ g, dv.ownBlock = some g → g ≠ A3 ∧ g ≠ A7 ∧ g ≠ A2
  ne : A3 ≠ A7 ∧ A2 ≠ A7
  base : B ≤ w.heap.size
/-- The blocks that turn. -/
def MX (A7 : Nat) (D : WD) (dv : Value) (g : Nat) : Prop := D.fp g ∨ g = A7 ∨ dv.ownBlock = some g
theorem Mv.below {w w' : World} {B A3 A7 A2 a : Nat} {D : WD} {dv : Value} {DL : List Th} (h : Mv w B A3 A7 A2 a D dv DL) (hb : Below w.heap.size w w') : Mv w' B A3 A7 A2 a D dv DL :=
  ⟨h.wl.below hb, h.now, (hb.cell (p := ⟨A3, 0, none⟩) (cell_lt h.ct)).trans h.ct, (hb.cell (p := ⟨A7, 0, none⟩) (cell_lt h.cd)).trans h.cd, (hb.cell (p := ⟨A2, 0, none⟩) (cell_lt h.cw)).trans h.cw, (hb.frozen (p := ⟨A7, 0, none⟩) (cell_lt h.cd)).trans h.fd, h.own.below hb, h.ap, h.da, h.ne, Nat.le_trans h.base hb.size⟩
theorem Mv.lt {w : World} {B A3 A7 A2 a : Nat} {D : WD} {dv : Value} {DL : List Th} (h : Mv w B A3 A7 A2 a D dv DL) {g : Nat} (hg : MX A7 D dv g) : g < w.heap.size := by
  rcases hg with h1 | rfl | h1
  · exact h.wl.lt h1
  · have := cell_lt h.cd; exact this
  · exact h.own.lt h1
theorem Mv.place {w w' : World} {B A3 A7 A2 a : Nat} {D D' : WD} {dv : Value} {DL : List Th} (h : Mv w B A3 A7 A2 a D dv DL) (h2 : Wl w' D') (ho : Only D.fp w w') (hf : ∀ g, D'.fp g → D.fp g ∨ w.heap.size ≤ g) (hn : D'.now = D.now) (hq : D'.q = D.q) : Mv w' B A3 A7 A2 a D' dv DL := by
  have l3 : A3 < w.heap.size := by have := cell_lt h.ct; exact this
  have l7 : A7 < w.heap.size := by have := cell_lt h.cd; exact this
  have l2 : A2 < w.heap.size := by have := cell_lt h.cw; exact this
  refine ⟨h2, hn.trans h.now, (ho.cell (p := ⟨A3, 0, none⟩) l3 (fun e => (h.ap _ e).1 rfl)).trans h.ct, (ho.cell (p := ⟨A7, 0, none⟩) l7 (fun e => (h.ap _ e).2.1 rfl)).trans h.cd, (ho.cell (p := ⟨A2, 0, none⟩) l2 (fun e => (h.ap _ e).2.2.1 rfl)).trans (by rw [hq]; exact h.cw), (ho.frozen (p := ⟨A7, 0, none⟩) l7 (fun e => (h.ap _ e).2.1 rfl)).trans h.fd, h.own.only ho (fun g hg e => (h.ap g e).2.2.2 hg), fun g hg => ?_, h.da, h.ne, Nat.le_trans h.base ho.size⟩
  rcases hf g hg with h1 | h1
  · exact h.ap g h1
  · exact ⟨by omega, by omega, by omega, fun e => by have := h.own.lt e; omega⟩
theorem Mv.due {w w4 : World} {B A3 A7 A2 a : Nat} {D : WD} {dv v : Value} {DL L : List Th} (h : Mv w B A3 A7 A2 a D dv DL) (ho : Only (fun g => dv.ownBlock = some g) w w4) (hO : OT w4 B v L) (hob : v.ownBlock = dv.ownBlock ∨ v.ownBlock = some w.heap.size) : Mv (w4.setCell ⟨A7, 0, none⟩ v) B A3 A7 A2 a D v L := by
  have l3 : A3 < w.heap.size := by have := cell_lt h.ct; exact this
  have l7 : A7 < w.heap.size := by have := cell_lt h.cd; exact this
  have l2 : A2 < w.heap.size := by have := cell_lt h.cw; exact this
  have n3 : ¬ dv.ownBlock = some A3 := fun e => (h.da _ e).1 rfl
  have n7 : ¬ dv.ownBlock = some A7 := fun e => (h.da _ e).2.1 rfl
  have n2 : ¬ dv.ownBlock = some A2 := fun e => (h.da _ e).2.2 rfl
  have own' : ∀ g, v.ownBlock = some g → dv.ownBlock = some g ∨ g = w.heap.size := fun g hg => by
    rcases hob with e | e
    · rw [e] at hg; exact .inl hg
    · rw [e] at hg; injection hg with hg; exact .inr hg.symm
  have o5 : Only (fun g => g = A7) w4 (w4.setCell ⟨A7, 0, none⟩ v) := (Only.refl _ w4).setCell _ _ rfl
  have hw4 : Wl w4 D := h.wl.only ho (fun g hg e => (h.ap g hg).2.2.2 e)
  have s4 := ho.size
  have ns : ∀ g, v.ownBlock = some g → g ≠ A3 ∧ g ≠ A7 ∧ g ≠ A2 := fun g hg => by
    rcases own' g hg with h1 | h1
    · exact h.da g h1
    · exact ⟨by omega, by omega, by omega⟩
  refine ⟨hw4.only o5 (fun g hg e => (h.ap g hg).2.1 e), h.now, ?_, ?_, ?_, ?_, hO.only o5 (fun g hg e => (ns g hg).2.1 e), fun g hg => ⟨(h.ap g hg).1, (h.ap g hg).2.1, (h.ap g hg).2.2.1, fun e => ?_⟩, ns, h.ne, ?_⟩
  · exact (o5.cell (p := ⟨A3, 0, none⟩) (Nat.lt_of_lt_of_le l3 s4) h.ne.1).trans ((ho.cell (p := ⟨A3, 0, none⟩) l3 n3).trans h.ct)
  · exact World.cell?_setCell_same' _ _ _ (by rw [ho.cell (p := ⟨A7, 0, none⟩) l7 n7, h.cd]; rfl)
  · exact (o5.cell (p := ⟨A2, 0, none⟩) (Nat.lt_of_lt_of_le l2 s4) h.ne.2).trans ((ho.cell (p := ⟨A2, 0, none⟩) l2 n2).trans h.cw)
  · rw [World.frozen?_setCell]; exact (ho.frozen (p := ⟨A7, 0, none⟩) l7 n7).trans h.fd
  · rcases own' g e with h1 | h1
    · exact (h.ap g hg).2.2.2 h1
    · have := h.wl.lt hg; omega
  · exact Nat.le_trans h.base (Nat.le_trans s4 o5.size)
end Go.Proofs.YtfclmbneimbmnaaDoor

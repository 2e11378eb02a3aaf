import Derived.Test.YtibjboacjobaoaaMgAG
import Derived.Test.YtibjboacjobaoaaMgAJ
import Derived.Deep.RegionHeld3
namespace Go.Proofs.Ytibjboacjobaoaa
open Go.RowKit
/- Where the plan's sums lie. -/
open Go.RowKit

/-- The sums that the plan's cell holds lie not in block N. -/
def Ap (C N : Nat) (w : World) : Prop := ∀ x n c, w.cell? ⟨C, 4, none⟩ = some (.slice (some x) n c) → x.block ≠ N
theorem Pl.ap {base P C : Nat} {a : Option Addr} {n c : Nat} {F T : Nat → Int} {w : World} (h : Pl base P C a n c F T w) {N : Nat} (hN : w.heap.size ≤ N) : Ap C N w := by
  intro x n' c' hx
  rcases h.cel with ⟨k, hc⟩ | ⟨g, vc, k, hc, _, hl, _⟩
  · rw [hc.value] at hx; cases hx
  · rw [hc.value] at hx
    injection hx with hx
    injection hx with hx
    injection hx with hx
    subst hx
    show g ≠ N
    omega
theorem Ap.kept {C N : Nat} {w w' : World} (h : Ap C N w) (hC : C < w.heap.size) (hb : Below w.heap.size w w') : Ap C N w' := by
  intro x n c hx
  rw [hb.cell (p := ⟨C, 4, none⟩) hC] at hx
  exact h x n c hx
/- Due: what is told before the loop. -/
open Go.RowKit Go.Shelf
attribute [local go_sem] Oper.semAt_some

/-- A cell of one's own is written, where the plan's sums don't lie. -/
theorem Ck.setAp {L : Loc} {D : Cal} {w0 w : World} {N : Nat} (h0 : Ck L D w0) (hN : w0.heap.size ≤ N) (h : Ck L D w) (hap : Ap L.C N w) (u : Value) : Ck L D (w.setCell ⟨N, 0, none⟩ u) := by
  have hk := h0.ltK
  have ha := h0.ltA
  have hp := h0.pl.ltP
  have hc := h0.pl.lt
  have hr1 := sps_lt h0.cs
  have hr2 := sps_lt h0.pl.sps
  have cell : ∀ b o, b ≠ N → (w.setCell ⟨N, 0, none⟩ u).cell? ⟨b, o, none⟩ = w.cell? ⟨b, o, none⟩ := fun b o hne => World.cell?_of_block (Below.heap_setCell _ _ _ _ hne)
  refine ⟨(cell _ _ (by omega)).trans h.k0, (cell _ _ (by omega)).trans h.k1, (cell _ _ (by omega)).trans h.k2, (cell _ _ (by omega)).trans h.al, h.cs.set N (fun z h2 h3 => by have := hr1 z h2 h3; omega) u, h.cap, ?_, h.neK, h.neA, h.far⟩
  refine ⟨h.pl.hP, h.pl.hC, h.pl.ne, by simpa using h.pl.lt, (cell _ _ (by omega)).trans h.pl.row, (cell _ _ (by omega)).trans h.pl.bef, h.pl.sps.set N (fun z h2 h3 => by have := hr2 z h2 h3; omega) u, h.pl.far, ?_⟩
  have hC : (w.setCell ⟨N, 0, none⟩ u).heap[L.C]? = w.heap[L.C]? := Below.heap_setCell _ _ _ _ (by show L.C ≠ N; omega)
  rcases h.pl.cel with ⟨k, hce⟩ | ⟨g, vc, k, hce, hg, hl, hkj⟩
  · exact .inl ⟨k, hce.of_block hC⟩
  · refine .inr ⟨g, vc, k, hce.of_block hC, ⟨hg.1, hg.2.setCell _ _⟩, by simpa using hl, fun j hj => ?_⟩
    have e : g ≠ N := hap _ _ _ hce.value
    exact (cell _ _ e).trans (hkj j hj)
/-- What Due hands back. -/
def DueGot (L : Loc) (D : Cal) (s b : Int) (w : World) (e : Ending) (w' : World) : Prop := ∃ v er, e = .returned (.tuple #[.int .i64 v, .int .i64 er]) ∧ D.Dues s b v er ∧ Ck L D w' ∧ Only (· = L.C) w w'
/-- The world in which Due begins. -/
def due0 (w : World) (p : Option Addr) (b d e : Int) : World := (((w.alloc (.cells #[.pointer p] 158)).alloc (.cells #[.int .i64 b] 2)).alloc (.cells #[.int .i64 d] 2)).alloc (.cells #[.int .i64 e] 37)
theorem due0_below (w : World) (p : Option Addr) (b d e : Int) : Below w.heap.size w (due0 w p b d e) :=
  ((((Below.refl _ _).alloc (Nat.le_refl _) _).alloc (by simp) _).alloc (by simp; omega) _).alloc (by simp; omega) _
theorem due0_size (w : World) (p : Option Addr) (b d e : Int) : (due0 w p b d e).heap.size = w.heap.size + 4 := by simp [due0]
theorem due0_one (w : World) (p : Option Addr) (b d e : Int) : One (due0 w p b d e) w.heap.size (.pointer p) ∧ One (due0 w p b d e) (w.heap.size + 1) (.int .i64 b) ∧ One (due0 w p b d e) (w.heap.size + 2) (.int .i64 d) ∧ One (due0 w p b d e) (w.heap.size + 3) (.int .i64 e) := by
  have a0 := One.new w (.pointer p) 158
  have a1 := One.new (w.alloc (.cells #[.pointer p] 158)) (.int .i64 b) 2
  have a2 := One.new ((w.alloc (.cells #[.pointer p] 158)).alloc (.cells #[.int .i64 b] 2)) (.int .i64 d) 2
  have a3 := One.new (((w.alloc (.cells #[.pointer p] 158)).alloc (.cells #[.int .i64 b] 2)).alloc (.cells #[.int .i64 d] 2)) (.int .i64 e) 37
  simp only [World.size_alloc] at a1 a2 a3
  have up : ∀ (W : World) (o : Obj) (k : Nat) (v : Value), One W k v → One (W.alloc o) k v := fun W o k v h => h.kept ((Below.refl _ _).alloc (Nat.le_refl _) _)
  exact ⟨up _ _ _ _ (up _ _ _ _ (up _ _ _ _ a0)), up _ _ _ _ (up _ _ _ _ a1), up _ _ _ _ a2, a3⟩

/- Due: the loop. -/
open Go.RowKit Go.Shelf
attribute [local go_sem] Oper.semAt_some

/- The clock's Open. -/
open Go.RowKit

def Cal.openA (D : Cal) (t : Int) : Bool := decide (0 ≤ t) && (decide (t < 1125899906842624) && D.opB t)
end Go.Proofs.Ytibjboacjobaoaa

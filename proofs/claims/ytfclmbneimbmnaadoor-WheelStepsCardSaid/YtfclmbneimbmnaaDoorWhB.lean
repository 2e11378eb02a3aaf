/- A wheel in memory; created, Now, Spread, Len. -/
import Derived.Test.YtfclmbneimbmnaaDoorWhA
namespace Go.Proofs.YtfclmbneimbmnaaDoor
open Go.RowKit

/-- A ring: where it and its map lie, its slots' slices, its rows, its map. -/
structure RD where
  r : Nat
  b : Nat
  V : Nat → Value
  S : Nat → List Th
  M : Int → Option (Nat × Nat)
/-- A wheel: where it lies, its instant, its rings, and what lies beyond them. -/
structure WD where
  q : Nat
  now : Int
  R : Nat → RD
  bv : Value
  BL : List Th
def RD.fp (D : RD) : Nat → Prop := Fp D.V D.r D.b
def RD.has (D : RD) (w : World) : Prop := Rn w D.r D.b D.V D.S D.M
/-- The blocks of a wheel. -/
def WD.fp (D : WD) (g : Nat) : Prop := g = D.q ∨ D.bv.ownBlock = some g ∨ ∃ k, k < 4 ∧ (D.R k).fp g

structure Wl (w : World) (D : WD) : Prop where
  c0 : w.cell? ⟨D.q, 0, none⟩ = some (.int .i64 D.now)
  cr : ∀ k, k < 4 → w.cell? ⟨D.q, 1 + k, none⟩ = some (.pointer (some ⟨(D.R k).r, 0, none⟩))
  c5 : w.cell? ⟨D.q, 5, none⟩ = some D.bv
  fro : ∀ o, w.frozen? ⟨D.q, o, none⟩ = false
  rg : ∀ k, k < 4 → (D.R k).has w
  own : OT w 0 D.bv D.BL
  ap1 : ∀ j k g, j < 4 → k < 4 → (D.R j).fp g → (D.R k).fp g → j = k
  ap2 : ∀ k g, k < 4 → (D.R k).fp g → g ≠ D.q ∧ D.bv.ownBlock ≠ some g
  ap3 : D.bv.ownBlock ≠ some D.q
  few : D.BL.length < 1000000

theorem RD.lt {D : RD} {w : World} (h : D.has w) {g : Nat} (hg : D.fp g) : g < w.heap.size := Rn.lt h hg
theorem Wl.qlt {w : World} {D : WD} (h : Wl w D) : D.q < w.heap.size := by have := cell_lt h.c0; exact this
theorem Wl.lt {w : World} {D : WD} (h : Wl w D) {g : Nat} (hg : D.fp g) : g < w.heap.size := by
  rcases hg with rfl | hg | ⟨k, hk, hg⟩
  · exact h.qlt
  · exact h.own.lt hg
  · exact RD.lt (h.rg k hk) hg
/-- What turns only elsewhere leaves the wheel. -/
theorem Wl.only {X : Nat → Prop} {w w' : World} {D : WD} (h : Wl w D) (ho : Only X w w') (hx : ∀ g, D.fp g → ¬ X g) : Wl w' D := by
  have hq := hx D.q (.inl rfl)
  exact ⟨(ho.cell (p := ⟨D.q, 0, none⟩) h.qlt hq).trans h.c0, fun k hk => (ho.cell (p := ⟨D.q, 1 + k, none⟩) h.qlt hq).trans (h.cr k hk), (ho.cell (p := ⟨D.q, 5, none⟩) h.qlt hq).trans h.c5, fun o => (ho.frozen (p := ⟨D.q, o, none⟩) h.qlt hq).trans (h.fro o),
    fun k hk => Rn.only (h.rg k hk) ho (fun g hg => hx g (.inr (.inr ⟨k, hk, hg⟩))), h.own.only ho (fun g hg => hx g (.inr (.inl hg))), h.ap1, h.ap2, h.ap3, h.few⟩
theorem Wl.below {w w' : World} {D : WD} (h : Wl w D) (hb : Below w.heap.size w w') : Wl w' D :=
  h.only (X := fun g => w.heap.size ≤ g) ⟨hb.os, hb.tape, hb.output, hb.size, fun k hk _ => hb.block k hk⟩ (fun g hg hx => by have := h.lt hg; omega)

/-- A ring that has turned, the rest as it was. -/
def WD.ring (D : WD) (k : Nat) (E : RD) : WD := { D with R := upd D.R k E }
theorem Wl.ring {w w' : World} {D : WD} (h : Wl w D) {k : Nat} (hk : k < 4) {E : RD} (hE : E.has w') (hr : E.r = (D.R k).r) (ho : Only (D.R k).fp w w') (hf : ∀ g, E.fp g → (D.R k).fp g ∨ w.heap.size ≤ g) : Wl w' (D.ring k E) := by
  have hq : ¬ (D.R k).fp D.q := fun e => (h.ap2 k _ hk e).1 rfl
  have hU : ∀ j, (D.ring k E).R j = if j = k then E else D.R j := fun j => rfl
  have old : ∀ j g, j < 4 → ((D.ring k E).R j).fp g → (D.R j).fp g ∨ (j = k ∧ w.heap.size ≤ g) := fun j g hj hg => by
    rw [hU] at hg
    by_cases e : j = k
    · subst e
      rw [if_pos rfl] at hg
      rcases hf g hg with h1 | h1
      · exact .inl h1
      · exact .inr ⟨rfl, h1⟩
    · rw [if_neg e] at hg; exact .inl hg
  refine ⟨(ho.cell (p := ⟨D.q, 0, none⟩) h.qlt hq).trans h.c0, fun j hj => ?_, (ho.cell (p := ⟨D.q, 5, none⟩) h.qlt hq).trans h.c5, fun o => (ho.frozen (p := ⟨D.q, o, none⟩) h.qlt hq).trans (h.fro o), fun j hj => ?_, h.own.only ho (fun g hg e => (h.ap2 k g hk e).2 hg), fun i j g hi hj h1 h2 => ?_, fun j g hj hg => ?_, h.ap3, h.few⟩
  · refine ((ho.cell (p := ⟨D.q, 1 + j, none⟩) h.qlt hq).trans (h.cr j hj)).trans ?_
    rw [hU]
    by_cases e : j = k
    · subst e; rw [if_pos rfl, hr]
    · rw [if_neg e]
  · rw [hU]
    by_cases e : j = k
    · subst e; rw [if_pos rfl]; exact hE
    · rw [if_neg e]
      exact Rn.only (h.rg j hj) ho (fun g hg hg2 => e (h.ap1 j k g hj hk hg hg2))
  · rcases old i g hi h1 with a1 | ⟨rfl, a1⟩
    · rcases old j g hj h2 with a2 | ⟨rfl, a2⟩
      · exact h.ap1 i j g hi hj a1 a2
      · have := RD.lt (h.rg i hi) a1; omega
    · rcases old j g hj h2 with a2 | ⟨rfl, a2⟩
      · have := RD.lt (h.rg j hj) a2; omega
      · rfl
  · rcases old j g hj hg with a1 | ⟨rfl, a1⟩
    · exact h.ap2 j g hj a1
    · refine ⟨fun e => ?_, fun e => ?_⟩
      · have := h.qlt; have e' : g = D.q := e; omega
      · have := h.own.lt (show D.bv.ownBlock = some g from e); omega
theorem WD.ring_fp {w : World} {D : WD} {k : Nat} {E : RD} (hk : k < 4) (hf : ∀ g, E.fp g → (D.R k).fp g ∨ w.heap.size ≤ g) {g : Nat} (hg : (D.ring k E).fp g) : D.fp g ∨ w.heap.size ≤ g := by
  rcases hg with h | h | ⟨j, hj, h⟩
  · exact .inl (.inl h)
  · exact .inl (.inr (.inl h))
  · have hU : (D.ring k E).R j = if j = k then E else D.R j := rfl
    rw [hU] at h
    by_cases e : j = k
    · subst e
      rw [if_pos rfl] at h
      rcases hf g h with h1 | h1
      · exact .inl (.inr (.inr ⟨j, hj, h1⟩))
      · exact .inr h1
    · rw [if_neg e] at h; exact .inl (.inr (.inr ⟨j, hj, h⟩))

set_option maxRecDepth 100000 in
theorem wcreated (D : WD) (w : World) (h : Wl w D) : Calls Tryd.prog 82 #[.pointer (some ⟨D.q, 0, none⟩)] w fun e w' => e = .returned (.bool true) ∧ w' = w := by
  have h1 := h.cr 0 (by omega)
  clear h
  go_enter Tryd.func82, Tryd.ntmps82
  go_wp2
  go_ret
  exact ⟨rfl, rfl⟩
set_option maxRecDepth 100000 in
theorem wnow (D : WD) (w : World) (h : Wl w D) : Calls Tryd.prog 32 #[.pointer (some ⟨D.q, 0, none⟩)] w fun e w' => e = .returned (.int .i64 D.now) ∧ w' = w := by
  have hc := wcreated D w h
  have h1 := h.c0
  clear h
  go_enter Tryd.func32, Tryd.ntmps32
  go_wp2_with (go_at_call 82; (with_reducible refine hc.mono ?_); rintro e w1 ⟨rfl, rfl⟩)
  go_ret
  exact ⟨rfl, rfl⟩

theorem idx_ring (p0 p1 p2 p3 : Value) (w : World) :
    (Instr.index 79 (.agg #[p0, p1, p2, p3]) (.int .i64 0)).run Tryd.prog w = .ok p0 w ∧ (Instr.index 79 (.agg #[p0, p1, p2, p3]) (.int .i64 1)).run Tryd.prog w = .ok p1 w ∧ (Instr.index 79 (.agg #[p0, p1, p2, p3]) (.int .i64 2)).run Tryd.prog w = .ok p2 w ∧ (Instr.index 79 (.agg #[p0, p1, p2, p3]) (.int .i64 3)).run Tryd.prog w = .ok p3 w :=
  ⟨run_index_arr Tryd.underlying79 Tryd.sizeOf38 Tryd.isAgg38 0 (by omega) (by omega) rfl w, run_index_arr Tryd.underlying79 Tryd.sizeOf38 Tryd.isAgg38 1 (by omega) (by omega) rfl w, run_index_arr Tryd.underlying79 Tryd.sizeOf38 Tryd.isAgg38 2 (by omega) (by omega) rfl w, run_index_arr Tryd.underlying79 Tryd.sizeOf38 Tryd.isAgg38 3 (by omega) (by omega) rfl w⟩

theorem five_read {w : World} {T : Nat} {u0 u1 u2 u3 u4 : Value} (a0 a1 a2 a3 a4 : Value) (q0 : w.cell? ⟨T, 0, none⟩ = some u0) (q1 : w.cell? ⟨T, 1, none⟩ = some u1) (q2 : w.cell? ⟨T, 2, none⟩ = some u2) (q3 : w.cell? ⟨T, 3, none⟩ = some u3) (q4 : w.cell? ⟨T, 4, none⟩ = some u4) :
    (((((w.setCell ⟨T, 0, none⟩ a0).setCell ⟨T, 1, none⟩ a1).setCell ⟨T, 2, none⟩ a2).setCell ⟨T, 3, none⟩ a3).setCell ⟨T, 4, none⟩ a4).cell? ⟨T, 0, none⟩ = some a0 ∧ (((((w.setCell ⟨T, 0, none⟩ a0).setCell ⟨T, 1, none⟩ a1).setCell ⟨T, 2, none⟩ a2).setCell ⟨T, 3, none⟩ a3).setCell ⟨T, 4, none⟩ a4).cell? ⟨T, 1, none⟩ = some a1 ∧ (((((w.setCell ⟨T, 0, none⟩ a0).setCell ⟨T, 1, none⟩ a1).setCell ⟨T, 2, none⟩ a2).setCell ⟨T, 3, none⟩ a3).setCell ⟨T, 4, none⟩ a4).cell? ⟨T, 2, none⟩ = some a2 ∧ (((((w.setCell ⟨T, 0, none⟩ a0).setCell ⟨T, 1, none⟩ a1).setCell ⟨T, 2, none⟩ a2).setCell ⟨T, 3, none⟩ a3).setCell ⟨T, 4, none⟩ a4).cell? ⟨T, 3, none⟩ = some a3 ∧ (((((w.setCell ⟨T, 0, none⟩ a0).setCell ⟨T, 1, none⟩ a1).setCell ⟨T, 2, none⟩ a2).setCell ⟨T, 3, none⟩ a3).setCell ⟨T, 4, none⟩ a4).cell? ⟨T, 4, none⟩ = some a4 := by
  refine ⟨?_, ?_, ?_, ?_, ?_⟩ <;> go_simp

/-- How many lie in a ring. -/
def WD.n (D : WD) (k : Nat) : Nat := tot (D.R k).S 64
def WD.all (D : WD) : Nat := D.n 0 + D.n 1 + D.n 2 + D.n 3 + D.BL.length
set_option maxRecDepth 100000 in
set_option maxHeartbeats 4000000 in
theorem wspread (D : WD) (w : World) (h : Wl w D) : Calls Tryd.prog 34 #[.pointer (some ⟨D.q, 0, none⟩)] w fun e w' => e = .returned (.agg #[.int .i64 (D.n 0), .int .i64 (D.n 1), .int .i64 (D.n 2), .int .i64 (D.n 3), .int .i64 D.BL.length]) ∧ Below w.heap.size w w' := by
  have hb0 : Below w.heap.size w ((w.alloc (.cells #[.int .i64 0, .int .i64 0, .int .i64 0, .int .i64 0, .int .i64 0] 61)).alloc (.cells #[.int .i64 0, .int .i64 0, .int .i64 0, .int .i64 0, .int .i64 0] 61)) := ((Below.refl _ _).alloc (Nat.le_refl _) _).alloc (by simp) _
  have hs0 : ((w.alloc (.cells #[.int .i64 0, .int .i64 0, .int .i64 0, .int .i64 0, .int .i64 0] 61)).alloc (.cells #[.int .i64 0, .int .i64 0, .int .i64 0, .int .i64 0, .int .i64 0] 61)).heap.size = w.heap.size + 2 := by simp
  obtain ⟨T, hT⟩ : ∃ T, w.heap.size = T := ⟨_, rfl⟩
  have tz : ∀ j, j < 5 → ((w.alloc (.cells #[.int .i64 0, .int .i64 0, .int .i64 0, .int .i64 0, .int .i64 0] 61)).alloc (.cells #[.int .i64 0, .int .i64 0, .int .i64 0, .int .i64 0, .int .i64 0] 61)).cell? ⟨T, j, none⟩ = some (.int .i64 0) := fun j hj => by
    rw [World.cell?_alloc_lt _ _ _ (by show T < _; simp; omega), World.cell?_alloc_at _ _ _ _ hT.symm]
    match j, hj with
    | 0, _ => rfl
    | 1, _ => rfl
    | 2, _ => rfl
    | 3, _ => rfl
    | 4, _ => rfl
  have nz : ∀ j, j < 5 → ((w.alloc (.cells #[.int .i64 0, .int .i64 0, .int .i64 0, .int .i64 0, .int .i64 0] 61)).alloc (.cells #[.int .i64 0, .int .i64 0, .int .i64 0, .int .i64 0, .int .i64 0] 61)).cell? ⟨T + 1, j, none⟩ = some (.int .i64 0) := fun j hj => by
    rw [World.cell?_alloc_at _ _ _ _ (by simp; omega)]
    match j, hj with
    | 0, _ => rfl
    | 1, _ => rfl
    | 2, _ => rfl
    | 3, _ => rfl
    | 4, _ => rfl
  have tf : ∀ j, ((w.alloc (.cells #[.int .i64 0, .int .i64 0, .int .i64 0, .int .i64 0, .int .i64 0] 61)).alloc (.cells #[.int .i64 0, .int .i64 0, .int .i64 0, .int .i64 0, .int .i64 0] 61)).frozen? ⟨T, j, none⟩ = false := fun j => by rw [← hT]; simp
  have nf : ∀ j, ((w.alloc (.cells #[.int .i64 0, .int .i64 0, .int .i64 0, .int .i64 0, .int .i64 0] 61)).alloc (.cells #[.int .i64 0, .int .i64 0, .int .i64 0, .int .i64 0, .int .i64 0] 61)).frozen? ⟨T + 1, j, none⟩ = false := fun j => by rw [← hT]; simp
  have hW0 := h.below hb0
  have hc := wcreated D _ hW0
  have HL0 := Lib.hid (fun W (hb : Below w.heap.size w W) => rlen W (h.below hb |>.rg 0 (by omega)))
  have HL1 := Lib.hid (fun W (hb : Below w.heap.size w W) => rlen W (h.below hb |>.rg 1 (by omega)))
  have HL2 := Lib.hid (fun W (hb : Below w.heap.size w W) => rlen W (h.below hb |>.rg 2 (by omega)))
  have HL3 := Lib.hid (fun W (hb : Below w.heap.size w W) => rlen W (h.below hb |>.rg 3 (by omega)))
  have r0 := hW0.cr 0 (by omega)
  have r1 := hW0.cr 1 (by omega)
  have r2 := hW0.cr 2 (by omega)
  have r3 := hW0.cr 3 (by omega)
  have c5 := hW0.c5
  have qT : D.q ≠ T ∧ D.q ≠ T + 1 := by have := h.qlt; omega
  obtain ⟨ba, bc, hbv⟩ := hW0.own.shape
  rw [hbv] at c5
  obtain ⟨nl, hnl⟩ : ∃ n, D.BL.length = n := ⟨_, rfl⟩
  rw [hnl] at c5 ⊢
  have en0 : tot (D.R 0).S 64 = D.n 0 := rfl
  have en1 : tot (D.R 1).S 64 = D.n 1 := rfl
  have en2 : tot (D.R 2).S 64 = D.n 2 := rfl
  have en3 : tot (D.R 3).S 64 = D.n 3 := rfl
  rw [en0] at HL0
  rw [en1] at HL1
  rw [en2] at HL2
  rw [en3] at HL3
  have g0 : (D.R 0).S = (D.R 0).S := rfl
  generalize D.n 0 = a0 at HL0 ⊢
  generalize D.n 1 = a1 at HL1 ⊢
  generalize D.n 2 = a2 at HL2 ⊢
  generalize D.n 3 = a3 at HL3 ⊢
  clear hbv hnl en0 en1 en2 en3 g0 hW0 h
  go_enter Tryd.func34, Tryd.ntmps34
  go_wp2_with fail
  generalize ((w.alloc (.cells #[.int .i64 0, .int .i64 0, .int .i64 0, .int .i64 0, .int .i64 0] 61)).alloc (.cells #[.int .i64 0, .int .i64 0, .int .i64 0, .int .i64 0, .int .i64 0] 61)) = W0 at hb0 hs0 tz nz tf nf hc r0 r1 r2 r3 c5 ⊢
  have hN0 : w.heap.size ≤ T + 1 := by omega
  have t0 := tz 0 (by omega)
  have t1 := tz 1 (by omega)
  have t2 := tz 2 (by omega)
  have t3 := tz 3 (by omega)
  have t4 := tz 4 (by omega)
  have n0 := nz 0 (by omega)
  have n1 := nz 1 (by omega)
  have n2 := nz 2 (by omega)
  have n3 := nz 3 (by omega)
  have n4 := nz 4 (by omega)
  clear tz nz
  have b0 := hb0
  have HB0 := Lib.hid hb0
  have HT := Lib.hid hT
  clear hb0 hs0
  go_wp2_with (go_at_call 82; (with_reducible refine hc.mono ?_); rintro e w1 ⟨rfl, rfl⟩)
  have hix := fun w => idx_ring (.pointer (some ⟨(D.R 0).r, 0, none⟩)) (.pointer (some ⟨(D.R 1).r, 0, none⟩)) (.pointer (some ⟨(D.R 2).r, 0, none⟩)) (.pointer (some ⟨(D.R 3).r, 0, none⟩)) w
  have i0 := fun w => (hix w).1
  have i1 := fun w => (hix w).2.1
  have i2 := fun w => (hix w).2.2.1
  have i3 := fun w => (hix w).2.2.2
  clear hix
  refine wp_loop_rounds 5 ?_
  rw [rounds_succ]
  go_wp2_with (go_at_call 24; (with_reducible refine (HL0.out _ b0).mono ?_); rintro e w2 ⟨rfl, rfl⟩)
  rw [rounds_succ]
  go_wp2_with (go_at_call 24; (with_reducible refine (HL1.out _ (b0.setCell hN0 _)).mono ?_); rintro e w3 ⟨rfl, rfl⟩)
  rw [rounds_succ]
  go_wp2_with (go_at_call 24; (with_reducible refine (HL2.out _ ((b0.setCell hN0 _).setCell hN0 _)).mono ?_); rintro e w4 ⟨rfl, rfl⟩)
  rw [rounds_succ]
  go_wp2_with (go_at_call 24; (with_reducible refine (HL3.out _ (((b0.setCell hN0 _).setCell hN0 _).setCell hN0 _)).mono ?_); rintro e w5 ⟨rfl, rfl⟩)
  rw [rounds_succ]
  go_wp2_with fail
  have hT0 : w.heap.size ≤ T := by omega
  have hfin : Below w.heap.size w ((((((((((w2.setCell ⟨T + 1, 0, none⟩ (.int .i64 (a0 : Nat))).setCell ⟨T + 1, 1, none⟩ (.int .i64 (a1 : Nat))).setCell ⟨T + 1, 2, none⟩ (.int .i64 (a2 : Nat))).setCell ⟨T + 1, 3, none⟩ (.int .i64 (a3 : Nat))).setCell ⟨T + 1, 4, none⟩ (.int .i64 (nl : Nat))).setCell ⟨T, 0, none⟩ (.int .i64 (a0 : Nat))).setCell ⟨T, 1, none⟩ (.int .i64 (a1 : Nat))).setCell ⟨T, 2, none⟩ (.int .i64 (a2 : Nat))).setCell ⟨T, 3, none⟩ (.int .i64 (a3 : Nat))).setCell ⟨T, 4, none⟩ (.int .i64 (nl : Nat))) := (((((((((((HB0.out).setCell hN0 _).setCell hN0 _).setCell hN0 _).setCell hN0 _).setCell hN0 _).setCell hT0 _).setCell hT0 _).setCell hT0 _).setCell hT0 _).setCell hT0 _)
  obtain ⟨k0, k1, k2, k3, k4⟩ := five_read (w := (((((w2.setCell ⟨T + 1, 0, none⟩ (.int .i64 (a0 : Nat))).setCell ⟨T + 1, 1, none⟩ (.int .i64 (a1 : Nat))).setCell ⟨T + 1, 2, none⟩ (.int .i64 (a2 : Nat))).setCell ⟨T + 1, 3, none⟩ (.int .i64 (a3 : Nat))).setCell ⟨T + 1, 4, none⟩ (.int .i64 (nl : Nat)))) (.int .i64 (a0 : Nat)) (.int .i64 (a1 : Nat)) (.int .i64 (a2 : Nat)) (.int .i64 (a3 : Nat)) (.int .i64 (nl : Nat)) (u0 := .int .i64 0) (u1 := .int .i64 0) (u2 := .int .i64 0) (u3 := .int .i64 0) (u4 := .int .i64 0) (T := T) (by go_simp) (by go_simp) (by go_simp) (by go_simp) (by go_simp)
  generalize ((((((((((w2.setCell ⟨T + 1, 0, none⟩ (.int .i64 (a0 : Nat))).setCell ⟨T + 1, 1, none⟩ (.int .i64 (a1 : Nat))).setCell ⟨T + 1, 2, none⟩ (.int .i64 (a2 : Nat))).setCell ⟨T + 1, 3, none⟩ (.int .i64 (a3 : Nat))).setCell ⟨T + 1, 4, none⟩ (.int .i64 (nl : Nat))).setCell ⟨T, 0, none⟩ (.int .i64 (a0 : Nat))).setCell ⟨T, 1, none⟩ (.int .i64 (a1 : Nat))).setCell ⟨T, 2, none⟩ (.int .i64 (a2 : Nat))).setCell ⟨T, 3, none⟩ (.int .i64 (a3 : Nat))).setCell ⟨T, 4, none⟩ (.int .i64 (nl : Nat))) = W9 at hfin k0 k1 k2 k3 k4 ⊢
  refine bodyPost_ret (v := .agg #[.int .i64 (a0 : Nat), .int .i64 (a1 : Nat), .int .i64 (a2 : Nat), .int .i64 (a3 : Nat), .int .i64 (nl : Nat)]) (by simp [results, Tryd.results34, go_sem, k0, k1, k2, k3, k4]) rfl ⟨rfl, hfin⟩

theorem idx_five (p0 p1 p2 p3 p4 : Value) (w : World) :
    (Instr.index 61 (.agg #[p0, p1, p2, p3, p4]) (.int .i64 0)).run Tryd.prog w = .ok p0 w ∧ (Instr.index 61 (.agg #[p0, p1, p2, p3, p4]) (.int .i64 1)).run Tryd.prog w = .ok p1 w ∧ (Instr.index 61 (.agg #[p0, p1, p2, p3, p4]) (.int .i64 2)).run Tryd.prog w = .ok p2 w ∧ (Instr.index 61 (.agg #[p0, p1, p2, p3, p4]) (.int .i64 3)).run Tryd.prog w = .ok p3 w ∧ (Instr.index 61 (.agg #[p0, p1, p2, p3, p4]) (.int .i64 4)).run Tryd.prog w = .ok p4 w :=
  ⟨run_index_arr Tryd.underlying61 Tryd.sizeOf3 Tryd.isAgg3 0 (by omega) (by omega) rfl w, run_index_arr Tryd.underlying61 Tryd.sizeOf3 Tryd.isAgg3 1 (by omega) (by omega) rfl w, run_index_arr Tryd.underlying61 Tryd.sizeOf3 Tryd.isAgg3 2 (by omega) (by omega) rfl w, run_index_arr Tryd.underlying61 Tryd.sizeOf3 Tryd.isAgg3 3 (by omega) (by omega) rfl w, run_index_arr Tryd.underlying61 Tryd.sizeOf3 Tryd.isAgg3 4 (by omega) (by omega) rfl w⟩

set_option maxRecDepth 100000 in
set_option maxHeartbeats 4000000 in
theorem wlen (D : WD) (w : World) (h : Wl w D) : Calls Tryd.prog 33 #[.pointer (some ⟨D.q, 0, none⟩)] w fun e w' => e = .returned (.int .i64 (D.all : Nat)) ∧ Below w.heap.size w w' := by
  have hs := wspread D w h
  have b0 : D.n 0 < 1000000 := (h.rg 0 (by omega)).few
  have b1 : D.n 1 < 1000000 := (h.rg 1 (by omega)).few
  have b2 : D.n 2 < 1000000 := (h.rg 2 (by omega)).few
  have b3 : D.n 3 < 1000000 := (h.rg 3 (by omega)).few
  have b4 : D.BL.length < 1000000 := h.few
  unfold WD.all
  clear h
  generalize D.n 0 = a0 at hs b0 ⊢
  generalize D.n 1 = a1 at hs b1 ⊢
  generalize D.n 2 = a2 at hs b2 ⊢
  generalize D.n 3 = a3 at hs b3 ⊢
  generalize D.BL.length = a4 at hs b4 ⊢
  have hix := fun w => idx_five (.int .i64 a0) (.int .i64 a1) (.int .i64 a2) (.int .i64 a3) (.int .i64 a4) w
  have i0 := fun w => (hix w).1
  have i1 := fun w => (hix w).2.1
  have i2 := fun w => (hix w).2.2.1
  have i3 := fun w => (hix w).2.2.2.1
  have i4 := fun w => (hix w).2.2.2.2
  have e0 : IntKind.i64.wrap (a0 : Int) = (a0 : Int) := by rw [IntKind.wrap_i64]; omega
  have e1 : IntKind.i64.wrap ((a0 : Int) + (a1 : Int)) = (a0 : Int) + (a1 : Int) := by rw [IntKind.wrap_i64]; omega
  have e2 : IntKind.i64.wrap ((a0 : Int) + (a1 : Int) + (a2 : Int)) = (a0 : Int) + (a1 : Int) + (a2 : Int) := by rw [IntKind.wrap_i64]; omega
  have e3 : IntKind.i64.wrap ((a0 : Int) + (a1 : Int) + (a2 : Int) + (a3 : Int)) = (a0 : Int) + (a1 : Int) + (a2 : Int) + (a3 : Int) := by rw [IntKind.wrap_i64]; omega
  have e4 : IntKind.i64.wrap ((a0 : Int) + (a1 : Int) + (a2 : Int) + (a3 : Int) + (a4 : Int)) = (a0 : Int) + (a1 : Int) + (a2 : Int) + (a3 : Int) + (a4 : Int) := by rw [IntKind.wrap_i64]; omega
  clear hix
  go_enter Tryd.func33, Tryd.ntmps33
  go_wp2_with (go_at_call 34; (with_reducible refine hs.mono ?_); rintro e w1 ⟨rfl, hb1⟩; have HB1 := Lib.hid hb1; clear hb1 hs)
  refine wp_loop_rounds 6 ?_
  rw [rounds_succ]
  go_wp2_with fail
  rw [rounds_succ]
  go_wp2_with fail
  rw [rounds_succ]
  go_wp2_with fail
  rw [rounds_succ]
  go_wp2_with fail
  rw [rounds_succ]
  go_wp2_with fail
  rw [rounds_succ]
  go_wp2_with fail
  go_ret
  exact ⟨ret_intW (by push_cast; rfl), HB1.out⟩
end Go.Proofs.YtfclmbneimbmnaaDoor

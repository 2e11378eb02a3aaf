/- CalendarChecks. -/
import Derived.Test.YtfeegohjgecjgaaCaH
import Derived.Test.YtfeegohjgecjgaaCaS
namespace Go.Proofs.Ytfeegohjgecjgaa
open Go.RowKit
set_option maxRecDepth 100000 in
set_option maxHeartbeats 16000000 in
theorem cchecks_big (off : Int) (a : Option Addr) (n ca : Nat) (b : Option Addr) (m cb : Nat) (F T G U : Nat → Int) (t : Int) (w : World) (hS : Sps w a n F T) (hR : Sps w b m G U)
    (hl : ¬ (n ≤ 60 ∧ m ≤ 60)) :
    Calls Try.prog 7 #[calV off a n ca b m cb, .int .i64 t] w fun e w' => e = .returned (.bool true) ∧ Below w.heap.size w w' := by
  have B1 : Below w.heap.size w (w.alloc (.cells #[.int .i64 off, .slice a n ca, .slice b m cb] 53)) := (Below.refl _ _).alloc (Nat.le_refl _) _
  have c0 : (w.alloc (.cells #[.int .i64 off, .slice a n ca, .slice b m cb] 53)).cell? ⟨w.heap.size, 0, none⟩ = some (.int .i64 off) := by simp
  have c1 : (w.alloc (.cells #[.int .i64 off, .slice a n ca, .slice b m cb] 53)).cell? ⟨w.heap.size, 1, none⟩ = some (.slice a n ca) := by simp
  have c2 : (w.alloc (.cells #[.int .i64 off, .slice a n ca, .slice b m cb] 53)).cell? ⟨w.heap.size, 2, none⟩ = some (.slice b m cb) := by simp
  have hlt : w.heap.size < (w.alloc (.cells #[.int .i64 off, .slice a n ca, .slice b m cb] 53)).heap.size := by simp
  have HB1 := Lib.hid B1
  have hli := light10 off a n ca b m cb (w.alloc (.cells #[.int .i64 off, .slice a n ca, .slice b m cb] 53)) hS.1 hR.1
  rw [decide_eq_false hl] at hli
  have hl2 := Lib.hid (fun W (_ : True) => lives10 W)
  unfold calV at *
  clear hS hR B1 hlt hl
  go_enter Try.func7, Try.ntmps7
  go_wp2_with fail
  refine hli.mono ?_
  rintro e w3 ⟨rfl, hb3⟩
  have HB3 := Lib.hid (HB1.out.trans (hb3.mono HB1.out.size))
  have hlv := hl2.out w3 trivial
  clear hli hb3 c0 c1 c2
  go_wp2_with fail
  refine hlv.mono ?_
  rintro e wl ⟨rfl, hbl⟩
  have HBL := Lib.hid (HB3.out.trans (hbl.mono HB3.out.size))
  clear hlv hbl
  go_wp2_with fail
  go_ret
  exact ⟨rfl, HBL.out⟩
set_option maxRecDepth 100000 in
set_option maxHeartbeats 16000000 in
theorem cchecks_bad (off : Int) (a : Option Addr) (n ca : Nat) (b : Option Addr) (m cb : Nat) (F T G U : Nat → Int) (t : Int) (w : World) (hS : Sps w a n F T) (hR : Sps w b m G U)
    (hl : n ≤ 60 ∧ m ≤ 60) (hz : checkE off F T n G U m ≠ 0) :
    Calls Try.prog 7 #[calV off a n ca b m cb, .int .i64 t] w fun e w' => e = .returned (.bool true) ∧ Below w.heap.size w w' := by
  have B1 : Below w.heap.size w (w.alloc (.cells #[.int .i64 off, .slice a n ca, .slice b m cb] 53)) := (Below.refl _ _).alloc (Nat.le_refl _) _
  have c0 : (w.alloc (.cells #[.int .i64 off, .slice a n ca, .slice b m cb] 53)).cell? ⟨w.heap.size, 0, none⟩ = some (.int .i64 off) := by simp
  have c1 : (w.alloc (.cells #[.int .i64 off, .slice a n ca, .slice b m cb] 53)).cell? ⟨w.heap.size, 1, none⟩ = some (.slice a n ca) := by simp
  have c2 : (w.alloc (.cells #[.int .i64 off, .slice a n ca, .slice b m cb] 53)).cell? ⟨w.heap.size, 2, none⟩ = some (.slice b m cb) := by simp
  have hlt : w.heap.size < (w.alloc (.cells #[.int .i64 off, .slice a n ca, .slice b m cb] 53)).heap.size := by simp
  have HB1 := Lib.hid B1
  have hli := light10 off a n ca b m cb (w.alloc (.cells #[.int .i64 off, .slice a n ca, .slice b m cb] 53)) hS.1 hR.1
  rw [decide_eq_true hl] at hli
  have HCK := Lib.hid (fun W (hb : Below w.heap.size w W) => And.intro (rcheck10 off a n ca F T b m cb G U W (hS.kept hb) (hR.kept hb)) (pcheck off a n ca F T b m cb G U W (hS.kept hb) (hR.kept hb)))
  have hl2 := Lib.hid (fun W (_ : True) => lives10 W)
  have HC := Lib.hid (And.intro c0 (And.intro c1 (And.intro c2 hlt)))
  have HNW := Lib.hid (fun W (hb : Below w.heap.size w W) => clock_bad off a n ca F T b m cb G U W (hS.kept hb) (hR.kept hb) hz)
  obtain ⟨z, ez⟩ : ∃ z, checkE off F T n G U m = z := ⟨_, rfl⟩
  rw [ez] at HCK HNW hz
  have hz' : (z != 0) = true := by simpa using hz
  clear hS hR B1 hlt hl ez hz
  unfold calV at *
  go_enter Try.func7, Try.ntmps7
  go_wp2_with fail
  refine hli.mono ?_
  rintro e w2 ⟨rfl, hb2⟩
  have HB2 := Lib.hid (HB1.out.trans (hb2.mono HB1.out.size))
  have c0' := (hb2.cell (p := ⟨w.heap.size, 0, none⟩) HC.out.2.2.2).trans HC.out.1
  have c1' := (hb2.cell (p := ⟨w.heap.size, 1, none⟩) HC.out.2.2.2).trans HC.out.2.1
  have c2' := (hb2.cell (p := ⟨w.heap.size, 2, none⟩) HC.out.2.2.2).trans HC.out.2.2.1
  have HC2 := Lib.hid (And.intro c0' (And.intro c1' (And.intro c2' (Nat.lt_of_lt_of_le HC.out.2.2.2 hb2.size))))
  have hnw := HNW.out w2 HB2.out
  clear hli hb2 c0 c1 c2
  go_wp2_with fail
  refine hnw.mono ?_
  rintro e w3 ⟨rfl, hb3⟩
  have HB3 := Lib.hid (HB2.out.trans (hb3.mono HB2.out.size))
  have k0 := (hb3.cell (p := ⟨w.heap.size, 0, none⟩) HC2.out.2.2.2).trans HC2.out.1
  have k1 := (hb3.cell (p := ⟨w.heap.size, 1, none⟩) HC2.out.2.2.2).trans HC2.out.2.1
  have k2 := (hb3.cell (p := ⟨w.heap.size, 2, none⟩) HC2.out.2.2.2).trans HC2.out.2.2.1
  have HC3 := Lib.hid (And.intro k0 (And.intro k1 (And.intro k2 (Nat.lt_of_lt_of_le HC2.out.2.2.2 hb3.size))))
  have hr := (HCK.out w3 HB3.out).1
  clear hnw c0' c1' c2'
  go_wp2_with fail
  refine hr.mono ?_
  rintro e w4 ⟨rfl, hb4⟩
  have HB4 := Lib.hid (HB3.out.trans (hb4.mono HB3.out.size))
  have c0 := (hb4.cell (p := ⟨w.heap.size, 0, none⟩) HC3.out.2.2.2).trans HC3.out.1
  have c1 := (hb4.cell (p := ⟨w.heap.size, 1, none⟩) HC3.out.2.2.2).trans HC3.out.2.1
  have c2 := (hb4.cell (p := ⟨w.heap.size, 2, none⟩) HC3.out.2.2.2).trans HC3.out.2.2.1
  have HC4 := Lib.hid (And.intro c0 (And.intro c1 (And.intro c2 (Nat.lt_of_lt_of_le HC3.out.2.2.2 hb4.size))))
  have hp := (HCK.out w4 HB4.out).2
  clear hr hb3 hb4 k0 k1 k2
  go_wp2_with fail
  refine hp.mono ?_
  rintro e w5 ⟨rfl, hb5⟩
  have HB5 := Lib.hid (HB4.out.trans (hb5.mono HB4.out.size))
  have hlv := hl2.out w5 trivial
  clear hp hb5 c0 c1 c2
  go_wp2_with fail
  refine hlv.mono ?_
  rintro e wl ⟨rfl, hbl⟩
  have HBL := Lib.hid (HB5.out.trans (hbl.mono HB5.out.size))
  clear hlv hbl
  go_wp2_with fail
  go_ret
  exact ⟨rfl, HBL.out⟩
set_option maxRecDepth 100000 in
set_option maxHeartbeats 16000000 in
theorem cchecks_ok (off : Int) (a : Option Addr) (n ca : Nat) (b : Option Addr) (m cb : Nat) (F T G U : Nat → Int) (t : Int) (w : World) (hS : Sps w a n F T) (hR : Sps w b m G U)
    (hl : n ≤ 60 ∧ m ≤ 60) (hz : checkE off F T n G U m = 0) :
    Calls Try.prog 7 #[calV off a n ca b m cb, .int .i64 t] w fun e w' => e = .returned (.bool true) ∧ Below w.heap.size w w' := by
  have B1 : Below w.heap.size w (w.alloc (.cells #[.int .i64 off, .slice a n ca, .slice b m cb] 53)) := (Below.refl _ _).alloc (Nat.le_refl _) _
  have c0 : (w.alloc (.cells #[.int .i64 off, .slice a n ca, .slice b m cb] 53)).cell? ⟨w.heap.size, 0, none⟩ = some (.int .i64 off) := by simp
  have c1 : (w.alloc (.cells #[.int .i64 off, .slice a n ca, .slice b m cb] 53)).cell? ⟨w.heap.size, 1, none⟩ = some (.slice a n ca) := by simp
  have c2 : (w.alloc (.cells #[.int .i64 off, .slice a n ca, .slice b m cb] 53)).cell? ⟨w.heap.size, 2, none⟩ = some (.slice b m cb) := by simp
  have hlt : w.heap.size < (w.alloc (.cells #[.int .i64 off, .slice a n ca, .slice b m cb] 53)).heap.size := by simp
  have HB1 := Lib.hid B1
  have hli := light10 off a n ca b m cb (w.alloc (.cells #[.int .i64 off, .slice a n ca, .slice b m cb] 53)) hS.1 hR.1
  rw [decide_eq_true hl] at hli
  have HCK := Lib.hid (fun W (hb : Below w.heap.size w W) => And.intro (rcheck10 off a n ca F T b m cb G U W (hS.kept hb) (hR.kept hb)) (pcheck off a n ca F T b m cb G U W (hS.kept hb) (hR.kept hb)))
  have hl2 := Lib.hid (fun W (_ : True) => lives10 W)
  have HC := Lib.hid (And.intro c0 (And.intro c1 (And.intro c2 hlt)))
  have HNW := Lib.hid (fun W (hb : Below w.heap.size w W) => clock_in off a n ca b m cb F T G U W (hS.kept hb) (hR.kept hb) hz)
  rw [hz] at HCK
  have hd := checkE_ok hz
  have HRO := Lib.hid (fun W (hb : Below w.heap.size w W) => ropen10 hd a ca b cb t W (hS.kept hb) (hR.kept hb))
  have HSM := Lib.hid (fun base W (hb : Below w.heap.size w W) v1 v2 (h1 : OS W base v1 (pairs F T n)) (h2 : OS W base v2 (pairs G U m)) => rsame10 off v1 v2 a n ca b m cb F T G U W h1 h2 (hS.kept hb) (hR.kept hb))
  obtain ⟨D, eD⟩ : ∃ D : Cal, (⟨F, T, n, G, U, m, off⟩ : Cal) = D := ⟨_, rfl⟩
  have HEQ := Lib.hid eD
  rw [eD] at HNW hd
  have HRO2 : Hid (∀ W, Below w.heap.size w W → Calls Try.prog 37 #[.agg #[.int .i64 off, .slice a n ca, .slice b m cb], .int .i64 t] W fun e w' => e = .returned (.bool (D.openA t)) ∧ Below W.heap.size W w') := Lib.hid (by
    subst eD
    exact HRO.out)
  have HPL : Hid (∀ W L, Ck L D W → Calls Try.prog 39 #[.pointer (some ⟨L.K, 0, none⟩)] W fun e w' => ∃ v1 v2, e = .returned (.agg #[.int .i64 off, v1, v2]) ∧ OS w' W.heap.size v1 (pairs F T n) ∧ OS w' W.heap.size v2 (pairs G U m) ∧ Ck L D w' ∧ Below W.heap.size W w') := Lib.hid (by
    subst eD
    intro W L hC
    exact cplain hC hd)
  have HD := Lib.hid hd
  clear hS hR B1 hlt hl hz eD hd HRO
  unfold calV at *
  go_enter Try.func7, Try.ntmps7
  go_wp2_with fail
  refine hli.mono ?_
  rintro e w2 ⟨rfl, hb2⟩
  have HB2 := Lib.hid (HB1.out.trans (hb2.mono HB1.out.size))
  have c0' := (hb2.cell (p := ⟨w.heap.size, 0, none⟩) HC.out.2.2.2).trans HC.out.1
  have c1' := (hb2.cell (p := ⟨w.heap.size, 1, none⟩) HC.out.2.2.2).trans HC.out.2.1
  have c2' := (hb2.cell (p := ⟨w.heap.size, 2, none⟩) HC.out.2.2.2).trans HC.out.2.2.1
  have HC2 := Lib.hid (And.intro c0' (And.intro c1' (And.intro c2' (Nat.lt_of_lt_of_le HC.out.2.2.2 hb2.size))))
  have hnw := HNW.out w2 HB2.out
  clear hli hb2 c0 c1 c2
  go_wp2_with fail
  refine hnw.mono ?_
  rintro e w3 ⟨L, rfl, hCk, hle, hb3⟩
  have HB3 := Lib.hid (HB2.out.trans (hb3.mono HB2.out.size))
  have HL := Lib.hid (Nat.le_trans HB2.out.size hle)
  have HNE := Lib.hid (show w.heap.size ≠ L.C by have := HC2.out.2.2.2; omega)
  have HCKL := Lib.hid hCk
  clear hCk hle
  have k0 := (hb3.cell (p := ⟨w.heap.size, 0, none⟩) HC2.out.2.2.2).trans HC2.out.1
  have k1 := (hb3.cell (p := ⟨w.heap.size, 1, none⟩) HC2.out.2.2.2).trans HC2.out.2.1
  have k2 := (hb3.cell (p := ⟨w.heap.size, 2, none⟩) HC2.out.2.2.2).trans HC2.out.2.2.1
  have HC3 := Lib.hid (And.intro k0 (And.intro k1 (And.intro k2 (Nat.lt_of_lt_of_le HC2.out.2.2.2 hb3.size))))
  have hr := (HCK.out w3 HB3.out).1
  clear hnw c0' c1' c2'
  go_wp2_with fail
  refine hr.mono ?_
  rintro e w4 ⟨rfl, hb4⟩
  have HB4 := Lib.hid (HB3.out.trans (hb4.mono HB3.out.size))
  have c0 := (hb4.cell (p := ⟨w.heap.size, 0, none⟩) HC3.out.2.2.2).trans HC3.out.1
  have c1 := (hb4.cell (p := ⟨w.heap.size, 1, none⟩) HC3.out.2.2.2).trans HC3.out.2.1
  have c2 := (hb4.cell (p := ⟨w.heap.size, 2, none⟩) HC3.out.2.2.2).trans HC3.out.2.2.1
  have HC4 := Lib.hid (And.intro c0 (And.intro c1 (And.intro c2 (Nat.lt_of_lt_of_le HC3.out.2.2.2 hb4.size))))
  have hp := (HCK.out w4 HB4.out).2
  have HK4 := Lib.hid (HCKL.out.kept hb4)
  clear hr hb3 hb4 k0 k1 k2
  go_wp2_with fail
  refine hp.mono ?_
  rintro e w5 ⟨rfl, hb5⟩
  have HB5 := Lib.hid (HB4.out.trans (hb5.mono HB4.out.size))
  have k0 := (hb5.cell (p := ⟨w.heap.size, 0, none⟩) HC4.out.2.2.2).trans HC4.out.1
  have k1 := (hb5.cell (p := ⟨w.heap.size, 1, none⟩) HC4.out.2.2.2).trans HC4.out.2.1
  have k2 := (hb5.cell (p := ⟨w.heap.size, 2, none⟩) HC4.out.2.2.2).trans HC4.out.2.2.1
  have hls := Nat.lt_of_lt_of_le HC4.out.2.2.2 hb5.size
  have HK5 := Lib.hid (HK4.out.kept hb5)
  clear hp hb5 c0 c1 c2
  go_wp2_with fail
  have h0 : w5.drew.cell? ⟨w.heap.size, 0, none⟩ = some (.int .i64 off) ∧ w5.drew.cell? ⟨w.heap.size, 1, none⟩ = some (.slice a n ca) ∧ w5.drew.cell? ⟨w.heap.size, 2, none⟩ = some (.slice b m cb) ∧ Ck L D w5.drew ∧ Below w.heap.size w w5.drew ∧ w.heap.size < w5.drew.heap.size := ⟨k0, k1, k2, HK5.out.kept ((Below.refl _ _).drew), HB5.out.drew, hls⟩
  have HKeep : Hid (∀ w' w'', (w'.cell? ⟨w.heap.size, 0, none⟩ = some (.int .i64 off) ∧ w'.cell? ⟨w.heap.size, 1, none⟩ = some (.slice a n ca) ∧ w'.cell? ⟨w.heap.size, 2, none⟩ = some (.slice b m cb) ∧ Ck L D w' ∧ Below w.heap.size w w' ∧ w.heap.size < w'.heap.size) → Below w'.heap.size w' w'' → (w''.cell? ⟨w.heap.size, 0, none⟩ = some (.int .i64 off) ∧ w''.cell? ⟨w.heap.size, 1, none⟩ = some (.slice a n ca) ∧ w''.cell? ⟨w.heap.size, 2, none⟩ = some (.slice b m cb) ∧ Ck L D w'' ∧ Below w.heap.size w w'' ∧ w.heap.size < w''.heap.size)) := Lib.hid (by
    rintro w' w'' ⟨g0, g1, g2, g3, g4, g5⟩ hb
    exact ⟨(hb.cell (p := ⟨w.heap.size, 0, none⟩) g5).trans g0, (hb.cell (p := ⟨w.heap.size, 1, none⟩) g5).trans g1, (hb.cell (p := ⟨w.heap.size, 2, none⟩) g5).trans g2, g3.kept hb, g4.trans (hb.mono g4.size), Nat.lt_of_lt_of_le g5 hb.size⟩)
  have HOpen : Hid (∀ w', (w'.cell? ⟨w.heap.size, 0, none⟩ = some (.int .i64 off) ∧ w'.cell? ⟨w.heap.size, 1, none⟩ = some (.slice a n ca) ∧ w'.cell? ⟨w.heap.size, 2, none⟩ = some (.slice b m cb) ∧ Ck L D w' ∧ Below w.heap.size w w' ∧ w.heap.size < w'.heap.size) → Calls Try.prog 36 #[.pointer (some ⟨L.K, 0, none⟩), .int .i64 t] w' fun e w'' => e = .returned (.bool (D.openA t)) ∧ (w''.cell? ⟨w.heap.size, 0, none⟩ = some (.int .i64 off) ∧ w''.cell? ⟨w.heap.size, 1, none⟩ = some (.slice a n ca) ∧ w''.cell? ⟨w.heap.size, 2, none⟩ = some (.slice b m cb) ∧ Ck L D w'' ∧ Below w.heap.size w w'' ∧ w.heap.size < w''.heap.size)) := Lib.hid (by
    rintro w' ⟨g0, g1, g2, g3, g4, g5⟩
    refine (copen_any g3 HD.out t).mono ?_
    rintro e w'' ⟨rfl, hc, ho⟩
    exact ⟨rfl, (ho.cell (p := ⟨w.heap.size, 0, none⟩) g5 HNE.out).trans g0, (ho.cell (p := ⟨w.heap.size, 1, none⟩) g5 HNE.out).trans g1, (ho.cell (p := ⟨w.heap.size, 2, none⟩) g5 HNE.out).trans g2, hc, g4.trans (ho.toBelow g4.size (fun k hk => hk ▸ HL.out)), Nat.lt_of_lt_of_le g5 ho.size⟩)
  have HRef : Hid (∀ w', (w'.cell? ⟨w.heap.size, 0, none⟩ = some (.int .i64 off) ∧ w'.cell? ⟨w.heap.size, 1, none⟩ = some (.slice a n ca) ∧ w'.cell? ⟨w.heap.size, 2, none⟩ = some (.slice b m cb) ∧ Ck L D w' ∧ Below w.heap.size w w' ∧ w.heap.size < w'.heap.size) → Calls Try.prog 37 #[.agg #[.int .i64 off, .slice a n ca, .slice b m cb], .int .i64 t] w' fun e w'' => e = .returned (.bool (D.openA t)) ∧ (w''.cell? ⟨w.heap.size, 0, none⟩ = some (.int .i64 off) ∧ w''.cell? ⟨w.heap.size, 1, none⟩ = some (.slice a n ca) ∧ w''.cell? ⟨w.heap.size, 2, none⟩ = some (.slice b m cb) ∧ Ck L D w'' ∧ Below w.heap.size w w'' ∧ w.heap.size < w''.heap.size)) := Lib.hid (by
    intro w' h
    refine (HRO2.out w' h.2.2.2.2.1).mono ?_
    rintro e w'' ⟨rfl, hb⟩
    exact ⟨rfl, HKeep.out _ _ h hb⟩)
  obtain ⟨op, hop⟩ : ∃ o, D.openA t = o := ⟨_, rfl⟩
  rw [hop] at HOpen HRef
  clear k0 k1 k2 hls hop
  refine wp_region_held_drew (S := (fun w' => w'.cell? ⟨w.heap.size, 0, none⟩ = some (.int .i64 off) ∧ w'.cell? ⟨w.heap.size, 1, none⟩ = some (.slice a n ca) ∧ w'.cell? ⟨w.heap.size, 2, none⟩ = some (.slice b m cb) ∧ Ck L D w' ∧ Below w.heap.size w w' ∧ w.heap.size < w'.heap.size)) (by kernel_rfl) h0 (fun hHeld => ?_)
  refine wpAnyH_take (i := 0) (v := ?_) rfl (by kernel_rfl) (by kernel_rfl) (by kernel_rfl) (fun _ _ _ h => h) (Or.inl ⟨by rfl, ?_⟩) (by assumption) ?_
  case refine_2 => (intro w1 hS1; (try dsimp only at hS1); go_simp; try with_reducible rfl)
  try simp only [List.getElem_toArray, List.getElem_cons_zero, List.getElem_cons_succ, Act.put, List.setIfInBounds_toArray, List.set_cons_zero, List.set_cons_succ]
  refine wpAnyH_take (i := 1) (v := ?_) rfl (by kernel_rfl) (by kernel_rfl) (by kernel_rfl) (fun _ _ _ h => h) (Or.inl ⟨by rfl, ?_⟩) (by assumption) ?_
  case refine_2 => (intro w1 hS1; (try dsimp only at hS1); go_simp; try with_reducible rfl)
  try simp only [List.getElem_toArray, List.getElem_cons_zero, List.getElem_cons_succ, Act.put, List.setIfInBounds_toArray, List.set_cons_zero, List.set_cons_succ]
  refine wpAnyH_take (i := 3) (v := ?_) rfl (by kernel_rfl) (by kernel_rfl) (by kernel_rfl) (fun _ _ _ h => h) (Or.inl ⟨by rfl, ?_⟩) (by assumption) ?_
  case refine_2 => (intro w1 hS1; (try dsimp only at hS1); go_simp; try with_reducible rfl)
  try simp only [List.getElem_toArray, List.getElem_cons_zero, List.getElem_cons_succ, Act.put, List.setIfInBounds_toArray, List.set_cons_zero, List.set_cons_succ]
  refine wpAnyH_take (i := 4) (v := ?_) rfl (by kernel_rfl) (by kernel_rfl) (by kernel_rfl) (fun _ _ _ h => h) (Or.inl ⟨by rfl, ?_⟩) (by assumption) ?_
  case refine_2 => (intro w1 hS1; (try dsimp only at hS1); go_simp; try with_reducible rfl)
  try simp only [List.getElem_toArray, List.getElem_cons_zero, List.getElem_cons_succ, Act.put, List.setIfInBounds_toArray, List.set_cons_zero, List.set_cons_succ]
  refine wpAnyH_ready (rs := [2]) (by kernel_rfl) (by simp) ?_
  refine AllReadyH.cons rfl (fun K hK => ?_) AllReadyH.nil
  go_simp
  refine (HOpen.out _ (by assumption)).mono ?_
  rintro e w6 ⟨rfl, hS6⟩
  refine hK.out _ _ (by assumption) (fun hHeld => ?_)
  clear hK K
  try simp only [List.getElem_toArray, List.getElem_cons_zero, List.getElem_cons_succ, Act.put, List.setIfInBounds_toArray, List.set_cons_zero, List.set_cons_succ]
  refine wpAnyH_ready (rs := [5]) (by kernel_rfl) (by simp) ?_
  refine AllReadyH.cons rfl (fun K hK => ?_) AllReadyH.nil
  go_simp
  refine (HRef.out _ (by assumption)).mono ?_
  rintro e w7 ⟨rfl, hS7⟩
  clear hS6
  refine hK.out _ _ (by assumption) (fun hHeld => ?_)
  clear hK K
  try simp only [List.getElem_toArray, List.getElem_cons_zero, List.getElem_cons_succ, Act.put, List.setIfInBounds_toArray, List.set_cons_zero, List.set_cons_succ]
  cases op
  all_goals
    refine wpAnyH_take (i := 6) (v := ?_) rfl (by kernel_rfl) (by kernel_rfl) (by kernel_rfl) (fun _ _ _ h => h) (Or.inl ⟨by rfl, ?_⟩) (by assumption) ?_
    case refine_2 => (intro w1 hS1; (try dsimp only at hS1); go_simp; try with_reducible rfl)
    try simp only [List.getElem_toArray, List.getElem_cons_zero, List.getElem_cons_succ, Act.put, List.setIfInBounds_toArray, List.set_cons_zero, List.set_cons_succ]
    refine wpAnyH_take (i := 7) (v := ?_) rfl (by kernel_rfl) (by kernel_rfl) (by kernel_rfl) (fun _ _ _ h => h) (Or.inl ⟨by rfl, ?_⟩) (by assumption) ?_
    case refine_2 => (intro w1 hS1; (try dsimp only at hS1); go_simp; try with_reducible rfl)
    try simp only [List.getElem_toArray, List.getElem_cons_zero, List.getElem_cons_succ, Act.put, List.setIfInBounds_toArray, List.set_cons_zero, List.set_cons_succ]
    refine wpAnyH_take (i := 8) (v := ?_) rfl (by kernel_rfl) (by kernel_rfl) (by kernel_rfl) (fun _ _ _ h => h) (Or.inl ⟨by rfl, ?_⟩) (by assumption) ?_
    case refine_2 => (intro w1 hS1; (try dsimp only at hS1); go_simp; try with_reducible rfl)
    try simp only [List.getElem_toArray, List.getElem_cons_zero, List.getElem_cons_succ, Act.put, List.setIfInBounds_toArray, List.set_cons_zero, List.set_cons_succ]
    refine wpAnyH_take (i := 10) (v := ?_) rfl (by kernel_rfl) (by kernel_rfl) (by kernel_rfl) (fun _ _ _ h => h) (Or.inl ⟨by rfl, ?_⟩) (by assumption) ?_
    case refine_2 => (intro w1 hS1; (try dsimp only at hS1); go_simp; try with_reducible rfl)
    try simp only [List.getElem_toArray, List.getElem_cons_zero, List.getElem_cons_succ, Act.put, List.setIfInBounds_toArray, List.set_cons_zero, List.set_cons_succ]
    refine wpAnyH_ready (rs := [9]) (by kernel_rfl) (by simp) ?_
    refine AllReadyH.cons rfl (fun K hK => ?_) AllReadyH.nil
    go_simp
    refine (HPL.out _ L hS7.2.2.2.1).mono ?_
    rintro e w8 ⟨v1, v2, rfl, hO1, hO2, hC8, hb8⟩
    have hS8 := HKeep.out _ _ hS7 hb8
    have hsm := HSM.out _ _ hS8.2.2.2.2.1 v1 v2 hO1 hO2
    clear hS7 hO1 hO2 hC8 hb8
    refine hK.out _ _ (by assumption) (fun hHeld => ?_)
    clear hK K
    try simp only [List.getElem_toArray, List.getElem_cons_zero, List.getElem_cons_succ, Act.put, List.setIfInBounds_toArray, List.set_cons_zero, List.set_cons_succ]
    refine wpAnyH_ready (rs := [11]) (by kernel_rfl) (by simp) ?_
    refine AllReadyH.cons rfl (fun K hK => ?_) AllReadyH.nil
    go_simp
    refine hsm.mono ?_
    rintro e w9 ⟨rfl, hb9⟩
    have hS9 := HKeep.out _ _ hS8 hb9
    have hlv := hl2.out w9 trivial
    clear hS8 hb9
    refine hK.out _ _ (by assumption) (fun hHeld => ?_)
    clear hK K
    try simp only [List.getElem_toArray, List.getElem_cons_zero, List.getElem_cons_succ, Act.put, List.setIfInBounds_toArray, List.set_cons_zero, List.set_cons_succ]
    refine wpAnyH_take (i := 12) (v := ?_) rfl (by kernel_rfl) (by kernel_rfl) (by kernel_rfl) (fun _ _ _ h => h) (Or.inl ⟨by rfl, ?_⟩) (by assumption) ?_
    case refine_2 => (intro w1 hS1; (try dsimp only at hS1); go_simp; try with_reducible rfl)
    try simp only [List.getElem_toArray, List.getElem_cons_zero, List.getElem_cons_succ, Act.put, List.setIfInBounds_toArray, List.set_cons_zero, List.set_cons_succ]
    refine wpAnyH_take (i := 13) (v := ?_) rfl (by kernel_rfl) (by kernel_rfl) (by kernel_rfl) (fun _ _ _ h => h) (Or.inl ⟨by rfl, ?_⟩) (by assumption) ?_
    case refine_2 => (intro w1 hS1; (try dsimp only at hS1); go_simp; try with_reducible rfl)
    try simp only [List.getElem_toArray, List.getElem_cons_zero, List.getElem_cons_succ, Act.put, List.setIfInBounds_toArray, List.set_cons_zero, List.set_cons_succ]
    refine wpAnyH_ready (rs := [14]) (by kernel_rfl) (by simp) ?_
    refine AllReadyH.cons rfl (fun K hK => ?_) AllReadyH.nil
    go_simp
    refine hlv.mono ?_
    rintro e w10 ⟨rfl, hb10⟩
    have hS10 := HKeep.out _ _ hS9 hb10
    clear hS9 hb10
    refine hK.out _ _ (by assumption) (fun hHeld => ?_)
    clear hK K
    try simp only [List.getElem_toArray, List.getElem_cons_zero, List.getElem_cons_succ, Act.put, List.setIfInBounds_toArray, List.set_cons_zero, List.set_cons_succ]
    refine wpAnyH_take (i := 15) (v := ?_) rfl (by kernel_rfl) (by kernel_rfl) (by kernel_rfl) (fun _ _ _ h => h) (Or.inl ⟨by rfl, ?_⟩) (by assumption) ?_
    case refine_2 => (intro w1 hS1; (try dsimp only at hS1); go_simp; try with_reducible rfl)
    try simp only [List.getElem_toArray, List.getElem_cons_zero, List.getElem_cons_succ, Act.put, List.setIfInBounds_toArray, List.set_cons_zero, List.set_cons_succ]
    refine wpAnyH_take (i := 16) (v := ?_) rfl (by kernel_rfl) (by kernel_rfl) (by kernel_rfl) (fun _ _ _ h => h) (Or.inl ⟨by rfl, ?_⟩) (by assumption) ?_
    case refine_2 => (intro w1 hS1; (try dsimp only at hS1); go_simp; try with_reducible rfl)
    try simp only [List.getElem_toArray, List.getElem_cons_zero, List.getElem_cons_succ, Act.put, List.setIfInBounds_toArray, List.set_cons_zero, List.set_cons_succ]
    refine wpAnyH_done (by kernel_rfl) ?_ _
    have HBZ := Lib.hid hS10.2.2.2.2.1
    clear hS10 h0
    go_wp2_with fail
    go_ret
    exact ⟨rfl, HBZ.out⟩
end Go.Proofs.Ytfeegohjgecjgaa

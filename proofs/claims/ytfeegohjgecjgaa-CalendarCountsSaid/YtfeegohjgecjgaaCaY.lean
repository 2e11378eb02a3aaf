/- CalendarCounts. -/
import Derived.Test.YtfeegohjgecjgaaCaR
import Derived.Test.YtfeegohjgecjgaaCaW
import Derived.Test.YtfeegohjgecjgaaCaX
namespace Go.Proofs.Ytfeegohjgecjgaa
open Go.RowKit
/-- What is due is one thing. -/
theorem Cal.due_same {D : Cal} {s b v e v' e' : Int} (h : D.Dues s b v e) (h' : D.Dues s b v' e') : v = v' ∧ e = e' := by
  rcases h with ⟨h1, h2, h3⟩ | ⟨s0, s1, h1, h2, h3⟩ | ⟨s0, s1, h1, h2, h3, h4⟩ | ⟨s0, s1, h1, h2, h3⟩
  · rcases h' with ⟨_, g2, g3⟩ | ⟨g0, g1, g2, _, _⟩ | ⟨g0, g1, g2, _, _, _⟩ | ⟨g0, g1, g2, _, _⟩
    · exact ⟨by omega, by omega⟩
    · omega
    · omega
    · omega
  · rcases h' with ⟨g1, _, _⟩ | ⟨_, _, _, g2, g3⟩ | ⟨_, _, g2, _, _, _⟩ | ⟨_, _, g2, _, _⟩
    · omega
    · exact ⟨by omega, by omega⟩
    · omega
    · omega
  · rcases h' with ⟨g1, _, _⟩ | ⟨_, _, g1, _, _⟩ | ⟨_, _, _, _, g2, g3⟩ | ⟨_, _, _, g2, _⟩
    · omega
    · omega
    · exact ⟨by omega, by omega⟩
    · exact absurd h2 g2
  · rcases h' with ⟨g1, _, _⟩ | ⟨_, _, g1, _, _⟩ | ⟨_, _, _, g2, _, _⟩ | ⟨_, _, _, _, g3⟩
    · omega
    · omega
    · exact absurd g2 h2
    · unfold Cal.DueIs at h3 g3
      generalize eH : (1125899906842624 : Int) = H at h3 g3
      rcases h3 with ⟨h3, h4, h5⟩ | ⟨h3, h4, h5, h6, h7⟩
      · rcases g3 with ⟨g3, g4, g5⟩ | ⟨g3, g4, g5, g6, g7⟩
        · exact ⟨by omega, by omega⟩
        · have h9 := D.g_mono (a := v') (b := H) (by omega) g7
          omega
      · rcases g3 with ⟨g3, g4, g5⟩ | ⟨g3, g4, g5, g6, g7⟩
        · have h9 := D.g_mono (a := v) (b := H) (by omega) h7
          omega
        · refine ⟨?_, by omega⟩
          have h9 := D.g_step (v - 1) (by omega)
          rw [h5, show v - 1 + 1 = v by omega] at h9
          have h10 := D.g_step (v' - 1) (by omega)
          rw [g5, show v' - 1 + 1 = v' by omega] at h10
          simp only [if_true] at h9 h10
          rcases Int.lt_trichotomy v v' with hc | hc | hc
          · have := D.g_mono (a := v) (b := v' - 1) (by omega) (by omega)
            omega
          · exact hc
          · have := D.g_mono (a := v') (b := v - 1) (by omega) (by omega)
            omega
/-- Elapsed and Rest, both ways, with one answer. -/
def El (D : Cal) (x y v e : Int) : Prop := (instB x = true ∧ instB y = true ∧ x ≤ y ∧ v = D.g y - D.g x ∧ e = 0) ∨ (¬ (instB x = true ∧ instB y = true ∧ x ≤ y) ∧ v = 0 ∧ e = 2)
theorem cel {L : Loc} {D : Cal} {w : World} (h : Ck L D w) (hd : D.ok) (x y : Int) : ∃ v e, (Calls Try.prog 40 #[.pointer (some ⟨L.K, 0, none⟩), .int .i64 x, .int .i64 y] w (Asks L D (.tuple #[.int .i64 v, .int .i64 e]) w)) ∧
    ∀ a ca b cb w', Sps w' a D.n D.F D.T → Sps w' b D.m D.G D.U → Calls Try.prog 41 #[calV D.off a D.n ca b D.m cb, .int .i64 x, .int .i64 y] w' fun en w'' => en = .returned (.tuple #[.int .i64 v, .int .i64 e]) ∧ Below w'.heap.size w' w'' := by
  by_cases hb : instB x = true ∧ instB y = true ∧ x ≤ y
  · obtain ⟨x0, _⟩ := (instB_iff x).1 hb.1
    obtain ⟨_, y1⟩ := (instB_iff y).1 hb.2.1
    exact ⟨_, _, elapsed_ok h hd x y x0 hb.2.2 y1, fun a ca b cb w' hS hR => relapsed_ok hd a ca b cb x y w' hS hR x0 hb.2.2 y1⟩
  · refine ⟨0, 2, (elapsed_bad h x y hb).mono ?_, fun a ca b cb w' hS hR => relapsed_bad hd a ca b cb x y w' hS hR hb⟩
    rintro en w' ⟨rfl, hb⟩
    exact ⟨rfl, h.kept hb, Only.below hb⟩
theorem cre {L : Loc} {D : Cal} {w : World} (h : Ck L D w) (hd : D.ok) (x b y : Int) (b1 : b ≤ 9223372036854775807) : ∃ v e, (Calls Try.prog 44 #[.pointer (some ⟨L.K, 0, none⟩), .int .i64 x, .int .i64 b, .int .i64 y] w (Asks L D (.tuple #[.int .i64 v, .int .i64 e]) w)) ∧
    ∀ a ca b' cb w', Sps w' a D.n D.F D.T → Sps w' b' D.m D.G D.U → Calls Try.prog 45 #[calV D.off a D.n ca b' D.m cb, .int .i64 x, .int .i64 b, .int .i64 y] w' fun en w'' => en = .returned (.tuple #[.int .i64 v, .int .i64 e]) ∧ Below w'.heap.size w' w'' := by
  by_cases b0 : b < 0
  · refine ⟨0, 2, (rest_arg h x b y b0).mono ?_, fun a ca b' cb w' hS hR => rrest_arg hd a ca b' cb x b y w' hS hR b0⟩
    rintro en w' ⟨rfl, hb⟩
    exact ⟨rfl, h.kept hb, Only.below hb⟩
  · by_cases hb : instB x = true ∧ instB y = true ∧ x ≤ y
    · obtain ⟨x0, _⟩ := (instB_iff x).1 hb.1
      obtain ⟨_, y1⟩ := (instB_iff y).1 hb.2.1
      exact ⟨_, _, rest_ok h hd x b y x0 hb.2.2 y1 (by omega) b1, fun a ca b' cb w' hS hR => rrest_ok hd a ca b' cb x b y w' hS hR x0 hb.2.2 y1 (by omega) b1⟩
    · refine ⟨0, 2, (rest_bad h x b y b0 hb).mono ?_, fun a ca b' cb w' hS hR => rrest_bad hd a ca b' cb x b y w' hS hR b0 hb⟩
      rintro en w' ⟨rfl, hb⟩
      exact ⟨rfl, h.kept hb, Only.below hb⟩

set_option maxRecDepth 100000 in
set_option maxHeartbeats 16000000 in
theorem ccounts_skip (off : Int) (a : Option Addr) (n ca : Nat) (b : Option Addr) (m cb : Nat) (F T G U : Nat → Int) (s t y : Int) (w : World) (hS : Sps w a n F T) (hR : Sps w b m G U)
    (hz : ¬ (n ≤ 60 ∧ m ≤ 60) ∨ checkE off F T n G U m ≠ 0) :
    Calls Try.prog 8 #[calV off a n ca b m cb, .int .i64 s, .int .i64 t, .int .i64 y] w fun e w' => e = .returned (.bool true) ∧ Below w.heap.size w w' := by
  have B1 : Below w.heap.size w (w.alloc (.cells #[.int .i64 off, .slice a n ca, .slice b m cb] 53)) := (Below.refl _ _).alloc (Nat.le_refl _) _
  have c0 : (w.alloc (.cells #[.int .i64 off, .slice a n ca, .slice b m cb] 53)).cell? ⟨w.heap.size, 0, none⟩ = some (.int .i64 off) := by simp
  have c1 : (w.alloc (.cells #[.int .i64 off, .slice a n ca, .slice b m cb] 53)).cell? ⟨w.heap.size, 1, none⟩ = some (.slice a n ca) := by simp
  have c2 : (w.alloc (.cells #[.int .i64 off, .slice a n ca, .slice b m cb] 53)).cell? ⟨w.heap.size, 2, none⟩ = some (.slice b m cb) := by simp
  have hlt : w.heap.size < (w.alloc (.cells #[.int .i64 off, .slice a n ca, .slice b m cb] 53)).heap.size := by simp
  have HB1 := Lib.hid B1
  have hli := light10 off a n ca b m cb (w.alloc (.cells #[.int .i64 off, .slice a n ca, .slice b m cb] 53)) hS.1 hR.1
  by_cases hl : n ≤ 60 ∧ m ≤ 60
  · rw [decide_eq_true hl] at hli
    have HCK := Lib.hid (fun W (hb : Below w.heap.size w W) => rcheck10 off a n ca F T b m cb G U W (hS.kept hb) (hR.kept hb))
    have HC := Lib.hid (And.intro c0 (And.intro c1 (And.intro c2 hlt)))
    obtain ⟨z0, ez⟩ : ∃ z, checkE off F T n G U m = z := ⟨_, rfl⟩
    obtain ⟨b0, d0⟩ : ∃ c, (z0 != 0) = c := ⟨_, rfl⟩
    have hor : b0 = true := by
      rcases hz with h | h
      · exact absurd hl h
      · exact d0 ▸ by rw [← ez]; simpa using h
    rw [ez] at HCK
    unfold calV at *
    clear hz hS hR B1 hlt hl ez
    go_enter Try.func8, Try.ntmps8
    go_wp2_with fail
    refine hli.mono ?_
    rintro e w2 ⟨rfl, hb2⟩
    have HB2 := Lib.hid (HB1.out.trans (hb2.mono HB1.out.size))
    have c0' := (hb2.cell (p := ⟨w.heap.size, 0, none⟩) HC.out.2.2.2).trans HC.out.1
    have c1' := (hb2.cell (p := ⟨w.heap.size, 1, none⟩) HC.out.2.2.2).trans HC.out.2.1
    have c2' := (hb2.cell (p := ⟨w.heap.size, 2, none⟩) HC.out.2.2.2).trans HC.out.2.2.1
    have hck := HCK.out w2 HB2.out
    have hl2 := Lib.hid (fun W (_ : True) => lives10 W)
    clear hli hb2 c0 c1 c2
    subst hor
    go_wp2_with fail
    refine hck.mono ?_
    rintro e w3 ⟨rfl, hb3⟩
    have HB3 := Lib.hid (HB2.out.trans (hb3.mono HB2.out.size))
    have hlv := hl2.out w3 trivial
    clear hck hb3 c0' c1' c2'
    go_wp2_with fail
    refine hlv.mono ?_
    rintro e wl ⟨rfl, hbl⟩
    have HBL := Lib.hid (HB3.out.trans (hbl.mono HB3.out.size))
    clear hlv hbl
    go_wp2_with fail
    go_ret
    exact ⟨rfl, HBL.out⟩
  · rw [decide_eq_false hl] at hli
    have hl2 := Lib.hid (fun W (_ : True) => lives10 W)
    unfold calV at *
    clear hz hS hR B1 hlt hl
    go_enter Try.func8, Try.ntmps8
    go_wp2_with fail
    refine hli.mono ?_
    rintro e w3 ⟨rfl, hb3⟩
    have HB3 := Lib.hid (HB1.out.trans (hb3.mono HB1.out.size))
    have hlv := hl2.out w3 trivial
    clear hli hb3 c0 c1 c2
    go_wp2_with fail
    refine hlv.mono ?_
    rintro e wl ⟨rfl, hbl⟩
    have HBL := Lib.hid (HB3.out.trans (hbl.mono HB3.out.size))
    clear hlv hbl
    go_wp2_with fail
    go_ret
    exact ⟨rfl, HBL.out⟩

set_option maxRecDepth 100000 in
set_option maxHeartbeats 16000000 in
theorem ccounts_ok (off : Int) (a : Option Addr) (n ca : Nat) (b : Option Addr) (m cb : Nat) (F T G U : Nat → Int) (s t y : Int) (w : World) (hS : Sps w a n F T) (hR : Sps w b m G U)
    (hl : n ≤ 60 ∧ m ≤ 60) (hz : checkE off F T n G U m = 0) (y1 : y ≤ 9223372036854775807) :
    Calls Try.prog 8 #[calV off a n ca b m cb, .int .i64 s, .int .i64 t, .int .i64 y] w fun e w' => e = .returned (.bool true) ∧ Below w.heap.size w w' := by
  have B1 : Below w.heap.size w (w.alloc (.cells #[.int .i64 off, .slice a n ca, .slice b m cb] 53)) := (Below.refl _ _).alloc (Nat.le_refl _) _
  have c0 : (w.alloc (.cells #[.int .i64 off, .slice a n ca, .slice b m cb] 53)).cell? ⟨w.heap.size, 0, none⟩ = some (.int .i64 off) := by simp
  have c1 : (w.alloc (.cells #[.int .i64 off, .slice a n ca, .slice b m cb] 53)).cell? ⟨w.heap.size, 1, none⟩ = some (.slice a n ca) := by simp
  have c2 : (w.alloc (.cells #[.int .i64 off, .slice a n ca, .slice b m cb] 53)).cell? ⟨w.heap.size, 2, none⟩ = some (.slice b m cb) := by simp
  have hlt : w.heap.size < (w.alloc (.cells #[.int .i64 off, .slice a n ca, .slice b m cb] 53)).heap.size := by simp
  have HB1 := Lib.hid B1
  have hli := light10 off a n ca b m cb (w.alloc (.cells #[.int .i64 off, .slice a n ca, .slice b m cb] 53)) hS.1 hR.1
  rw [decide_eq_true hl] at hli
  have hd := checkE_ok hz
  have HCK := Lib.hid (fun W (hb : Below w.heap.size w W) => And.intro (rcheck10 off a n ca F T b m cb G U W (hS.kept hb) (hR.kept hb)) (clock_in off a n ca b m cb F T G U W (hS.kept hb) (hR.kept hb) hz))
  have hl2 := Lib.hid (fun W (_ : True) => lives10 W)
  have HRS : Hid (∀ W, Below w.heap.size w W → Sps W a n F T ∧ Sps W b m G U) := Lib.hid (fun W hb => ⟨hS.kept hb, hR.kept hb⟩)
  rw [hz] at HCK
  obtain ⟨D, eD⟩ : ∃ D : Cal, (⟨F, T, n, G, U, m, off⟩ : Cal) = D := ⟨_, rfl⟩
  have HEL : Hid (∀ W L (_ : Ck L D W) (x z : Int), ∃ v e, (Calls Try.prog 40 #[.pointer (some ⟨L.K, 0, none⟩), .int .i64 x, .int .i64 z] W (Asks L D (.tuple #[.int .i64 v, .int .i64 e]) W)) ∧
      ∀ w', Below w.heap.size w w' → Calls Try.prog 41 #[.agg #[.int .i64 off, .slice a n ca, .slice b m cb], .int .i64 x, .int .i64 z] w' fun en w'' => en = .returned (.tuple #[.int .i64 v, .int .i64 e]) ∧ Below w'.heap.size w' w'') := Lib.hid (by
    subst eD
    intro W L hC x z
    obtain ⟨v, e, h1, h2⟩ := cel hC hd x z
    exact ⟨v, e, h1, fun w' hb => h2 a ca b cb w' (HRS.out w' hb).1 (HRS.out w' hb).2⟩)
  have HRE : Hid (∀ W L (_ : Ck L D W), ∃ v e, (Calls Try.prog 44 #[.pointer (some ⟨L.K, 0, none⟩), .int .i64 s, .int .i64 y, .int .i64 t] W (Asks L D (.tuple #[.int .i64 v, .int .i64 e]) W)) ∧
      ∀ w', Below w.heap.size w w' → Calls Try.prog 45 #[.agg #[.int .i64 off, .slice a n ca, .slice b m cb], .int .i64 s, .int .i64 y, .int .i64 t] w' fun en w'' => en = .returned (.tuple #[.int .i64 v, .int .i64 e]) ∧ Below w'.heap.size w' w'') := Lib.hid (by
    subst eD
    intro W L hC
    obtain ⟨v, e, h1, h2⟩ := cre hC hd s y t y1
    exact ⟨v, e, h1, fun w' hb => h2 a ca b cb w' (HRS.out w' hb).1 (HRS.out w' hb).2⟩)
  have HDU : Hid (∀ W, Below w.heap.size w W → Calls Try.prog 43 #[.agg #[.int .i64 off, .slice a n ca, .slice b m cb], .int .i64 s, .int .i64 y] W fun e w' => (∃ v er, e = .returned (.tuple #[.int .i64 v, .int .i64 er]) ∧ D.Dues s y v er) ∧ Below W.heap.size W w') := Lib.hid (by
    subst eD
    intro W hb
    exact rdue_any hd a ca b cb s y W (HRS.out W hb).1 (HRS.out W hb).2 y1)
  rw [eD] at HCK hd
  have HD := Lib.hid hd
  have HC := Lib.hid (And.intro c0 (And.intro c1 (And.intro c2 hlt)))
  unfold calV at *
  clear hz hS hR B1 hlt hl eD hd
  go_enter Try.func8, Try.ntmps8
  go_wp2_with fail
  refine hli.mono ?_
  rintro e w2 ⟨rfl, hb2⟩
  have HB2 := Lib.hid (HB1.out.trans (hb2.mono HB1.out.size))
  have c0' := (hb2.cell (p := ⟨w.heap.size, 0, none⟩) HC.out.2.2.2).trans HC.out.1
  have c1' := (hb2.cell (p := ⟨w.heap.size, 1, none⟩) HC.out.2.2.2).trans HC.out.2.1
  have c2' := (hb2.cell (p := ⟨w.heap.size, 2, none⟩) HC.out.2.2.2).trans HC.out.2.2.1
  have HC2 := Lib.hid (And.intro c0' (And.intro c1' (And.intro c2' (Nat.lt_of_lt_of_le HC.out.2.2.2 hb2.size))))
  have hck := (HCK.out w2 HB2.out).1
  clear hli hb2 c0 c1 c2
  go_wp2_with fail
  refine hck.mono ?_
  rintro e w3 ⟨rfl, hb3⟩
  have HB3 := Lib.hid (HB2.out.trans (hb3.mono HB2.out.size))
  have c0 := (hb3.cell (p := ⟨w.heap.size, 0, none⟩) HC2.out.2.2.2).trans HC2.out.1
  have c1 := (hb3.cell (p := ⟨w.heap.size, 1, none⟩) HC2.out.2.2.2).trans HC2.out.2.1
  have c2 := (hb3.cell (p := ⟨w.heap.size, 2, none⟩) HC2.out.2.2.2).trans HC2.out.2.2.1
  have HC3 := Lib.hid (And.intro c0 (And.intro c1 (And.intro c2 (Nat.lt_of_lt_of_le HC2.out.2.2.2 hb3.size))))
  have hnw := (HCK.out w3 HB3.out).2
  clear hck hb3 c0' c1' c2'
  go_wp2_with fail
  refine hnw.mono ?_
  rintro e w4 ⟨L, rfl, hC, hle, hb4⟩
  have HB4 := Lib.hid (HB3.out.trans (hb4.mono HB3.out.size))
  have k0 := (hb4.cell (p := ⟨w.heap.size, 0, none⟩) HC3.out.2.2.2).trans HC3.out.1
  have k1 := (hb4.cell (p := ⟨w.heap.size, 1, none⟩) HC3.out.2.2.2).trans HC3.out.2.1
  have k2 := (hb4.cell (p := ⟨w.heap.size, 2, none⟩) HC3.out.2.2.2).trans HC3.out.2.2.1
  have HC4 := Lib.hid (And.intro k0 (And.intro k1 (And.intro k2 (Nat.lt_of_lt_of_le HC3.out.2.2.2 hb4.size))))
  have HNE := Lib.hid (show w.heap.size ≠ L.C by have := HC3.out.2.2.2; omega)
  have HL := Lib.hid (Nat.le_trans HB3.out.size hle)
  obtain ⟨v1, e1, hp, hr⟩ := HEL.out w4 L hC s t
  have HRF := Lib.hid hr
  clear hnw hC hle hb4 c0 c1 c2 hr k0 k1 k2
  go_wp2_with fail
  refine hp.mono ?_
  rintro e w5 ⟨rfl, hC, ho⟩
  have HB5 := Lib.hid (HB4.out.trans (ho.toBelow HB4.out.size (fun k hk => hk ▸ HL.out)))
  have k0 := (ho.cell (p := ⟨w.heap.size, 0, none⟩) HC4.out.2.2.2 HNE.out).trans HC4.out.1
  have k1 := (ho.cell (p := ⟨w.heap.size, 1, none⟩) HC4.out.2.2.2 HNE.out).trans HC4.out.2.1
  have k2 := (ho.cell (p := ⟨w.heap.size, 2, none⟩) HC4.out.2.2.2 HNE.out).trans HC4.out.2.2.1
  have HC5 := Lib.hid (And.intro k0 (And.intro k1 (And.intro k2 (Nat.lt_of_lt_of_le HC4.out.2.2.2 ho.size))))
  have HK5 := Lib.hid hC
  have hr := HRF.out w5 HB5.out
  clear hp hC ho
  go_wp2_with fail
  refine hr.mono ?_
  rintro e w6 ⟨rfl, hb⟩
  have HB6 := Lib.hid (HB5.out.trans (hb.mono HB5.out.size))
  have HK6 := Lib.hid (HK5.out.kept hb)
  clear k0 k1 k2
  have k0 := (hb.cell (p := ⟨w.heap.size, 0, none⟩) HC5.out.2.2.2).trans HC5.out.1
  have k1 := (hb.cell (p := ⟨w.heap.size, 1, none⟩) HC5.out.2.2.2).trans HC5.out.2.1
  have k2 := (hb.cell (p := ⟨w.heap.size, 2, none⟩) HC5.out.2.2.2).trans HC5.out.2.2.1
  have HC6 := Lib.hid (And.intro k0 (And.intro k1 (And.intro k2 (Nat.lt_of_lt_of_le HC5.out.2.2.2 hb.size))))
  have hdu := due_any HK6.out HD.out s y y1
  clear hr hb k0 k1 k2
  go_wp2_with fail
  refine hdu.mono ?_
  rintro e w7 ⟨v, er, rfl, hv, hC, ho⟩
  have HB7 := Lib.hid (HB6.out.trans (ho.toBelow HB6.out.size (fun k hk => hk ▸ HL.out)))
  have k0 := (ho.cell (p := ⟨w.heap.size, 0, none⟩) HC6.out.2.2.2 HNE.out).trans HC6.out.1
  have k1 := (ho.cell (p := ⟨w.heap.size, 1, none⟩) HC6.out.2.2.2 HNE.out).trans HC6.out.2.1
  have k2 := (ho.cell (p := ⟨w.heap.size, 2, none⟩) HC6.out.2.2.2 HNE.out).trans HC6.out.2.2.1
  have HC7 := Lib.hid (And.intro k0 (And.intro k1 (And.intro k2 (Nat.lt_of_lt_of_le HC6.out.2.2.2 ho.size))))
  have HK7 := Lib.hid hC
  have HV := Lib.hid hv
  have hr := HDU.out w7 HB7.out
  clear hdu hC ho hv
  go_wp2_with fail
  refine hr.mono ?_
  rintro e w8 ⟨⟨v', er', rfl, hv'⟩, hb⟩
  obtain ⟨rfl, rfl⟩ := Cal.due_same HV.out hv'
  have HB8 := Lib.hid (HB7.out.trans (hb.mono HB7.out.size))
  clear k0 k1 k2
  have k0 := (hb.cell (p := ⟨w.heap.size, 0, none⟩) HC7.out.2.2.2).trans HC7.out.1
  have k1 := (hb.cell (p := ⟨w.heap.size, 1, none⟩) HC7.out.2.2.2).trans HC7.out.2.1
  have k2 := (hb.cell (p := ⟨w.heap.size, 2, none⟩) HC7.out.2.2.2).trans HC7.out.2.2.1
  have HC8 := Lib.hid (And.intro k0 (And.intro k1 (And.intro k2 (Nat.lt_of_lt_of_le HC7.out.2.2.2 hb.size))))
  obtain ⟨v2, e2, hp, hr2⟩ := HRE.out w8 L (HK7.out.kept hb)
  have HRF2 := Lib.hid hr2
  clear hr hb hv' hr2 k0 k1 k2
  go_wp2_with fail
  refine hp.mono ?_
  rintro e w9 ⟨rfl, hC, ho⟩
  have HB9 := Lib.hid (HB8.out.trans (ho.toBelow HB8.out.size (fun k hk => hk ▸ HL.out)))
  have k0 := (ho.cell (p := ⟨w.heap.size, 0, none⟩) HC8.out.2.2.2 HNE.out).trans HC8.out.1
  have k1 := (ho.cell (p := ⟨w.heap.size, 1, none⟩) HC8.out.2.2.2 HNE.out).trans HC8.out.2.1
  have k2 := (ho.cell (p := ⟨w.heap.size, 2, none⟩) HC8.out.2.2.2 HNE.out).trans HC8.out.2.2.1
  have HC9 := Lib.hid (And.intro k0 (And.intro k1 (And.intro k2 (Nat.lt_of_lt_of_le HC8.out.2.2.2 ho.size))))
  have hr := HRF2.out w9 HB9.out
  clear hp hC ho
  go_wp2_with fail
  refine hr.mono ?_
  rintro e w10 ⟨rfl, hb⟩
  have HB10 := Lib.hid (HB9.out.trans (hb.mono HB9.out.size))
  have hlv := hl2.out w10 trivial
  clear hr hb k0 k1 k2
  go_wp2_with fail
  refine hlv.mono ?_
  rintro e wl ⟨rfl, hbl⟩
  have HBL := Lib.hid (HB10.out.trans (hbl.mono HB10.out.size))
  clear hlv hbl
  go_wp2_with fail
  go_ret
  exact ⟨rfl, HBL.out⟩
end Go.Proofs.Ytfeegohjgecjgaa

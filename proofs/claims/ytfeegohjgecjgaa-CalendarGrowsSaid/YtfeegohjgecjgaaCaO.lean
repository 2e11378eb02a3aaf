/- CalendarGrows. -/
import Derived.Test.YtfeegohjgecjgaaCaI
namespace Go.Proofs.Ytfeegohjgecjgaa
open Go.RowKit
set_option maxRecDepth 100000 in
/-- What is due later. -/
theorem Cal.grows {D : Cal} {a b y z x f v g : Int} (hA : D.Dues a y x f) (hB : D.Dues b (y + z) v g) (a0 : 0 ≤ a) (ab : a ≤ b) (b1 : b ≤ 1125899906842624) (y0 : 0 ≤ y) (z0 : 0 ≤ z) :
    (g = 0 ∧ f = 0 ∧ x ≤ v) ∨ ((g = 10 ∨ g = 40) ∧ v = 0) := by
  rcases hB with ⟨h, _, _⟩ | ⟨_, _, h1, h2, h3⟩ | ⟨_, _, _, _, h1, h2⟩ | ⟨_, _, h0, ht, h⟩
  · omega
  · rcases hA with ⟨h, _, _⟩ | ⟨_, _, h4, h5, h6⟩ | ⟨_, _, h, _⟩ | ⟨_, _, h, _⟩
    · omega
    · exact .inl ⟨h3, h6, by omega⟩
    · omega
    · omega
  · exact .inr ⟨.inr h2, h1⟩
  · rcases h with ⟨h1, h2, _⟩ | ⟨h1, h2, h3, h4, h5⟩
    · exact .inr ⟨.inl h1, h2⟩
    · refine .inl ⟨h1, ?_⟩
      have hab := D.g_mono a0 ab
      rcases hA with ⟨h, _, _⟩ | ⟨_, _, h6, h7, h8⟩ | ⟨_, _, _, h, _⟩ | ⟨_, _, _, _, h⟩
      · omega
      · exact ⟨h8, by omega⟩
      · exact absurd h ht
      · rcases h with ⟨_, _, h⟩ | ⟨h6, h7, h8, h9, _⟩
        · have h12 := D.g_mono (a := v) (b := 1125899906842624) (by omega) h5
          generalize D.g 1125899906842624 = q at h h12
          omega
        · refine ⟨h6, ?_⟩
          have h10 := D.g_step (x - 1) (by omega)
          rw [h8, show x - 1 + 1 = x by omega] at h10
          simp only [if_true] at h10
          rcases Int.lt_or_le v x with hc | hc
          · have := D.g_mono (a := v) (b := x - 1) (by omega) (by omega)
            omega
          · exact hc

set_option maxRecDepth 100000 in
set_option maxHeartbeats 16000000 in
theorem cgrows_skip (off : Int) (a : Option Addr) (n ca : Nat) (b : Option Addr) (m cb : Nat) (F T G U : Nat → Int) (s t y z : Int) (w : World) (hS : Sps w a n F T) (hR : Sps w b m G U)
    (hz : ¬ (n ≤ 60 ∧ m ≤ 60) ∨ checkE off F T n G U m ≠ 0 ∨ s < 0 ∨ t < s ∨ 1125899906842624 < t ∨ y < 0 ∨ z < 0 ∨ 4503599627370496 < z ∨ 4503599627370496 < y) :
    Calls Try.prog 11 #[calV off a n ca b m cb, .int .i64 s, .int .i64 t, .int .i64 y, .int .i64 z] w fun e w' => e = .returned (.bool true) ∧ Below w.heap.size w w' := by
  have B1 : Below w.heap.size w (w.alloc (.cells #[.int .i64 off, .slice a n ca, .slice b m cb] 53)) := (Below.refl _ _).alloc (Nat.le_refl _) _
  have c0 : (w.alloc (.cells #[.int .i64 off, .slice a n ca, .slice b m cb] 53)).cell? ⟨w.heap.size, 0, none⟩ = some (.int .i64 off) := by simp
  have c1 : (w.alloc (.cells #[.int .i64 off, .slice a n ca, .slice b m cb] 53)).cell? ⟨w.heap.size, 1, none⟩ = some (.slice a n ca) := by simp
  have c2 : (w.alloc (.cells #[.int .i64 off, .slice a n ca, .slice b m cb] 53)).cell? ⟨w.heap.size, 2, none⟩ = some (.slice b m cb) := by simp
  have hlt : w.heap.size < (w.alloc (.cells #[.int .i64 off, .slice a n ca, .slice b m cb] 53)).heap.size := by simp
  have HB1 := Lib.hid B1
  have hli := light10 off a n ca b m cb (w.alloc (.cells #[.int .i64 off, .slice a n ca, .slice b m cb] 53)) hS.1 hR.1
  by_cases hl : n ≤ 60 ∧ m ≤ 60
  · rw [decide_eq_true hl] at hli
    have HCK := Lib.hid (fun W (hb : Below w.heap.size w W) => rcheck10 off a n ca F T b m cb G U W (hS.kept hb) (hR.kept hb))
    have HC := Lib.hid (And.intro c0 (And.intro c1 (And.intro c2 hlt)))
    obtain ⟨z0, ez⟩ : ∃ z, checkE off F T n G U m = z := ⟨_, rfl⟩
    obtain ⟨b0, d0⟩ : ∃ c, (z0 != 0) = c := ⟨_, rfl⟩
    obtain ⟨b1, d1⟩ : ∃ c, decide (s < 0) = c := ⟨_, rfl⟩
    obtain ⟨b2, d2⟩ : ∃ c, decide (t < s) = c := ⟨_, rfl⟩
    obtain ⟨b3, d3⟩ : ∃ c, decide (1125899906842624 < t) = c := ⟨_, rfl⟩
    obtain ⟨b4, d4⟩ : ∃ c, decide (y < 0) = c := ⟨_, rfl⟩
    obtain ⟨b5, d5⟩ : ∃ c, decide (z < 0) = c := ⟨_, rfl⟩
    obtain ⟨b6, d6⟩ : ∃ c, decide (4503599627370496 < z) = c := ⟨_, rfl⟩
    obtain ⟨b7, d7⟩ : ∃ c, decide (4503599627370496 < y) = c := ⟨_, rfl⟩
    have hor : b0 = true ∨ b1 = true ∨ b2 = true ∨ b3 = true ∨ b4 = true ∨ b5 = true ∨ b6 = true ∨ b7 = true := by
      rcases hz with h | h | h | h | h | h | h | h | h
      · exact absurd hl h
      · exact .inl (d0 ▸ by rw [← ez]; simpa using h)
      · exact .inr (.inl (d1 ▸ decide_eq_true h))
      · exact .inr (.inr (.inl (d2 ▸ decide_eq_true h)))
      · exact .inr (.inr (.inr (.inl (d3 ▸ decide_eq_true h))))
      · exact .inr (.inr (.inr (.inr (.inl (d4 ▸ decide_eq_true h)))))
      · exact .inr (.inr (.inr (.inr (.inr (.inl (d5 ▸ decide_eq_true h))))))
      · exact .inr (.inr (.inr (.inr (.inr (.inr (.inl (d6 ▸ decide_eq_true h)))))))
      · exact .inr (.inr (.inr (.inr (.inr (.inr (.inr (d7 ▸ decide_eq_true h)))))))
    rw [ez] at HCK
    unfold calV at *
    clear hz hS hR B1 hlt hl ez
    go_enter Try.func11, Try.ntmps11
    go_wp2_with fail
    refine hli.mono ?_
    rintro e w2 ⟨rfl, hb2⟩
    have HB2 := Lib.hid (HB1.out.trans (hb2.mono HB1.out.size))
    have c0' := (hb2.cell (p := ⟨w.heap.size, 0, none⟩) HC.out.2.2.2).trans HC.out.1
    have c1' := (hb2.cell (p := ⟨w.heap.size, 1, none⟩) HC.out.2.2.2).trans HC.out.2.1
    have c2' := (hb2.cell (p := ⟨w.heap.size, 2, none⟩) HC.out.2.2.2).trans HC.out.2.2.1
    have hck := HCK.out w2 HB2.out
    have hl2 := Lib.hid (fun W (_ : True) => lives10 W)
    clear hli hb2 c0 c1 c2
    cases b0
    case true =>
      clear hor
      go_wp2_with fail
      refine hck.mono ?_
      rintro e w3 ⟨rfl, hb3⟩
      have HB3 := Lib.hid (HB2.out.trans (hb3.mono HB2.out.size))
      have hlv := hl2.out w3 trivial
      clear hck hb3 c0' c1' c2'
      go_wp2_with fail
      refine hlv.mono ?_
      rintro e wl ⟨rfl, hbl⟩
      have HBL := Lib.hid (HB3.out.trans (hbl.mono HB3.out.size))
      clear hlv hbl
      go_wp2_with fail
      go_ret
      exact ⟨rfl, HBL.out⟩
    replace hor := hor.resolve_left (by decide)
    cases b1
    case true =>
      clear hor
      go_wp2_with fail
      refine hck.mono ?_
      rintro e w3 ⟨rfl, hb3⟩
      have HB3 := Lib.hid (HB2.out.trans (hb3.mono HB2.out.size))
      have hlv := hl2.out w3 trivial
      clear hck hb3 c0' c1' c2'
      go_wp2_with fail
      refine hlv.mono ?_
      rintro e wl ⟨rfl, hbl⟩
      have HBL := Lib.hid (HB3.out.trans (hbl.mono HB3.out.size))
      clear hlv hbl
      go_wp2_with fail
      go_ret
      exact ⟨rfl, HBL.out⟩
    replace hor := hor.resolve_left (by decide)
    cases b2
    case true =>
      clear hor
      go_wp2_with fail
      refine hck.mono ?_
      rintro e w3 ⟨rfl, hb3⟩
      have HB3 := Lib.hid (HB2.out.trans (hb3.mono HB2.out.size))
      have hlv := hl2.out w3 trivial
      clear hck hb3 c0' c1' c2'
      go_wp2_with fail
      refine hlv.mono ?_
      rintro e wl ⟨rfl, hbl⟩
      have HBL := Lib.hid (HB3.out.trans (hbl.mono HB3.out.size))
      clear hlv hbl
      go_wp2_with fail
      go_ret
      exact ⟨rfl, HBL.out⟩
    replace hor := hor.resolve_left (by decide)
    cases b3
    case true =>
      clear hor
      go_wp2_with fail
      refine hck.mono ?_
      rintro e w3 ⟨rfl, hb3⟩
      have HB3 := Lib.hid (HB2.out.trans (hb3.mono HB2.out.size))
      have hlv := hl2.out w3 trivial
      clear hck hb3 c0' c1' c2'
      go_wp2_with fail
      refine hlv.mono ?_
      rintro e wl ⟨rfl, hbl⟩
      have HBL := Lib.hid (HB3.out.trans (hbl.mono HB3.out.size))
      clear hlv hbl
      go_wp2_with fail
      go_ret
      exact ⟨rfl, HBL.out⟩
    replace hor := hor.resolve_left (by decide)
    cases b4
    case true =>
      clear hor
      go_wp2_with fail
      refine hck.mono ?_
      rintro e w3 ⟨rfl, hb3⟩
      have HB3 := Lib.hid (HB2.out.trans (hb3.mono HB2.out.size))
      have hlv := hl2.out w3 trivial
      clear hck hb3 c0' c1' c2'
      go_wp2_with fail
      refine hlv.mono ?_
      rintro e wl ⟨rfl, hbl⟩
      have HBL := Lib.hid (HB3.out.trans (hbl.mono HB3.out.size))
      clear hlv hbl
      go_wp2_with fail
      go_ret
      exact ⟨rfl, HBL.out⟩
    replace hor := hor.resolve_left (by decide)
    cases b5
    case true =>
      clear hor
      go_wp2_with fail
      refine hck.mono ?_
      rintro e w3 ⟨rfl, hb3⟩
      have HB3 := Lib.hid (HB2.out.trans (hb3.mono HB2.out.size))
      have hlv := hl2.out w3 trivial
      clear hck hb3 c0' c1' c2'
      go_wp2_with fail
      refine hlv.mono ?_
      rintro e wl ⟨rfl, hbl⟩
      have HBL := Lib.hid (HB3.out.trans (hbl.mono HB3.out.size))
      clear hlv hbl
      go_wp2_with fail
      go_ret
      exact ⟨rfl, HBL.out⟩
    replace hor := hor.resolve_left (by decide)
    cases b6
    case true =>
      clear hor
      go_wp2_with fail
      refine hck.mono ?_
      rintro e w3 ⟨rfl, hb3⟩
      have HB3 := Lib.hid (HB2.out.trans (hb3.mono HB2.out.size))
      have hlv := hl2.out w3 trivial
      clear hck hb3 c0' c1' c2'
      go_wp2_with fail
      refine hlv.mono ?_
      rintro e wl ⟨rfl, hbl⟩
      have HBL := Lib.hid (HB3.out.trans (hbl.mono HB3.out.size))
      clear hlv hbl
      go_wp2_with fail
      go_ret
      exact ⟨rfl, HBL.out⟩
    replace hor := hor.resolve_left (by decide)
    subst hor
    go_wp2_with fail
    refine hck.mono ?_
    rintro e w3 ⟨rfl, hb3⟩
    have HB3 := Lib.hid (HB2.out.trans (hb3.mono HB2.out.size))
    have hlv := hl2.out w3 trivial
    clear hck hb3 c0' c1' c2'
    go_wp2_with fail
    refine hlv.mono ?_
    rintro e wl ⟨rfl, hbl⟩
    have HBL := Lib.hid (HB3.out.trans (hbl.mono HB3.out.size))
    clear hlv hbl
    go_wp2_with fail
    go_ret
    exact ⟨rfl, HBL.out⟩
  · rw [decide_eq_false hl] at hli
    have hl2 := Lib.hid (fun W (_ : True) => lives10 W)
    unfold calV at *
    clear hz hS hR B1 hlt hl
    go_enter Try.func11, Try.ntmps11
    go_wp2_with fail
    refine hli.mono ?_
    rintro e w3 ⟨rfl, hb3⟩
    have HB3 := Lib.hid (HB1.out.trans (hb3.mono HB1.out.size))
    have hlv := hl2.out w3 trivial
    clear hli hb3 c0 c1 c2
    go_wp2_with fail
    refine hlv.mono ?_
    rintro e wl ⟨rfl, hbl⟩
    have HBL := Lib.hid (HB3.out.trans (hbl.mono HB3.out.size))
    clear hlv hbl
    go_wp2_with fail
    go_ret
    exact ⟨rfl, HBL.out⟩

set_option maxRecDepth 100000 in
set_option maxHeartbeats 16000000 in
theorem cgrows_ok (off : Int) (a : Option Addr) (n ca : Nat) (b : Option Addr) (m cb : Nat) (F T G U : Nat → Int) (s t y z : Int) (w : World) (hS : Sps w a n F T) (hR : Sps w b m G U)
    (hl : n ≤ 60 ∧ m ≤ 60) (hz : checkE off F T n G U m = 0) (a0 : 0 ≤ s) (ab : s ≤ t) (b1 : t ≤ 1125899906842624) (y0 : 0 ≤ y) (z0 : 0 ≤ z) (z1 : z ≤ 4503599627370496) (y1 : y ≤ 4503599627370496) :
    Calls Try.prog 11 #[calV off a n ca b m cb, .int .i64 s, .int .i64 t, .int .i64 y, .int .i64 z] w fun e w' => e = .returned (.bool true) ∧ Below w.heap.size w w' := by
  have B1 : Below w.heap.size w (w.alloc (.cells #[.int .i64 off, .slice a n ca, .slice b m cb] 53)) := (Below.refl _ _).alloc (Nat.le_refl _) _
  have c0 : (w.alloc (.cells #[.int .i64 off, .slice a n ca, .slice b m cb] 53)).cell? ⟨w.heap.size, 0, none⟩ = some (.int .i64 off) := by simp
  have c1 : (w.alloc (.cells #[.int .i64 off, .slice a n ca, .slice b m cb] 53)).cell? ⟨w.heap.size, 1, none⟩ = some (.slice a n ca) := by simp
  have c2 : (w.alloc (.cells #[.int .i64 off, .slice a n ca, .slice b m cb] 53)).cell? ⟨w.heap.size, 2, none⟩ = some (.slice b m cb) := by simp
  have hlt : w.heap.size < (w.alloc (.cells #[.int .i64 off, .slice a n ca, .slice b m cb] 53)).heap.size := by simp
  have HB1 := Lib.hid B1
  have hli := light10 off a n ca b m cb (w.alloc (.cells #[.int .i64 off, .slice a n ca, .slice b m cb] 53)) hS.1 hR.1
  rw [decide_eq_true hl] at hli
  have hd := checkE_ok hz
  have HCK := Lib.hid (fun W (hb : Below w.heap.size w W) => And.intro (rcheck10 off a n ca F T b m cb G U W (hS.kept hb) (hR.kept hb)) (clock_in off a n ca b m cb F T G U W (hS.kept hb) (hR.kept hb) hz))
  have hl2 := Lib.hid (fun W (_ : True) => lives10 W)
  rw [hz] at HCK
  obtain ⟨D, eD⟩ : ∃ D : Cal, (⟨F, T, n, G, U, m, off⟩ : Cal) = D := ⟨_, rfl⟩
  rw [eD] at HCK hd
  have HD := Lib.hid hd
  have HC := Lib.hid (And.intro c0 (And.intro c1 (And.intro c2 hlt)))
  have d1 : decide (s < 0) = false := decide_eq_false (by omega)
  have d2 : decide (t < s) = false := decide_eq_false (by omega)
  have d3 : decide (1125899906842624 < t) = false := decide_eq_false (by omega)
  have d4 : decide (y < 0) = false := decide_eq_false (by omega)
  have d5 : decide (z < 0) = false := decide_eq_false (by omega)
  have d6 : decide (4503599627370496 < z) = false := decide_eq_false (by omega)
  have d7 : decide (4503599627370496 < y) = false := decide_eq_false (by omega)
  unfold calV at *
  clear hz hS hR B1 hlt hl eD hd
  go_enter Try.func11, Try.ntmps11
  go_wp2_with fail
  refine hli.mono ?_
  rintro e w2 ⟨rfl, hb2⟩
  have HB2 := Lib.hid (HB1.out.trans (hb2.mono HB1.out.size))
  have c0' := (hb2.cell (p := ⟨w.heap.size, 0, none⟩) HC.out.2.2.2).trans HC.out.1
  have c1' := (hb2.cell (p := ⟨w.heap.size, 1, none⟩) HC.out.2.2.2).trans HC.out.2.1
  have c2' := (hb2.cell (p := ⟨w.heap.size, 2, none⟩) HC.out.2.2.2).trans HC.out.2.2.1
  have HC2 := Lib.hid (And.intro c0' (And.intro c1' (And.intro c2' (Nat.lt_of_lt_of_le HC.out.2.2.2 hb2.size))))
  have hck := (HCK.out w2 HB2.out).1
  clear hli hb2 c0 c1 c2
  go_wp2_with fail
  refine hck.mono ?_
  rintro e w3 ⟨rfl, hb3⟩
  have HB3 := Lib.hid (HB2.out.trans (hb3.mono HB2.out.size))
  have c0 := (hb3.cell (p := ⟨w.heap.size, 0, none⟩) HC2.out.2.2.2).trans HC2.out.1
  have c1 := (hb3.cell (p := ⟨w.heap.size, 1, none⟩) HC2.out.2.2.2).trans HC2.out.2.1
  have c2 := (hb3.cell (p := ⟨w.heap.size, 2, none⟩) HC2.out.2.2.2).trans HC2.out.2.2.1
  have hnw := (HCK.out w3 HB3.out).2
  clear hck hb3 c0' c1' c2'
  go_wp2_with fail
  refine hnw.mono ?_
  rintro e w4 ⟨L, rfl, hC, hle, hb4⟩
  have HB4 := Lib.hid (HB3.out.trans (hb4.mono HB3.out.size))
  have HL := Lib.hid (Nat.le_trans HB3.out.size hle)
  have hdu := due_any hC HD.out s y (by omega)
  clear hnw hC hle hb4 c0 c1 c2
  go_wp2_with fail
  refine hdu.mono ?_
  rintro e w5 ⟨x, f, rfl, hx, hC, ho⟩
  have HB5 := Lib.hid (HB4.out.trans (ho.toBelow HB4.out.size (fun k hk => hk ▸ HL.out)))
  have hdu2 := due_any hC HD.out t (y + z) (by omega)
  have e1 : IntKind.i64.wrap (y + z) = y + z := IntWalk.i64_in _ (by omega)
  clear hdu hC ho
  go_wp2_with fail
  refine hdu2.mono ?_
  rintro e w6 ⟨v, g, rfl, hv, hC, ho⟩
  have HB6 := Lib.hid (HB5.out.trans (ho.toBelow HB5.out.size (fun k hk => hk ▸ HL.out)))
  clear hdu2 hC ho
  have hlv := hl2.out w6 trivial
  rcases Cal.grows hx hv a0 ab b1 y0 z0 with ⟨rfl, rfl, hxv⟩ | ⟨rfl | rfl, rfl⟩
  · have dx : decide (x ≤ v) = true := decide_eq_true hxv
    clear hx hv
    go_wp2_with fail
    refine hlv.mono ?_
    rintro e wl ⟨rfl, hbl⟩
    have HBL := Lib.hid (HB6.out.trans (hbl.mono HB6.out.size))
    clear hlv hbl
    go_wp2_with fail
    go_ret
    exact ⟨rfl, HBL.out⟩
  · clear hx hv
    go_wp2_with fail
    refine hlv.mono ?_
    rintro e wl ⟨rfl, hbl⟩
    have HBL := Lib.hid (HB6.out.trans (hbl.mono HB6.out.size))
    clear hlv hbl
    go_wp2_with fail
    go_ret
    exact ⟨rfl, HBL.out⟩
  · clear hx hv
    go_wp2_with fail
    refine hlv.mono ?_
    rintro e wl ⟨rfl, hbl⟩
    have HBL := Lib.hid (HB6.out.trans (hbl.mono HB6.out.size))
    clear hlv hbl
    go_wp2_with fail
    go_ret
    exact ⟨rfl, HBL.out⟩
end Go.Proofs.Ytfeegohjgecjgaa

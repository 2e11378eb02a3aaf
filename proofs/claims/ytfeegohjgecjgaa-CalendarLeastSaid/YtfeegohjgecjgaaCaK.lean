/- CalendarLeast. -/
import Derived.Test.YtfeegohjgecjgaaCaJ
namespace Go.Proofs.Ytfeegohjgecjgaa
open Go.RowKit
set_option maxRecDepth 100000 in
set_option maxHeartbeats 8000000 in
theorem cleast_ok (off : Int) (a : Option Addr) (n ca : Nat) (b : Option Addr) (m cb : Nat) (F T G U : Nat → Int) (s y : Int) (w : World) (hS : Sps w a n F T) (hR : Sps w b m G U)
    (hl : n ≤ 60 ∧ m ≤ 60) (hz : checkE off F T n G U m = 0) (s0 : 0 ≤ s) (s1 : s ≤ 1125899906842624) (y0 : 1 ≤ y) (y1 : y ≤ 9223372036854775807) :
    Calls Try.prog 10 #[calV off a n ca b m cb, .int .i64 s, .int .i64 y] w fun e w' => e = .returned (.bool true) ∧ Below w.heap.size w w' := by
  have B1 : Below w.heap.size w (w.alloc (.cells #[.int .i64 off, .slice a n ca, .slice b m cb] 53)) := (Below.refl _ _).alloc (Nat.le_refl _) _
  have c0 : (w.alloc (.cells #[.int .i64 off, .slice a n ca, .slice b m cb] 53)).cell? ⟨w.heap.size, 0, none⟩ = some (.int .i64 off) := by simp
  have c1 : (w.alloc (.cells #[.int .i64 off, .slice a n ca, .slice b m cb] 53)).cell? ⟨w.heap.size, 1, none⟩ = some (.slice a n ca) := by simp
  have c2 : (w.alloc (.cells #[.int .i64 off, .slice a n ca, .slice b m cb] 53)).cell? ⟨w.heap.size, 2, none⟩ = some (.slice b m cb) := by simp
  have hlt : w.heap.size < (w.alloc (.cells #[.int .i64 off, .slice a n ca, .slice b m cb] 53)).heap.size := by simp
  have HB1 := Lib.hid B1
  have hli := light10 off a n ca b m cb (w.alloc (.cells #[.int .i64 off, .slice a n ca, .slice b m cb] 53)) hS.1 hR.1
  rw [decide_eq_true hl] at hli
  have hd := checkE_ok hz
  have HCK := Lib.hid (fun W (hb : Below w.heap.size w W) => And.intro (rcheck10 off a n ca F T b m cb G U W (hS.kept hb) (hR.kept hb)) (clock_in off a n ca b m cb F T G U W (hS.kept hb) (hR.kept hb) hz))
  have hl2 := Lib.hid (fun W (_ : True) => lives10 W)
  rw [hz] at HCK
  obtain ⟨D, eD⟩ : ∃ D : Cal, (⟨F, T, n, G, U, m, off⟩ : Cal) = D := ⟨_, rfl⟩
  have HN := Lib.hid (show D.n = n by rw [← eD])
  rw [eD] at HCK hd
  have HD := Lib.hid hd
  have HC := Lib.hid (And.intro c0 (And.intro c1 (And.intro c2 hlt)))
  have d1 : decide (s < 0) = false := decide_eq_false (by omega)
  have d2 : decide (1125899906842624 < s) = false := decide_eq_false (by omega)
  have d3 : decide (y < 1) = false := decide_eq_false (by omega)
  unfold calV at *
  clear hz hS hR B1 hlt hl eD hd
  go_enter Try.func10, Try.ntmps10
  go_wp2_with fail
  refine hli.mono ?_
  rintro e w2 ⟨rfl, hb2⟩
  have HB2 := Lib.hid (HB1.out.trans (hb2.mono HB1.out.size))
  have c0' := (hb2.cell (p := ⟨w.heap.size, 0, none⟩) HC.out.2.2.2).trans HC.out.1
  have c1' := (hb2.cell (p := ⟨w.heap.size, 1, none⟩) HC.out.2.2.2).trans HC.out.2.1
  have c2' := (hb2.cell (p := ⟨w.heap.size, 2, none⟩) HC.out.2.2.2).trans HC.out.2.2.1
  have HC2 := Lib.hid (And.intro c0' (And.intro c1' (And.intro c2' (Nat.lt_of_lt_of_le HC.out.2.2.2 hb2.size))))
  have hck := (HCK.out w2 HB2.out).1
  clear hli hb2 c0 c1 c2
  go_wp2_with fail
  refine hck.mono ?_
  rintro e w3 ⟨rfl, hb3⟩
  have HB3 := Lib.hid (HB2.out.trans (hb3.mono HB2.out.size))
  have c0 := (hb3.cell (p := ⟨w.heap.size, 0, none⟩) HC2.out.2.2.2).trans HC2.out.1
  have c1 := (hb3.cell (p := ⟨w.heap.size, 1, none⟩) HC2.out.2.2.2).trans HC2.out.2.1
  have c2 := (hb3.cell (p := ⟨w.heap.size, 2, none⟩) HC2.out.2.2.2).trans HC2.out.2.2.1
  have HC3 := Lib.hid (And.intro c1 (Nat.lt_of_lt_of_le HC2.out.2.2.2 hb3.size))
  have hnw := (HCK.out w3 HB3.out).2
  clear hck hb3 c0' c1' c2'
  go_wp2_with fail
  refine hnw.mono ?_
  rintro e w4 ⟨L, rfl, hC, hle, hb4⟩
  have HB4 := Lib.hid (HB3.out.trans (hb4.mono HB3.out.size))
  have c1' := (hb4.cell (p := ⟨w.heap.size, 1, none⟩) HC3.out.2).trans HC3.out.1
  have HC4 := Lib.hid (And.intro c1' (Nat.lt_of_lt_of_le HC3.out.2 hb4.size))
  have HL := Lib.hid (And.intro (Nat.le_trans HB3.out.size hle) (show w.heap.size ≠ L.C by have := HC3.out.2; omega))
  have hdu := due_any hC HD.out s y y1
  clear hnw hC hle hb4 c0 c1 c2
  go_wp2_with fail
  refine hdu.mono ?_
  rintro e w5 ⟨v, er, rfl, hv, hC, ho⟩
  have HB5 := Lib.hid (HB4.out.trans (ho.toBelow HB4.out.size (fun k hk => hk ▸ HL.out.1)))
  have c1 := (ho.cell (p := ⟨w.heap.size, 1, none⟩) HC4.out.2 HL.out.2).trans HC4.out.1
  have HC5 := Lib.hid (And.intro c1 (Nat.lt_of_lt_of_le HC4.out.2 ho.size))
  have HCK5 := Lib.hid hC
  clear hdu hC ho c1'
  rcases Cal.due_two HD.out hv s0 s1 y0 with ⟨rfl, hq, he⟩ | ⟨rfl, h1, h2, h3, h4⟩
  · have hel := elapsed_ok HCK5.out HD.out s 1125899906842624 s0 s1 (Int.le_refl _)
    obtain ⟨q, eq⟩ : ∃ q, D.g 1125899906842624 - D.g s = q := ⟨_, rfl⟩
    rw [eq] at hel hq
    have dq : decide (q < y) = true := decide_eq_true hq
    rcases he with rfl | ⟨rfl, hn⟩
    · clear hv eq hq c1
      go_wp2_with fail
      refine hel.mono ?_
      rintro e w6 ⟨rfl, hC, ho⟩
      have HB6 := Lib.hid (HB5.out.trans (ho.toBelow HB5.out.size (fun k hk => hk ▸ HL.out.1)))
      have hlv := hl2.out w6 trivial
      clear hel hC ho
      go_wp2_with fail
      refine hlv.mono ?_
      rintro e w7 ⟨rfl, hb7⟩
      have HB7 := Lib.hid (HB6.out.trans (hb7.mono HB6.out.size))
      clear hlv hb7
      go_wp2_with fail
      go_ret
      exact ⟨rfl, HB7.out⟩
    · rw [HN.out] at hn
      subst hn
      clear hv eq hq c1
      go_wp2_with fail
      refine hel.mono ?_
      rintro e w6 ⟨rfl, hC, ho⟩
      have HB6 := Lib.hid (HB5.out.trans (ho.toBelow HB5.out.size (fun k hk => hk ▸ HL.out.1)))
      have c1 := (ho.cell (p := ⟨w.heap.size, 1, none⟩) HC5.out.2 HL.out.2).trans HC5.out.1
      have hlv := hl2.out w6 trivial
      clear hel hC ho
      go_wp2_with fail
      refine hlv.mono ?_
      rintro e w7 ⟨rfl, hb7⟩
      have HB7 := Lib.hid (HB6.out.trans (hb7.mono HB6.out.size))
      clear hlv hb7
      go_wp2_with fail
      go_ret
      exact ⟨rfl, HB7.out⟩
  · have hel := elapsed_ok HCK5.out HD.out s v s0 (by omega) h4
    rw [show D.g v - D.g s = y by omega] at hel
    have HG := Lib.hid (show D.g (v - 1) - D.g s = y - 1 by
      have := D.g_step (v - 1) (by omega)
      rw [h2, show v - 1 + 1 = v by omega] at this
      simp only [if_true] at this
      omega)
    have HO := Lib.hid (show D.openA (v - 1) = true by
      unfold Cal.openA
      rw [h2, decide_eq_true (by omega : 0 ≤ v - 1), decide_eq_true (by omega : v - 1 < 1125899906842624)]
      rfl)
    clear hv c1 h1 h2
    go_wp2_with fail
    refine hel.mono ?_
    rintro e w6 ⟨rfl, hC, ho⟩
    have HB6 := Lib.hid (HB5.out.trans (ho.toBelow HB5.out.size (fun k hk => hk ▸ HL.out.1)))
    have hel := elapsed_ok hC HD.out s (v - 1) s0 (by omega) (by omega)
    rw [HG.out] at hel
    clear hC ho
    go_wp2_with fail
    refine hel.mono ?_
    rintro e w7 ⟨rfl, hC, ho⟩
    have HB7 := Lib.hid (HB6.out.trans (ho.toBelow HB6.out.size (fun k hk => hk ▸ HL.out.1)))
    have hop := copen_any hC HD.out (v - 1)
    rw [HO.out] at hop
    clear hel hC ho
    go_wp2_with fail
    refine hop.mono ?_
    rintro e w8 ⟨rfl, hC, ho⟩
    have HB8 := Lib.hid (HB7.out.trans (ho.toBelow HB7.out.size (fun k hk => hk ▸ HL.out.1)))
    have hlv := hl2.out w8 trivial
    clear hop hC ho
    go_wp2_with fail
    refine hlv.mono ?_
    rintro e w9 ⟨rfl, hb9⟩
    have HB9 := Lib.hid (HB8.out.trans (hb9.mono HB8.out.size))
    clear hlv hb9
    go_wp2_with fail
    go_ret
    exact ⟨rfl, HB9.out⟩
end Go.Proofs.Ytfeegohjgecjgaa

/- What is left of a budget; CalendarAdds. -/
import Derived.Test.YtfeegohjgecjgaaCaI
import Derived.Test.YtfeegohjgecjgaaCaR
namespace Go.Proofs.Ytfeegohjgecjgaa
open Go.RowKit
set_option maxRecDepth 100000 in
/-- What is due behind a part. -/
theorem Cal.adds {D : Cal} {s p r all f mid g e h : Int} (hA : D.Dues s (p + r) all f) (hM : D.Dues s p mid g) (hE : D.Dues mid r e h) (p0 : 0 ≤ p) (r0 : 0 ≤ r) (hf : f = 0) :
    g = 0 ∧ h = 0 ∧ (0 < r → e = all) ∧ (r = 0 → e = mid) ∧ mid ≤ all ∧ ∀ t, s ≤ t → t < all → 0 ≤ s ∧ all ≤ 1125899906842624 ∧ 0 < p + r - (D.g t - D.g s) ∧ ∀ v k, D.Dues t (p + r - (D.g t - D.g s)) v k → v = all ∧ k = 0 := by
  rcases hA with ⟨_, _, h1⟩ | ⟨s0, s1, h1, h2, _⟩ | ⟨_, _, _, _, _, h1⟩ | ⟨s0, s1, h0, ht, h1⟩
  · omega
  · rcases hM with ⟨h3, _, _⟩ | ⟨_, _, _, h4, h5⟩ | ⟨_, _, h3, _⟩ | ⟨_, _, h3, _⟩
    · omega
    · rcases hE with ⟨h6, _, _⟩ | ⟨_, _, _, h7, h8⟩ | ⟨_, _, h6, _⟩ | ⟨_, _, h6, _⟩
      · omega
      · exact ⟨h5, h8, fun _ => by omega, fun _ => h7, by omega, fun t h9 h10 => by omega⟩
      · omega
      · omega
    · omega
    · omega
  · omega
  · rcases h1 with ⟨h1, _, _⟩ | ⟨_, hg, hop, hsa, haH⟩
    · omega
    · have hm : g = 0 ∧ s ≤ mid ∧ mid ≤ all ∧ D.g mid = D.g s + p := by
        rcases hM with ⟨h3, _, _⟩ | ⟨_, _, h3, h4, h5⟩ | ⟨_, _, _, h3, _⟩ | ⟨_, _, _, _, h3⟩
        · omega
        · exact ⟨h5, by omega, by omega, by rw [h4]; omega⟩
        · exact absurd h3 ht
        · rcases h3 with ⟨_, _, h3⟩ | ⟨h3, h4, h5, h6, h7⟩
          · have := D.g_mono (a := all) (b := 1125899906842624) (by omega) haH
            omega
          · refine ⟨h3, by omega, ?_, h4⟩
            have h8 := D.g_step (mid - 1) (by omega)
            rw [h5, show mid - 1 + 1 = mid by omega] at h8
            simp only [if_true] at h8
            rcases Int.lt_or_le all mid with hc | hc
            · have := D.g_mono (a := all) (b := mid - 1) (by omega) (by omega)
              omega
            · exact hc
      obtain ⟨hg0, m1, m2, m3⟩ := hm
      have he : h = 0 ∧ (0 < r → e = all) ∧ (r = 0 → e = mid) := by
        by_cases hr : r = 0
        · rcases hE with ⟨h6, _, _⟩ | ⟨_, _, _, h7, h8⟩ | ⟨_, _, h6, _⟩ | ⟨_, _, h6, _⟩
          · omega
          · exact ⟨h8, fun _ => by omega, fun _ => h7⟩
          · omega
          · omega
        · have hne : mid < all := by
            rcases Int.lt_or_le mid all with hc | hc
            · exact hc
            · have : mid = all := by omega
              subst this
              omega
          obtain ⟨h7, h8⟩ := D.due_is hE (by omega) (by omega) hne haH (by omega) hop ht
          exact ⟨h8, fun _ => h7, fun h9 => absurd h9 hr⟩
      refine ⟨hg0, he.1, he.2.1, he.2.2, m2, fun t h9 h10 => ?_⟩
      have h11 := D.g_step (all - 1) (by omega)
      rw [hop, show all - 1 + 1 = all by omega] at h11
      simp only [if_true] at h11
      have h12 := D.g_mono (a := t) (b := all - 1) (by omega) (by omega)
      exact ⟨s0, haH, by omega, fun v k hv => D.due_is hv (by omega) (by omega) h10 haH (by omega) hop ht⟩

set_option maxRecDepth 100000 in
set_option maxHeartbeats 16000000 in
theorem cadds_skip (off : Int) (a : Option Addr) (n ca : Nat) (b : Option Addr) (m cb : Nat) (F T G U : Nat → Int) (s p r t : Int) (w : World) (hS : Sps w a n F T) (hR : Sps w b m G U)
    (hz : ¬ (n ≤ 60 ∧ m ≤ 60) ∨ checkE off F T n G U m ≠ 0 ∨ p < 0 ∨ r < 0 ∨ 4503599627370496 < p ∨ 4503599627370496 < r) :
    Calls Try.prog 12 #[calV off a n ca b m cb, .int .i64 s, .int .i64 p, .int .i64 r, .int .i64 t] w fun e w' => e = .returned (.bool true) ∧ Below w.heap.size w w' := by
  have B1 : Below w.heap.size w (w.alloc (.cells #[.int .i64 off, .slice a n ca, .slice b m cb] 53)) := (Below.refl _ _).alloc (Nat.le_refl _) _
  have c0 : (w.alloc (.cells #[.int .i64 off, .slice a n ca, .slice b m cb] 53)).cell? ⟨w.heap.size, 0, none⟩ = some (.int .i64 off) := by simp
  have c1 : (w.alloc (.cells #[.int .i64 off, .slice a n ca, .slice b m cb] 53)).cell? ⟨w.heap.size, 1, none⟩ = some (.slice a n ca) := by simp
  have c2 : (w.alloc (.cells #[.int .i64 off, .slice a n ca, .slice b m cb] 53)).cell? ⟨w.heap.size, 2, none⟩ = some (.slice b m cb) := by simp
  have hlt : w.heap.size < (w.alloc (.cells #[.int .i64 off, .slice a n ca, .slice b m cb] 53)).heap.size := by simp
  have HB1 := Lib.hid B1
  have hli := light10 off a n ca b m cb (w.alloc (.cells #[.int .i64 off, .slice a n ca, .slice b m cb] 53)) hS.1 hR.1
  by_cases hl : n ≤ 60 ∧ m ≤ 60
  · rw [decide_eq_true hl] at hli
    have HCK := Lib.hid (fun W (hb : Below w.heap.size w W) => rcheck10 off a n ca F T b m cb G U W (hS.kept hb) (hR.kept hb))
    have HC := Lib.hid (And.intro c0 (And.intro c1 (And.intro c2 hlt)))
    obtain ⟨z0, ez⟩ : ∃ z, checkE off F T n G U m = z := ⟨_, rfl⟩
    obtain ⟨b0, d0⟩ : ∃ c, (z0 != 0) = c := ⟨_, rfl⟩
    obtain ⟨b1, d1⟩ : ∃ c, decide (p < 0) = c := ⟨_, rfl⟩
    obtain ⟨b2, d2⟩ : ∃ c, decide (r < 0) = c := ⟨_, rfl⟩
    obtain ⟨b3, d3⟩ : ∃ c, decide (4503599627370496 < p) = c := ⟨_, rfl⟩
    obtain ⟨b4, d4⟩ : ∃ c, decide (4503599627370496 < r) = c := ⟨_, rfl⟩
    have hor : b0 = true ∨ b1 = true ∨ b2 = true ∨ b3 = true ∨ b4 = true := by
      rcases hz with h | h | h | h | h | h
      · exact absurd hl h
      · exact .inl (d0 ▸ by rw [← ez]; simpa using h)
      · exact .inr (.inl (d1 ▸ decide_eq_true h))
      · exact .inr (.inr (.inl (d2 ▸ decide_eq_true h)))
      · exact .inr (.inr (.inr (.inl (d3 ▸ decide_eq_true h))))
      · exact .inr (.inr (.inr (.inr (d4 ▸ decide_eq_true h))))
    rw [ez] at HCK
    unfold calV at *
    clear hz hS hR B1 hlt hl ez
    go_enter Try.func12, Try.ntmps12
    go_wp2_with fail
    refine hli.mono ?_
    rintro e w2 ⟨rfl, hb2⟩
    have HB2 := Lib.hid (HB1.out.trans (hb2.mono HB1.out.size))
    have c0' := (hb2.cell (p := ⟨w.heap.size, 0, none⟩) HC.out.2.2.2).trans HC.out.1
    have c1' := (hb2.cell (p := ⟨w.heap.size, 1, none⟩) HC.out.2.2.2).trans HC.out.2.1
    have c2' := (hb2.cell (p := ⟨w.heap.size, 2, none⟩) HC.out.2.2.2).trans HC.out.2.2.1
    have hck := HCK.out w2 HB2.out
    have hl2 := Lib.hid (fun W (_ : True) => lives10 W)
    clear hli hb2 c0 c1 c2
    cases b0
    case true =>
      clear hor
      go_wp2_with fail
      refine hck.mono ?_
      rintro e w3 ⟨rfl, hb3⟩
      have HB3 := Lib.hid (HB2.out.trans (hb3.mono HB2.out.size))
      have hlv := hl2.out w3 trivial
      clear hck hb3 c0' c1' c2'
      go_wp2_with fail
      refine hlv.mono ?_
      rintro e wl ⟨rfl, hbl⟩
      have HBL := Lib.hid (HB3.out.trans (hbl.mono HB3.out.size))
      clear hlv hbl
      go_wp2_with fail
      go_ret
      exact ⟨rfl, HBL.out⟩
    replace hor := hor.resolve_left (by decide)
    cases b1
    case true =>
      clear hor
      go_wp2_with fail
      refine hck.mono ?_
      rintro e w3 ⟨rfl, hb3⟩
      have HB3 := Lib.hid (HB2.out.trans (hb3.mono HB2.out.size))
      have hlv := hl2.out w3 trivial
      clear hck hb3 c0' c1' c2'
      go_wp2_with fail
      refine hlv.mono ?_
      rintro e wl ⟨rfl, hbl⟩
      have HBL := Lib.hid (HB3.out.trans (hbl.mono HB3.out.size))
      clear hlv hbl
      go_wp2_with fail
      go_ret
      exact ⟨rfl, HBL.out⟩
    replace hor := hor.resolve_left (by decide)
    cases b2
    case true =>
      clear hor
      go_wp2_with fail
      refine hck.mono ?_
      rintro e w3 ⟨rfl, hb3⟩
      have HB3 := Lib.hid (HB2.out.trans (hb3.mono HB2.out.size))
      have hlv := hl2.out w3 trivial
      clear hck hb3 c0' c1' c2'
      go_wp2_with fail
      refine hlv.mono ?_
      rintro e wl ⟨rfl, hbl⟩
      have HBL := Lib.hid (HB3.out.trans (hbl.mono HB3.out.size))
      clear hlv hbl
      go_wp2_with fail
      go_ret
      exact ⟨rfl, HBL.out⟩
    replace hor := hor.resolve_left (by decide)
    cases b3
    case true =>
      clear hor
      go_wp2_with fail
      refine hck.mono ?_
      rintro e w3 ⟨rfl, hb3⟩
      have HB3 := Lib.hid (HB2.out.trans (hb3.mono HB2.out.size))
      have hlv := hl2.out w3 trivial
      clear hck hb3 c0' c1' c2'
      go_wp2_with fail
      refine hlv.mono ?_
      rintro e wl ⟨rfl, hbl⟩
      have HBL := Lib.hid (HB3.out.trans (hbl.mono HB3.out.size))
      clear hlv hbl
      go_wp2_with fail
      go_ret
      exact ⟨rfl, HBL.out⟩
    replace hor := hor.resolve_left (by decide)
    subst hor
    go_wp2_with fail
    refine hck.mono ?_
    rintro e w3 ⟨rfl, hb3⟩
    have HB3 := Lib.hid (HB2.out.trans (hb3.mono HB2.out.size))
    have hlv := hl2.out w3 trivial
    clear hck hb3 c0' c1' c2'
    go_wp2_with fail
    refine hlv.mono ?_
    rintro e wl ⟨rfl, hbl⟩
    have HBL := Lib.hid (HB3.out.trans (hbl.mono HB3.out.size))
    clear hlv hbl
    go_wp2_with fail
    go_ret
    exact ⟨rfl, HBL.out⟩
  · rw [decide_eq_false hl] at hli
    have hl2 := Lib.hid (fun W (_ : True) => lives10 W)
    unfold calV at *
    clear hz hS hR B1 hlt hl
    go_enter Try.func12, Try.ntmps12
    go_wp2_with fail
    refine hli.mono ?_
    rintro e w3 ⟨rfl, hb3⟩
    have HB3 := Lib.hid (HB1.out.trans (hb3.mono HB1.out.size))
    have hlv := hl2.out w3 trivial
    clear hli hb3 c0 c1 c2
    go_wp2_with fail
    refine hlv.mono ?_
    rintro e wl ⟨rfl, hbl⟩
    have HBL := Lib.hid (HB3.out.trans (hbl.mono HB3.out.size))
    clear hlv hbl
    go_wp2_with fail
    go_ret
    exact ⟨rfl, HBL.out⟩

set_option maxRecDepth 100000 in
set_option maxHeartbeats 16000000 in
theorem cadds_ok (off : Int) (a : Option Addr) (n ca : Nat) (b : Option Addr) (m cb : Nat) (F T G U : Nat → Int) (s p r t : Int) (w : World) (hS : Sps w a n F T) (hR : Sps w b m G U)
    (hl : n ≤ 60 ∧ m ≤ 60) (hz : checkE off F T n G U m = 0) (p0 : 0 ≤ p) (r0 : 0 ≤ r) (p1 : p ≤ 4503599627370496) (r1 : r ≤ 4503599627370496) :
    Calls Try.prog 12 #[calV off a n ca b m cb, .int .i64 s, .int .i64 p, .int .i64 r, .int .i64 t] w fun e w' => e = .returned (.bool true) ∧ Below w.heap.size w w' := by
  have B1 : Below w.heap.size w (w.alloc (.cells #[.int .i64 off, .slice a n ca, .slice b m cb] 53)) := (Below.refl _ _).alloc (Nat.le_refl _) _
  have c0 : (w.alloc (.cells #[.int .i64 off, .slice a n ca, .slice b m cb] 53)).cell? ⟨w.heap.size, 0, none⟩ = some (.int .i64 off) := by simp
  have c1 : (w.alloc (.cells #[.int .i64 off, .slice a n ca, .slice b m cb] 53)).cell? ⟨w.heap.size, 1, none⟩ = some (.slice a n ca) := by simp
  have c2 : (w.alloc (.cells #[.int .i64 off, .slice a n ca, .slice b m cb] 53)).cell? ⟨w.heap.size, 2, none⟩ = some (.slice b m cb) := by simp
  have hlt : w.heap.size < (w.alloc (.cells #[.int .i64 off, .slice a n ca, .slice b m cb] 53)).heap.size := by simp
  have HB1 := Lib.hid B1
  have hli := light10 off a n ca b m cb (w.alloc (.cells #[.int .i64 off, .slice a n ca, .slice b m cb] 53)) hS.1 hR.1
  rw [decide_eq_true hl] at hli
  have hd := checkE_ok hz
  have HCK := Lib.hid (fun W (hb : Below w.heap.size w W) => And.intro (rcheck10 off a n ca F T b m cb G U W (hS.kept hb) (hR.kept hb)) (clock_in off a n ca b m cb F T G U W (hS.kept hb) (hR.kept hb) hz))
  have hl2 := Lib.hid (fun W (_ : True) => lives10 W)
  rw [hz] at HCK
  obtain ⟨D, eD⟩ : ∃ D : Cal, (⟨F, T, n, G, U, m, off⟩ : Cal) = D := ⟨_, rfl⟩
  rw [eD] at HCK hd
  have HD := Lib.hid hd
  have HC := Lib.hid (And.intro c0 (And.intro c1 (And.intro c2 hlt)))
  have d1 : decide (p < 0) = false := decide_eq_false (by omega)
  have d2 : decide (r < 0) = false := decide_eq_false (by omega)
  have d3 : decide (4503599627370496 < p) = false := decide_eq_false (by omega)
  have d4 : decide (4503599627370496 < r) = false := decide_eq_false (by omega)
  unfold calV at *
  clear hz hS hR B1 hlt hl eD hd
  go_enter Try.func12, Try.ntmps12
  go_wp2_with fail
  refine hli.mono ?_
  rintro e w2 ⟨rfl, hb2⟩
  have HB2 := Lib.hid (HB1.out.trans (hb2.mono HB1.out.size))
  have c0' := (hb2.cell (p := ⟨w.heap.size, 0, none⟩) HC.out.2.2.2).trans HC.out.1
  have c1' := (hb2.cell (p := ⟨w.heap.size, 1, none⟩) HC.out.2.2.2).trans HC.out.2.1
  have c2' := (hb2.cell (p := ⟨w.heap.size, 2, none⟩) HC.out.2.2.2).trans HC.out.2.2.1
  have HC2 := Lib.hid (And.intro c0' (And.intro c1' (And.intro c2' (Nat.lt_of_lt_of_le HC.out.2.2.2 hb2.size))))
  have hck := (HCK.out w2 HB2.out).1
  clear hli hb2 c0 c1 c2
  go_wp2_with fail
  refine hck.mono ?_
  rintro e w3 ⟨rfl, hb3⟩
  have HB3 := Lib.hid (HB2.out.trans (hb3.mono HB2.out.size))
  have c0 := (hb3.cell (p := ⟨w.heap.size, 0, none⟩) HC2.out.2.2.2).trans HC2.out.1
  have c1 := (hb3.cell (p := ⟨w.heap.size, 1, none⟩) HC2.out.2.2.2).trans HC2.out.2.1
  have c2 := (hb3.cell (p := ⟨w.heap.size, 2, none⟩) HC2.out.2.2.2).trans HC2.out.2.2.1
  have hnw := (HCK.out w3 HB3.out).2
  clear hck hb3 c0' c1' c2'
  go_wp2_with fail
  refine hnw.mono ?_
  rintro e w4 ⟨L, rfl, hC, hle, hb4⟩
  have HB4 := Lib.hid (HB3.out.trans (hb4.mono HB3.out.size))
  have HL := Lib.hid (Nat.le_trans HB3.out.size hle)
  have hdu := due_any hC HD.out s (p + r) (by omega)
  have e1 : IntKind.i64.wrap (p + r) = p + r := IntWalk.i64_in _ (by omega)
  clear hnw hC hle hb4 c0 c1 c2
  go_wp2_with fail
  refine hdu.mono ?_
  rintro e w5 ⟨all, f, rfl, hx, hC, ho⟩
  have HB5 := Lib.hid (HB4.out.trans (ho.toBelow HB4.out.size (fun k hk => hk ▸ HL.out)))
  have HCC := Lib.hid hC
  clear hdu hC ho
  obtain ⟨bf, ef⟩ : ∃ c, (f != 0) = c := ⟨_, rfl⟩
  cases bf
  case true =>
    have hlv := hl2.out w5 trivial
    clear hx
    go_wp2_with fail
    refine hlv.mono ?_
    rintro e wl ⟨rfl, hbl⟩
    have HBL := Lib.hid (HB5.out.trans (hbl.mono HB5.out.size))
    clear hlv hbl
    go_wp2_with fail
    go_ret
    exact ⟨rfl, HBL.out⟩
  case false =>
    obtain rfl : f = 0 := by simpa using ef
    clear ef
    have hdu := due_any HCC.out HD.out s p (by omega)
    go_wp2_with fail
    refine hdu.mono ?_
    rintro e w6 ⟨mid, g, rfl, hm, hC, ho⟩
    have HB6 := Lib.hid (HB5.out.trans (ho.toBelow HB5.out.size (fun k hk => hk ▸ HL.out)))
    have hdu2 := due_any hC HD.out mid r (by omega)
    clear hdu hC ho
    go_wp2_with fail
    refine hdu2.mono ?_
    rintro e w7 ⟨e, h, rfl, he, hC, ho⟩
    have HB7 := Lib.hid (HB6.out.trans (ho.toBelow HB6.out.size (fun k hk => hk ▸ HL.out)))
    have HC7 := Lib.hid hC
    clear hdu2 hC ho
    obtain ⟨rfl, rfl, q1, q2, q3, q4⟩ := Cal.adds hx hm he p0 r0 rfl
    have HQ := Lib.hid q4
    have dq : decide (all < mid) = false := decide_eq_false (by omega)
    obtain ⟨b5, d5⟩ : ∃ c, decide (t < s) = c := ⟨_, rfl⟩
    obtain ⟨b6, d6⟩ : ∃ c, decide (all ≤ t) = c := ⟨_, rfl⟩
    clear hx hm he q4
    have hrr : (decide (0 < r) = true ∧ (r == 0) = false ∧ (e != all) = false) ∨ (decide (0 < r) = false ∧ (r == 0) = true ∧ (e != mid) = false) := by
      by_cases hr : r = 0
      · refine .inr ⟨decide_eq_false (by omega), by simpa using hr, by simpa using q2 hr⟩
      · refine .inl ⟨decide_eq_true (by omega), by simpa using hr, by simpa using q1 (by omega)⟩
    clear q1 q2 q3
    rcases hrr with ⟨u1, u2, u3⟩ | ⟨u1, u2, u3⟩
    all_goals
      cases b5
      · cases b6
        · have t1 : s ≤ t := by
            have := of_decide_eq_false d5
            omega
          have t2 : t < all := by
            have := of_decide_eq_false d6
            omega
          obtain ⟨s0, aH, l0, l1⟩ := HQ.out t t1 t2
          have hre := rest_ok HC7.out HD.out s (p + r) t s0 t1 (by omega) (by omega) (by omega)
          rw [show max 0 (p + r - (D.g t - D.g s)) = p + r - (D.g t - D.g s) by omega] at hre
          obtain ⟨left, el⟩ : ∃ l, p + r - (D.g t - D.g s) = l := ⟨_, rfl⟩
          have hgm := D.g_mono s0 t1
          have ll : left ≤ 9223372036854775807 := by omega
          rw [el] at hre l0 l1
          have d7 : decide (0 < left) = true := decide_eq_true l0
          have HLL := Lib.hid (And.intro ll l1)
          clear el ll l1 hgm
          go_wp2_with fail
          refine hre.mono ?_
          rintro e8 w8 ⟨rfl, hC, ho⟩
          have HB8 := Lib.hid (HB7.out.trans (ho.toBelow HB7.out.size (fun k hk => hk ▸ HL.out)))
          have hdu := due_any hC HD.out t left HLL.out.1
          clear hre hC ho
          go_wp2_with fail
          refine hdu.mono ?_
          rintro e9 w9 ⟨v, k, rfl, hv, hC, ho⟩
          have HB9 := Lib.hid (HB8.out.trans (ho.toBelow HB8.out.size (fun k hk => hk ▸ HL.out)))
          obtain ⟨rfl, rfl⟩ := HLL.out.2 v k hv
          have hlv := hl2.out w9 trivial
          clear hdu hv hC ho
          go_wp2_with fail
          refine hlv.mono ?_
          rintro e wl ⟨rfl, hbl⟩
          have HBL := Lib.hid (HB9.out.trans (hbl.mono HB9.out.size))
          clear hlv hbl
          go_wp2_with fail
          go_ret
          exact ⟨rfl, HBL.out⟩
        · have hlv := hl2.out w7 trivial
          go_wp2_with fail
          refine hlv.mono ?_
          rintro e wl ⟨rfl, hbl⟩
          have HBL := Lib.hid (HB7.out.trans (hbl.mono HB7.out.size))
          clear hlv hbl
          go_wp2_with fail
          go_ret
          exact ⟨rfl, HBL.out⟩
      · have hlv := hl2.out w7 trivial
        go_wp2_with fail
        refine hlv.mono ?_
        rintro e wl ⟨rfl, hbl⟩
        have HBL := Lib.hid (HB7.out.trans (hbl.mono HB7.out.size))
        clear hlv hbl
        go_wp2_with fail
        go_ret
        exact ⟨rfl, HBL.out⟩
end Go.Proofs.Ytfeegohjgecjgaa

/- CalendarSeconds. -/
import Derived.Test.YtfeegohjgecjgaaCaI
namespace Go.Proofs.Ytfeegohjgecjgaa
open Go.RowKit
set_option maxRecDepth 100000 in
set_option maxHeartbeats 16000000 in
theorem cseconds_skip (off : Int) (a : Option Addr) (n ca : Nat) (b : Option Addr) (m cb : Nat) (F T G U : Nat → Int) (s l : Int) (w : World) (hS : Sps w a n F T) (hR : Sps w b m G U)
    (hz : ¬ (n ≤ 60 ∧ m ≤ 60) ∨ checkE off F T n G U m ≠ 0 ∨ s < 0 ∨ 1125899906842368 < s) :
    Calls Try.prog 9 #[calV off a n ca b m cb, .int .i64 s, .int .u8 l] w fun e w' => e = .returned (.bool true) ∧ Below w.heap.size w w' := by
  have B1 : Below w.heap.size w (w.alloc (.cells #[.int .i64 off, .slice a n ca, .slice b m cb] 53)) := (Below.refl _ _).alloc (Nat.le_refl _) _
  have c0 : (w.alloc (.cells #[.int .i64 off, .slice a n ca, .slice b m cb] 53)).cell? ⟨w.heap.size, 0, none⟩ = some (.int .i64 off) := by simp
  have c1 : (w.alloc (.cells #[.int .i64 off, .slice a n ca, .slice b m cb] 53)).cell? ⟨w.heap.size, 1, none⟩ = some (.slice a n ca) := by simp
  have c2 : (w.alloc (.cells #[.int .i64 off, .slice a n ca, .slice b m cb] 53)).cell? ⟨w.heap.size, 2, none⟩ = some (.slice b m cb) := by simp
  have hlt : w.heap.size < (w.alloc (.cells #[.int .i64 off, .slice a n ca, .slice b m cb] 53)).heap.size := by simp
  have HB1 := Lib.hid B1
  have hli := light10 off a n ca b m cb (w.alloc (.cells #[.int .i64 off, .slice a n ca, .slice b m cb] 53)) hS.1 hR.1
  by_cases hl : n ≤ 60 ∧ m ≤ 60
  · rw [decide_eq_true hl] at hli
    have HCK := Lib.hid (fun W (hb : Below w.heap.size w W) => rcheck10 off a n ca F T b m cb G U W (hS.kept hb) (hR.kept hb))
    have HC := Lib.hid (And.intro c0 (And.intro c1 (And.intro c2 hlt)))
    obtain ⟨z0, ez⟩ : ∃ z, checkE off F T n G U m = z := ⟨_, rfl⟩
    obtain ⟨b0, d0⟩ : ∃ c, (z0 != 0) = c := ⟨_, rfl⟩
    obtain ⟨b1, d1⟩ : ∃ c, decide (s < 0) = c := ⟨_, rfl⟩
    obtain ⟨b2, d2⟩ : ∃ c, decide (1125899906842368 < s) = c := ⟨_, rfl⟩
    have hor : b0 = true ∨ b1 = true ∨ b2 = true := by
      rcases hz with h | h | h | h
      · exact absurd hl h
      · exact .inl (d0 ▸ by rw [← ez]; simpa using h)
      · exact .inr (.inl (d1 ▸ decide_eq_true h))
      · exact .inr (.inr (d2 ▸ decide_eq_true h))
    rw [ez] at HCK
    unfold calV at *
    clear hz hS hR B1 hlt hl ez
    go_enter Try.func9, Try.ntmps9
    go_wp2_with fail
    refine hli.mono ?_
    rintro e w2 ⟨rfl, hb2⟩
    have HB2 := Lib.hid (HB1.out.trans (hb2.mono HB1.out.size))
    have c0' := (hb2.cell (p := ⟨w.heap.size, 0, none⟩) HC.out.2.2.2).trans HC.out.1
    have c1' := (hb2.cell (p := ⟨w.heap.size, 1, none⟩) HC.out.2.2.2).trans HC.out.2.1
    have c2' := (hb2.cell (p := ⟨w.heap.size, 2, none⟩) HC.out.2.2.2).trans HC.out.2.2.1
    have hck := HCK.out w2 HB2.out
    have hl2 := Lib.hid (fun W (_ : True) => lives10 W)
    clear hli hb2 c0 c1 c2
    cases b0
    case true =>
      clear hor
      go_wp2_with fail
      refine hck.mono ?_
      rintro e w3 ⟨rfl, hb3⟩
      have HB3 := Lib.hid (HB2.out.trans (hb3.mono HB2.out.size))
      have hlv := hl2.out w3 trivial
      clear hck hb3 c0' c1' c2'
      go_wp2_with fail
      refine hlv.mono ?_
      rintro e wl ⟨rfl, hbl⟩
      have HBL := Lib.hid (HB3.out.trans (hbl.mono HB3.out.size))
      clear hlv hbl
      go_wp2_with fail
      go_ret
      exact ⟨rfl, HBL.out⟩
    replace hor := hor.resolve_left (by decide)
    cases b1
    case true =>
      clear hor
      go_wp2_with fail
      refine hck.mono ?_
      rintro e w3 ⟨rfl, hb3⟩
      have HB3 := Lib.hid (HB2.out.trans (hb3.mono HB2.out.size))
      have hlv := hl2.out w3 trivial
      clear hck hb3 c0' c1' c2'
      go_wp2_with fail
      refine hlv.mono ?_
      rintro e wl ⟨rfl, hbl⟩
      have HBL := Lib.hid (HB3.out.trans (hbl.mono HB3.out.size))
      clear hlv hbl
      go_wp2_with fail
      go_ret
      exact ⟨rfl, HBL.out⟩
    replace hor := hor.resolve_left (by decide)
    subst hor
    go_wp2_with fail
    refine hck.mono ?_
    rintro e w3 ⟨rfl, hb3⟩
    have HB3 := Lib.hid (HB2.out.trans (hb3.mono HB2.out.size))
    have hlv := hl2.out w3 trivial
    clear hck hb3 c0' c1' c2'
    go_wp2_with fail
    refine hlv.mono ?_
    rintro e wl ⟨rfl, hbl⟩
    have HBL := Lib.hid (HB3.out.trans (hbl.mono HB3.out.size))
    clear hlv hbl
    go_wp2_with fail
    go_ret
    exact ⟨rfl, HBL.out⟩
  · rw [decide_eq_false hl] at hli
    have hl2 := Lib.hid (fun W (_ : True) => lives10 W)
    unfold calV at *
    clear hz hS hR B1 hlt hl
    go_enter Try.func9, Try.ntmps9
    go_wp2_with fail
    refine hli.mono ?_
    rintro e w3 ⟨rfl, hb3⟩
    have HB3 := Lib.hid (HB1.out.trans (hb3.mono HB1.out.size))
    have hlv := hl2.out w3 trivial
    clear hli hb3 c0 c1 c2
    go_wp2_with fail
    refine hlv.mono ?_
    rintro e wl ⟨rfl, hbl⟩
    have HBL := Lib.hid (HB3.out.trans (hbl.mono HB3.out.size))
    clear hlv hbl
    go_wp2_with fail
    go_ret
    exact ⟨rfl, HBL.out⟩

set_option maxRecDepth 100000 in
set_option maxHeartbeats 16000000 in
theorem cseconds_ok (off : Int) (a : Option Addr) (n ca : Nat) (b : Option Addr) (m cb : Nat) (F T G U : Nat → Int) (s l : Int) (w : World) (hS : Sps w a n F T) (hR : Sps w b m G U)
    (hl : n ≤ 60 ∧ m ≤ 60) (hz : checkE off F T n G U m = 0) (s0 : 0 ≤ s) (s1 : s ≤ 1125899906842368) (N : Nat) (hl0 : l = N) (hN : N ≤ 255) :
    Calls Try.prog 9 #[calV off a n ca b m cb, .int .i64 s, .int .u8 l] w fun e w' => e = .returned (.bool true) ∧ Below w.heap.size w w' := by
  have B1 : Below w.heap.size w (w.alloc (.cells #[.int .i64 off, .slice a n ca, .slice b m cb] 53)) := (Below.refl _ _).alloc (Nat.le_refl _) _
  have c0 : (w.alloc (.cells #[.int .i64 off, .slice a n ca, .slice b m cb] 53)).cell? ⟨w.heap.size, 0, none⟩ = some (.int .i64 off) := by simp
  have c1 : (w.alloc (.cells #[.int .i64 off, .slice a n ca, .slice b m cb] 53)).cell? ⟨w.heap.size, 1, none⟩ = some (.slice a n ca) := by simp
  have c2 : (w.alloc (.cells #[.int .i64 off, .slice a n ca, .slice b m cb] 53)).cell? ⟨w.heap.size, 2, none⟩ = some (.slice b m cb) := by simp
  have hlt : w.heap.size < (w.alloc (.cells #[.int .i64 off, .slice a n ca, .slice b m cb] 53)).heap.size := by simp
  have HB1 := Lib.hid B1
  have hli := light10 off a n ca b m cb (w.alloc (.cells #[.int .i64 off, .slice a n ca, .slice b m cb] 53)) hS.1 hR.1
  rw [decide_eq_true hl] at hli
  have hd := checkE_ok hz
  have HCK := Lib.hid (fun W (hb : Below w.heap.size w W) => And.intro (rcheck10 off a n ca F T b m cb G U W (hS.kept hb) (hR.kept hb)) (clock_in off a n ca b m cb F T G U W (hS.kept hb) (hR.kept hb) hz))
  have hl2 := Lib.hid (fun W (_ : True) => lives10 W)
  rw [hz] at HCK
  obtain ⟨D, eD⟩ : ∃ D : Cal, (⟨F, T, n, G, U, m, off⟩ : Cal) = D := ⟨_, rfl⟩
  rw [eD] at HCK hd
  have HD := Lib.hid hd
  have HC := Lib.hid (And.intro c0 (And.intro c1 (And.intro c2 hlt)))
  have d1 : decide (s < 0) = false := decide_eq_false (by omega)
  have d2 : decide (1125899906842368 < s) = false := decide_eq_false (by omega)
  unfold calV at *
  clear hz hS hR B1 hlt hl eD hd
  go_enter Try.func9, Try.ntmps9
  go_wp2_with fail
  refine hli.mono ?_
  rintro e w2 ⟨rfl, hb2⟩
  have HB2 := Lib.hid (HB1.out.trans (hb2.mono HB1.out.size))
  have c0' := (hb2.cell (p := ⟨w.heap.size, 0, none⟩) HC.out.2.2.2).trans HC.out.1
  have c1' := (hb2.cell (p := ⟨w.heap.size, 1, none⟩) HC.out.2.2.2).trans HC.out.2.1
  have c2' := (hb2.cell (p := ⟨w.heap.size, 2, none⟩) HC.out.2.2.2).trans HC.out.2.2.1
  have HC2 := Lib.hid (And.intro c0' (And.intro c1' (And.intro c2' (Nat.lt_of_lt_of_le HC.out.2.2.2 hb2.size))))
  have hck := (HCK.out w2 HB2.out).1
  clear hli hb2 c0 c1 c2
  go_wp2_with fail
  refine hck.mono ?_
  rintro e w3 ⟨rfl, hb3⟩
  have HB3 := Lib.hid (HB2.out.trans (hb3.mono HB2.out.size))
  have c0 := (hb3.cell (p := ⟨w.heap.size, 0, none⟩) HC2.out.2.2.2).trans HC2.out.1
  have c1 := (hb3.cell (p := ⟨w.heap.size, 1, none⟩) HC2.out.2.2.2).trans HC2.out.2.1
  have c2 := (hb3.cell (p := ⟨w.heap.size, 2, none⟩) HC2.out.2.2.2).trans HC2.out.2.2.1
  have hnw := (HCK.out w3 HB3.out).2
  clear hck hb3 c0' c1' c2'
  go_wp2_with fail
  refine hnw.mono ?_
  rintro e w4 ⟨L, rfl, hC, hle, hb4⟩
  have HB4 := Lib.hid (HB3.out.trans (hb4.mono HB3.out.size))
  have HL := Lib.hid (Nat.le_trans HB3.out.size hle)
  have HCC := Lib.hid hC
  subst hl0
  have ew : IntKind.i64.wrap (N : Int) = N := IntWalk.i64_in _ (by omega)
  have es : IntKind.i64.wrap (s + N) = s + N := IntWalk.i64_in _ (by omega)
  clear hnw hC hle hb4 c0 c1 c2
  go_wp2_with fail
  go_loopw [9, 39] (fun c i wr => ∃ k : Nat, k ≤ N ∧ i = .int .i64 k ∧ c = .int .i64 (D.g (s + k) - D.g s) ∧ Ck L D wr ∧ Below w.heap.size w wr) (fun _ i _ => N - (intOf i).toNat)
  case atStart => exact ⟨0, Nat.zero_le _, rfl, ret_i64 (by rw [show s + ((0 : Nat) : Int) = s by omega]; omega), HCC.out, HB4.out⟩
  case round =>
    obtain ⟨k, hk, rfl, rfl, hC, hB⟩ := hrel
    have HC := Lib.hid hC
    have HB := Lib.hid hB
    have g1 := D.g_mono (a := s) (b := s + k) s0 (by omega)
    have g2 := D.g_lip (a := s) (b := s + k) s0 (by omega)
    obtain ⟨c, hc⟩ : ∃ c, D.g (s + k) - D.g s = c := ⟨_, rfl⟩
    by_cases hlt : k < N
    · have e1 : IntKind.i64.wrap (s + k) = s + k := IntWalk.i64_in _ (by omega)
      have e2 : IntKind.i64.wrap (c + 1) = c + 1 := IntWalk.i64_in _ (by omega)
      have qd : decide ((k : Int) < (N : Int)) = true := decide_eq_true (by omega)
      have hst := D.g_step (s + k) (by omega)
      have hop := copen_any hC HD.out (s + k)
      have eo : D.openA (s + k) = D.opB (s + k) := by
        unfold Cal.openA
        rw [decide_eq_true (by omega : 0 ≤ s + (k : Int)), decide_eq_true (by omega : s + (k : Int) < 1125899906842624)]
        rfl
      rw [eo] at hop
      obtain ⟨b, hb⟩ : ∃ b, D.opB (s + k) = b := ⟨_, rfl⟩
      rw [hb] at hop hst
      have c0 : 0 ≤ c := by omega
      have c1 : c ≤ 255 := by omega
      rw [hc]
      cases b
      · have HG := Lib.hid (show c = D.g (s + ((k + 1 : Nat) : Int)) - D.g s by
          rw [show s + ((k + 1 : Nat) : Int) = s + k + 1 by omega, hst]
          simp only [Bool.false_eq_true, if_false]
          omega)
        clear hst g1 g2 hc hC hB eo hb
        go_wp2_with fail
        refine hop.mono ?_
        rintro e w5 ⟨rfl, hC, ho⟩
        have HB5 := Lib.hid (HB.out.trans (ho.toBelow HB.out.size (fun k hk => hk ▸ HL.out)))
        have HC5 := Lib.hid hC
        clear hop hC ho
        go_wp2_with fail
        go_roundw
        case rel => exact ⟨k + 1, hlt, by go_num, ret_i64 HG.out, HC5.out, HB5.out⟩
        case measure => simp [intOf]; omega
      · have HG := Lib.hid (show c + 1 = D.g (s + ((k + 1 : Nat) : Int)) - D.g s by
          rw [show s + ((k + 1 : Nat) : Int) = s + k + 1 by omega, hst]
          simp only [if_true]
          omega)
        clear hst g1 g2 hc hC hB eo hb
        go_wp2_with fail
        refine hop.mono ?_
        rintro e w5 ⟨rfl, hC, ho⟩
        have HB5 := Lib.hid (HB.out.trans (ho.toBelow HB.out.size (fun k hk => hk ▸ HL.out)))
        have HC5 := Lib.hid hC
        clear hop hC ho
        go_wp2_with fail
        go_roundw
        case rel => exact ⟨k + 1, hlt, by go_num, ret_i64 HG.out, HC5.out, HB5.out⟩
        case measure => simp [intOf]; omega
    · obtain rfl : k = N := by omega
      have hel := elapsed_ok hC HD.out s (s + k) s0 (by omega) (by omega)
      have qd : decide ((k : Int) < (k : Int)) = false := decide_eq_false (by omega)
      rw [hc] at hel ⊢
      clear g1 g2 hC hB hc
      go_wp2_with fail
      refine hel.mono ?_
      rintro e w5 ⟨rfl, hC, ho⟩
      have HB5 := Lib.hid (HB.out.trans (ho.toBelow HB.out.size (fun k hk => hk ▸ HL.out)))
      have hlv := hl2.out w5 trivial
      clear hel hC ho
      go_wp2_with fail
      refine hlv.mono ?_
      rintro e wl ⟨rfl, hbl⟩
      have HBL := Lib.hid (HB5.out.trans (hbl.mono HB5.out.size))
      clear hlv hbl
      go_wp2_with fail
      go_ret
      exact ⟨rfl, HBL.out⟩
end Go.Proofs.Ytfeegohjgecjgaa

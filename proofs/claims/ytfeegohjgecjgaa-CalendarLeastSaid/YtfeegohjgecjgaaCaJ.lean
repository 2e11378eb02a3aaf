/- CalendarLeast. -/
import Derived.Test.YtfeegohjgecjgaaCaI
namespace Go.Proofs.Ytfeegohjgecjgaa
open Go.RowKit

set_option maxRecDepth 100000 in
set_option maxHeartbeats 8000000 in
theorem cleast_skip (off : Int) (a : Option Addr) (n ca : Nat) (b : Option Addr) (m cb : Nat) (F T G U : Nat → Int) (s y : Int) (w : World) (hS : Sps w a n F T) (hR : Sps w b m G U)
    (hz : ¬ (n ≤ 60 ∧ m ≤ 60) ∨ checkE off F T n G U m ≠ 0 ∨ s < 0 ∨ 1125899906842624 < s ∨ y < 1) :
    Calls Try.prog 10 #[calV off a n ca b m cb, .int .i64 s, .int .i64 y] w fun e w' => e = .returned (.bool true) ∧ Below w.heap.size w w' := by
  have B1 : Below w.heap.size w (w.alloc (.cells #[.int .i64 off, .slice a n ca, .slice b m cb] 53)) := (Below.refl _ _).alloc (Nat.le_refl _) _
  have c0 : (w.alloc (.cells #[.int .i64 off, .slice a n ca, .slice b m cb] 53)).cell? ⟨w.heap.size, 0, none⟩ = some (.int .i64 off) := by simp
  have c1 : (w.alloc (.cells #[.int .i64 off, .slice a n ca, .slice b m cb] 53)).cell? ⟨w.heap.size, 1, none⟩ = some (.slice a n ca) := by simp
  have c2 : (w.alloc (.cells #[.int .i64 off, .slice a n ca, .slice b m cb] 53)).cell? ⟨w.heap.size, 2, none⟩ = some (.slice b m cb) := by simp
  have hlt : w.heap.size < (w.alloc (.cells #[.int .i64 off, .slice a n ca, .slice b m cb] 53)).heap.size := by simp
  have HB1 := Lib.hid B1
  have hli := light10 off a n ca b m cb (w.alloc (.cells #[.int .i64 off, .slice a n ca, .slice b m cb] 53)) hS.1 hR.1
  by_cases hl : n ≤ 60 ∧ m ≤ 60
  · rw [decide_eq_true hl] at hli
    have HCK := Lib.hid (fun W (hb : Below w.heap.size w W) => rcheck10 off a n ca F T b m cb G U W (hS.kept hb) (hR.kept hb))
    have HC := Lib.hid (And.intro c0 (And.intro c1 (And.intro c2 hlt)))
    obtain ⟨z, ez⟩ : ∃ z, checkE off F T n G U m = z := ⟨_, rfl⟩
    obtain ⟨b0, d0⟩ : ∃ c, (z != 0) = c := ⟨_, rfl⟩
    obtain ⟨b1, d1⟩ : ∃ c, decide (s < 0) = c := ⟨_, rfl⟩
    obtain ⟨b2, d2⟩ : ∃ c, decide (1125899906842624 < s) = c := ⟨_, rfl⟩
    obtain ⟨b3, d3⟩ : ∃ c, decide (y < 1) = c := ⟨_, rfl⟩
    have hor : b0 = true ∨ b1 = true ∨ b2 = true ∨ b3 = true := by
      rcases hz with h | h | h | h | h
      · exact absurd hl h
      · exact .inl (d0 ▸ by rw [← ez]; simpa using h)
      · exact .inr (.inl (d1 ▸ decide_eq_true h))
      · exact .inr (.inr (.inl (d2 ▸ decide_eq_true h)))
      · exact .inr (.inr (.inr (d3 ▸ decide_eq_true h)))
    rw [ez] at HCK
    unfold calV at *
    clear hz hS hR B1 hlt hl ez
    go_enter Try.func10, Try.ntmps10
    go_wp2_with fail
    refine hli.mono ?_
    rintro e w2 ⟨rfl, hb2⟩
    have HB2 := Lib.hid (HB1.out.trans (hb2.mono HB1.out.size))
    have c0' := (hb2.cell (p := ⟨w.heap.size, 0, none⟩) HC.out.2.2.2).trans HC.out.1
    have c1' := (hb2.cell (p := ⟨w.heap.size, 1, none⟩) HC.out.2.2.2).trans HC.out.2.1
    have c2' := (hb2.cell (p := ⟨w.heap.size, 2, none⟩) HC.out.2.2.2).trans HC.out.2.2.1
    have hck := HCK.out w2 HB2.out
    have ho : b0 = true ∨ (b0 = false ∧ b1 = true) ∨ (b0 = false ∧ b1 = false ∧ b2 = true) ∨ (b0 = false ∧ b1 = false ∧ b2 = false ∧ b3 = true) := by
      cases b0 <;> cases b1 <;> cases b2 <;> simp_all
    have hl2 := Lib.hid (fun W (_ : True) => lives10 W)
    clear hli hb2 c0 c1 c2 hor
    rcases ho with rfl | ⟨rfl, rfl⟩ | ⟨rfl, rfl, rfl⟩ | ⟨rfl, rfl, rfl, rfl⟩
    all_goals
      go_wp2_with fail
      refine hck.mono ?_
      rintro e w3 ⟨rfl, hb3⟩
      have HB3 := Lib.hid (HB2.out.trans (hb3.mono HB2.out.size))
      have hlv := hl2.out w3 trivial
      clear hck hb3 c0' c1' c2'
      go_wp2_with fail
      refine hlv.mono ?_
      rintro e w4 ⟨rfl, hb4⟩
      have HB4 := Lib.hid (HB3.out.trans (hb4.mono HB3.out.size))
      clear hlv hb4
      go_wp2_with fail
      go_ret
      exact ⟨rfl, HB4.out⟩
  · rw [decide_eq_false hl] at hli
    have hl2 := Lib.hid (fun W (_ : True) => lives10 W)
    unfold calV at *
    clear hz hS hR B1 hlt hl
    go_enter Try.func10, Try.ntmps10
    go_wp2_with fail
    refine hli.mono ?_
    rintro e w3 ⟨rfl, hb3⟩
    have HB3 := Lib.hid (HB1.out.trans (hb3.mono HB1.out.size))
    have hlv := hl2.out w3 trivial
    clear hli hb3 c0 c1 c2
    go_wp2_with fail
    refine hlv.mono ?_
    rintro e w4 ⟨rfl, hb4⟩
    have HB4 := Lib.hid (HB3.out.trans (hb4.mono HB3.out.size))
    clear hlv hb4
    go_wp2_with fail
    go_ret
    exact ⟨rfl, HB4.out⟩
end Go.Proofs.Ytfeegohjgecjgaa

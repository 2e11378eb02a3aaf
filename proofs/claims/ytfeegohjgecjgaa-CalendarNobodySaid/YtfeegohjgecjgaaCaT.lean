/- CalendarNobody. -/
import Derived.Test.YtfeegohjgecjgaaCaZ
namespace Go.Proofs.Ytfeegohjgecjgaa
open Go.RowKit
set_option maxRecDepth 100000 in
set_option maxHeartbeats 8000000 in
theorem cnobody_ok (t x y : Int) (w : World) : Calls Try.prog 13 #[.int .i64 t, .int .i64 x, .int .i64 y] w fun e w' => e = .returned (.bool true) ∧ Below w.heap.size w w' := by
  have B2 : Below w.heap.size w ((w.alloc (.cells #[.pointer none, .pointer none, .int .i64 0] 75)).alloc (.cells #[.pointer none, .pointer (some ⟨w.heap.size, 0, none⟩)] 55)) := ((Below.refl _ _).alloc (Nat.le_refl _) _).alloc (by simp) _
  have c0 : ((w.alloc (.cells #[.pointer none, .pointer none, .int .i64 0] 75)).alloc (.cells #[.pointer none, .pointer (some ⟨w.heap.size, 0, none⟩)] 55)).cell? ⟨w.heap.size, 1, none⟩ = some (.pointer none) := by rw [World.cell?_alloc_past _ _ _ (by simp)]; simp
  have c1 : ((w.alloc (.cells #[.pointer none, .pointer none, .int .i64 0] 75)).alloc (.cells #[.pointer none, .pointer (some ⟨w.heap.size, 0, none⟩)] 55)).cell? ⟨w.heap.size + 1, 0, none⟩ = some (.pointer none) := by simp
  have c2 : ((w.alloc (.cells #[.pointer none, .pointer none, .int .i64 0] 75)).alloc (.cells #[.pointer none, .pointer (some ⟨w.heap.size, 0, none⟩)] 55)).cell? ⟨w.heap.size + 1, 1, none⟩ = some (.pointer (some ⟨w.heap.size, 0, none⟩)) := by simp
  have HB := Lib.hid B2
  have HC := Lib.hid (And.intro c0 (And.intro c1 c2))
  clear B2 c0 c1 c2
  go_enter Try.func13, Try.ntmps13
  go_wp2_with fail
  generalize ((w.alloc (.cells #[.pointer none, .pointer none, .int .i64 0] 75)).alloc (.cells #[.pointer none, .pointer (some ⟨w.heap.size, 0, none⟩)] 55)) = W at *
  go_loopw [23] (fun i wr => ∃ k : Nat, k ≤ 2 ∧ i = .int .i64 k ∧ Below W.heap.size W wr) (fun i _ => 2 - (intOf i).toNat)
  case atStart => exact ⟨0, by omega, rfl, Below.refl _ _⟩
  case round =>
    obtain ⟨k, hk, rfl, hB⟩ := hrel
    have HBW := Lib.hid hB
    have hcell0 := (hB.cell (p := ⟨w.heap.size + 1, 0, none⟩) (cell_spot HC.out.2.1).2).trans HC.out.2.1
    have hcell1 := (hB.cell (p := ⟨w.heap.size + 1, 1, none⟩) (cell_spot HC.out.2.2).2).trans HC.out.2.2
    rcases (by omega : k = 0 ∨ k = 1 ∨ k = 2) with rfl | rfl | rfl
    · have hN : Nob none x y t wr := (⟨fun W2 _ => ccreated_nil W2⟩)
      have HN := Lib.hid hN
      have h1 := hN.el
      have hcell := hcell0
      clear hN hB hcell0 hcell1
      go_wp2_with fail
      refine h1.mono ?_
      rintro e v1 ⟨rfl, b1⟩
      have B1 := Lib.hid b1
      have h2 := (HN.out.kept B1.out).du
      clear h1 b1 hcell
      go_wp2_with fail
      refine h2.mono ?_
      rintro e v2 ⟨rfl, b2⟩
      have B2 := Lib.hid (B1.out.trans (b2.mono B1.out.size))
      have h3 := (HN.out.kept B2.out).re
      clear h2 b2
      go_wp2_with fail
      refine h3.mono ?_
      rintro e v3 ⟨rfl, rfl⟩
      have h4 := (HN.out.kept B2.out).op
      clear h3
      go_wp2_with fail
      refine h4.mono ?_
      rintro e v4 ⟨rfl, b4⟩
      have B4 := Lib.hid (B2.out.trans (b4.mono B2.out.size))
      have h5 := (HN.out.kept B4.out).pl
      clear h4 b4
      go_wp2_with fail
      refine h5.mono ?_
      rintro e v5 ⟨rfl, b5⟩
      have B5 := Lib.hid (B4.out.trans (b5.mono B4.out.size))
      have h6 := rsame_none v5
      clear h5 b5
      go_wp2_with fail
      refine h6.mono ?_
      rintro e v6 ⟨rfl, b6⟩
      have B6 := Lib.hid (HBW.out.trans ((B5.out.trans (b6.mono B5.out.size)).mono HBW.out.size))
      clear h6 b6
      go_wp2_with fail
      go_roundw
      case rel => exact ⟨1, by omega, by go_num, B6.out⟩
      case measure => simp [intOf]
    · have hN : Nob (some ⟨w.heap.size, 0, none⟩) x y t wr := (⟨fun W2 hb => ccreated_no w.heap.size W2 (((hB.trans (hb.mono hB.size)).cell (p := ⟨w.heap.size, 1, none⟩) (cell_spot HC.out.1).2).trans HC.out.1)⟩)
      have HN := Lib.hid hN
      have h1 := hN.el
      have hcell := hcell1
      clear hN hB hcell0 hcell1
      go_wp2_with fail
      refine h1.mono ?_
      rintro e v1 ⟨rfl, b1⟩
      have B1 := Lib.hid b1
      have h2 := (HN.out.kept B1.out).du
      clear h1 b1 hcell
      go_wp2_with fail
      refine h2.mono ?_
      rintro e v2 ⟨rfl, b2⟩
      have B2 := Lib.hid (B1.out.trans (b2.mono B1.out.size))
      have h3 := (HN.out.kept B2.out).re
      clear h2 b2
      go_wp2_with fail
      refine h3.mono ?_
      rintro e v3 ⟨rfl, rfl⟩
      have h4 := (HN.out.kept B2.out).op
      clear h3
      go_wp2_with fail
      refine h4.mono ?_
      rintro e v4 ⟨rfl, b4⟩
      have B4 := Lib.hid (B2.out.trans (b4.mono B2.out.size))
      have h5 := (HN.out.kept B4.out).pl
      clear h4 b4
      go_wp2_with fail
      refine h5.mono ?_
      rintro e v5 ⟨rfl, b5⟩
      have B5 := Lib.hid (B4.out.trans (b5.mono B4.out.size))
      have h6 := rsame_none v5
      clear h5 b5
      go_wp2_with fail
      refine h6.mono ?_
      rintro e v6 ⟨rfl, b6⟩
      have B6 := Lib.hid (HBW.out.trans ((B5.out.trans (b6.mono B5.out.size)).mono HBW.out.size))
      clear h6 b6
      go_wp2_with fail
      go_roundw
      case rel => exact ⟨2, by omega, by go_num, B6.out⟩
      case measure => simp [intOf]
    · have hrd := read_nil wr
      clear hcell0 hcell1 hB
      go_wp2_with fail
      refine hrd.mono ?_
      rintro e v1 ⟨rfl, b1⟩
      have B1 := Lib.hid (HBW.out.trans (b1.mono HBW.out.size))
      clear hrd b1
      go_wp2_with fail
      have hlv := lives10 (v1.alloc (.cells #[.int .i64 0, .slice none 0 0, .slice none 0 0] 53))
      have BL := Lib.hid (HB.out.trans ((B1.out.mono HB.out.size).trans ((Below.refl _ _).alloc (Nat.le_trans HB.out.size B1.out.size) (.cells #[.int .i64 0, .slice none 0 0, .slice none 0 0] 53))))
      refine hlv.mono ?_
      rintro e v2 ⟨rfl, b2⟩
      have BE := Lib.hid (BL.out.trans (b2.mono BL.out.size))
      clear hlv b2
      go_wp2_with fail
      go_ret
      exact ⟨rfl, BE.out⟩
end Go.Proofs.Ytfeegohjgecjgaa

/- WeekNobody, walked. -/
import Derived.Test.YthlmeppahcjlgaaWkG
namespace Go.Proofs.Ythlmeppahcjlgaa
open Go.RowKit

set_option maxRecDepth 100000 in
set_option maxHeartbeats 8000000 in
theorem nobody_ok (t m : Int) (w : World) : Calls Try.prog 11 #[.int .i64 t, .int .i64 m] w fun e w' => e = .returned (.bool true) ∧ Below w.heap.size w w' := by
  have B2 : Below w.heap.size w ((w.alloc (.cells #[.slice none 0 0, .pointer none] 59)).alloc (.cells #[.pointer none, .pointer (some ⟨w.heap.size, 0, none⟩)] 45)) := ((Below.refl _ _).alloc (Nat.le_refl _) _).alloc (by simp) _
  have c0 : ((w.alloc (.cells #[.slice none 0 0, .pointer none] 59)).alloc (.cells #[.pointer none, .pointer (some ⟨w.heap.size, 0, none⟩)] 45)).cell? ⟨w.heap.size, 1, none⟩ = some (.pointer none) := by rw [World.cell?_alloc_past _ _ _ (by simp)]; simp
  have c1 : ((w.alloc (.cells #[.slice none 0 0, .pointer none] 59)).alloc (.cells #[.pointer none, .pointer (some ⟨w.heap.size, 0, none⟩)] 45)).cell? ⟨w.heap.size + 1, 0, none⟩ = some (.pointer none) := by simp
  have c2 : ((w.alloc (.cells #[.slice none 0 0, .pointer none] 59)).alloc (.cells #[.pointer none, .pointer (some ⟨w.heap.size, 0, none⟩)] 45)).cell? ⟨w.heap.size + 1, 1, none⟩ = some (.pointer (some ⟨w.heap.size, 0, none⟩)) := by simp
  have HB := Lib.hid B2
  clear B2
  go_enter Try.func11, Try.ntmps11
  go_wp2_with fail
  generalize ((w.alloc (.cells #[.slice none 0 0, .pointer none] 59)).alloc (.cells #[.pointer none, .pointer (some ⟨w.heap.size, 0, none⟩)] 45)) = W at *
  go_loopw [15] (fun i wr => ∃ k : Nat, k ≤ 2 ∧ i = .int .i64 k ∧ wr = W) (fun i _ => 2 - (intOf i).toNat)
  case atStart => exact ⟨0, Nat.zero_le _, rfl, rfl⟩
  case round =>
    obtain ⟨k, hk, rfl, rfl⟩ := hrel
    rcases (by omega : k = 0 ∨ k = 1 ∨ k = 2) with rfl | rfl | rfl
    · have h1 := nth_plan_nil m wr
      have h2 := total_nil wr
      have h3 := open_nil t wr
      have h4 := until_nil t wr
      have h5 := between_nil m t wr
      have h6 := row_nil wr
      go_wp2_with (first
        | (go_at_call 37; refine h1.mono ?_; rintro e w' ⟨rfl, rfl⟩)
        | (go_at_call 32; refine h2.mono ?_; rintro e w' ⟨rfl, rfl⟩)
        | (go_at_call 34; refine h3.mono ?_; rintro e w' ⟨rfl, rfl⟩)
        | (go_at_call 39; refine h4.mono ?_; rintro e w' ⟨rfl, rfl⟩)
        | (go_at_call 41; refine h5.mono ?_; rintro e w' ⟨rfl, rfl⟩)
        | (go_at_call 36; refine h6.mono ?_; rintro e w' ⟨rfl, rfl⟩))
      go_roundw
      case rel => exact ⟨1, by omega, by go_num, by first | rfl | trivial⟩
      case measure => simp [intOf]
    · have h1 := nth_plan_no w.heap.size m wr c0
      have h2 := total_no w.heap.size wr c0
      have h3 := open_no w.heap.size t wr c0
      have h4 := until_no w.heap.size t wr c0
      have h5 := between_no w.heap.size m t wr c0
      have h6 := row_no w.heap.size wr c0
      go_wp2_with (first
        | (go_at_call 37; refine h1.mono ?_; rintro e w' ⟨rfl, rfl⟩)
        | (go_at_call 32; refine h2.mono ?_; rintro e w' ⟨rfl, rfl⟩)
        | (go_at_call 34; refine h3.mono ?_; rintro e w' ⟨rfl, rfl⟩)
        | (go_at_call 39; refine h4.mono ?_; rintro e w' ⟨rfl, rfl⟩)
        | (go_at_call 41; refine h5.mono ?_; rintro e w' ⟨rfl, rfl⟩)
        | (go_at_call 36; refine h6.mono ?_; rintro e w' ⟨rfl, rfl⟩))
      go_roundw
      case rel => exact ⟨2, by omega, by go_num, by first | rfl | trivial⟩
      case measure => simp [intOf]
    · have hl := lives8 wr
      go_wp2_with fail
      refine hl.mono ?_
      rintro e w1 ⟨rfl, hb⟩
      go_wp2_with fail
      go_ret
      exact ⟨rfl, HB.out.trans (hb.mono HB.out.size)⟩
end Go.Proofs.Ythlmeppahcjlgaa

/- What is nil answers nothing; and the walk of LazyNobody. -/
import Derived.Test.YteehglaadofidaaLzE
namespace Go.Proofs.Yteehglaadofidaa
open Go.RowKit

theorem len_nil (w : World) : Calls Try.prog 30 #[.pointer none] w fun e w' => e = .returned (.int .i64 0) ∧ w = w' := by
  go_enter Try.func30, Try.ntmps30
  go_wp2
  go_ret
  exact ⟨rfl, rfl⟩
theorem tmade_nil (w : World) : Calls Try.prog 29 #[.pointer none] w fun e w' => e = .returned (.int .i64 0) ∧ w = w' := by
  go_enter Try.func29, Try.ntmps29
  go_wp2
  go_ret
  exact ⟨rfl, rfl⟩
theorem at_nil (i : Int) (w : World) : Calls Try.prog 28 #[.pointer none, .int .i64 i] w fun e w' => e = .returned (.tuple #[.int .i64 0, .bool false]) ∧ w = w' := by
  by_cases h : i < 0
  · have h1 : decide (i < 0) = true := by simp [h]
    go_enter Try.func28, Try.ntmps28
    go_wp2_with (go_at_call 30; refine (len_nil _).mono ?_; rintro e w' ⟨rfl, rfl⟩)
    go_ret2
    exact ⟨rfl, rfl⟩
  · have h1 : decide (i < 0) = false := by simp [h]
    have h2 : decide (0 ≤ i) = true := by simp; omega
    have h3 : decide (i ≥ 0) = true := by simp; omega
    go_enter Try.func28, Try.ntmps28
    go_wp2_with (go_at_call 30; refine (len_nil _).mono ?_; rintro e w' ⟨rfl, rfl⟩)
    go_ret2
    exact ⟨rfl, rfl⟩
theorem sget_nil (w : World) : Calls Try.prog 31 #[.pointer none] w fun e w' => e = .returned (.string ⟨#[]⟩) ∧ w = w' := by
  go_enter Try.func31, Try.ntmps31
  go_wp2
  go_ret
  exact ⟨rfl, rfl⟩
theorem smade_nil (w : World) : Calls Try.prog 32 #[.pointer none] w fun e w' => e = .returned (.bool false) ∧ w = w' := by
  go_enter Try.func32, Try.ntmps32
  go_wp2
  go_ret
  exact ⟨rfl, rfl⟩
theorem sasked_nil (w : World) : Calls Try.prog 33 #[.pointer none] w fun e w' => e = .returned (.int .i64 0) ∧ w = w' := by
  go_enter Try.func33, Try.ntmps33
  go_wp2
  go_ret
  exact ⟨rfl, rfl⟩

set_option maxRecDepth 100000 in
set_option maxHeartbeats 1600000 in
theorem lnobody_any (i : Int) (w : World) : Calls Try.prog 11 #[.int .i64 i] w fun e w' => e = .returned (.bool true) ∧ Below w.heap.size w w' := by
  go_enter Try.func11, Try.ntmps11
  go_wp2_with fail
  refine (new_nil _).mono ?_
  rintro e W1 ⟨rfl, hW1⟩
  have N0 : Cel (w.heap.size + 1) .nilFunc 0 0 0 0 W1 := by
    rw [← hW1]
    have := cel_new .nilFunc 82 (w.alloc (.cells #[.nilFunc, .int .u32 0, .int .i32 0, .int .u32 0, .int .i64 0, .int .u32 0, .int .i64 0] 82))
    simpa using this
  have C0 : Cel w.heap.size .nilFunc 0 0 0 0 W1 := by
    rw [← hW1]
    refine (cel_new .nilFunc 82 w).of_block ?_
    exact ((Below.refl (w.heap.size + 1) (w.alloc (.cells #[.nilFunc, .int .u32 0, .int .i32 0, .int .u32 0, .int .i64 0, .int .u32 0, .int .i64 0] 82))).alloc (by simp) _).block w.heap.size (Nat.lt_succ_self _)
  have O0 : Only (fun k => w.heap.size ≤ k) w W1 := by
    rw [← hW1]
    exact Only.below (((Below.refl w.heap.size w).alloc (Nat.le_refl _) _).alloc (by simp) _)
  clear hW1
  go_wp2_with fail
  refine (at_nil _ _).mono ?_
  rintro e w' ⟨rfl, rfl⟩
  go_wp2_with fail
  refine (sget_nil _).mono ?_
  rintro e w' ⟨rfl, rfl⟩
  go_wp2_with fail
  refine (smade_nil _).mono ?_
  rintro e w' ⟨rfl, rfl⟩
  go_wp2_with fail
  refine (sasked_nil _).mono ?_
  rintro e w' ⟨rfl, rfl⟩
  go_wp2_with fail
  refine (len_nil _).mono ?_
  rintro e w' ⟨rfl, rfl⟩
  go_wp2_with fail
  refine (tmade_nil _).mono ?_
  rintro e w' ⟨rfl, rfl⟩
  go_wp2_with fail
  refine (get_nil _ _ _ _ 1 _ (by simp [wrap64]) C0).mono ?_
  rintro e W2 ⟨rfl, C2, P2, _⟩
  have N2 := N0.of_block (P2.block _ (lt_of_cell N0.build) (by simp))
  have O2 := O0.trans (P2.more (Y := fun k => w.heap.size ≤ k) fun k hk => by omega)
  clear C0 N0 P2 O0
  go_wp2_with fail
  refine (made_any _ _ _ C2.made).mono ?_
  rintro e w' ⟨rfl, rfl⟩
  go_wp2_with fail
  refine (asked_any _ _ _ C2.asked).mono ?_
  rintro e w' ⟨rfl, rfl⟩
  go_wp2_with fail
  refine (get_nil _ _ _ _ 1 _ (by simp [wrap64]) N2).mono ?_
  rintro e W3 ⟨rfl, N3, P3, _⟩
  have O3 := O2.trans (P3.more (Y := fun k => w.heap.size ≤ k) fun k hk => by omega)
  go_wp2_with fail
  refine (made_any _ _ _ N3.made).mono ?_
  rintro e w' ⟨rfl, rfl⟩
  go_wp2_with fail
  refine (lives4 _).mono ?_
  rintro e W4 ⟨rfl, hb⟩
  go_wp2_with fail
  go_ret
  exact ⟨rfl, (O3.toBelow (Nat.le_refl _) fun k hk => hk).trans (hb.mono O3.size)⟩
end Go.Proofs.Yteehglaadofidaa

/- The functions that change hands a counter to, and change. -/
import Derived.Test.YtfakgemifbgafaaMtA
import Derived.RegionCalls
import Derived.StillTailTactics
import Derived.Deep.RegionHeld3
import Derived.Outline
namespace Go.Proofs.Ytfakgemifbgafaa
open Go.RowKit

/-- What the function of Add makes of a counter. -/
theorem add1_ok (p : Addr) (old x : Int) (w : World) (hp : w.cell? p = some (.int .u64 x)) (h0 : 0 ≤ old) (h1 : 0 ≤ x) (h : old + x ≤ TOP) :
    Calls Try.prog 65 #[.int .u64 old, .pointer (some p)] w fun e w' => e = .returned (.tuple #[.int .u64 (old + x), .int .i64 0]) ∧ w = w' := by
  have e1 : IntKind.u64.wrap (4611686018427387904 - old) = 4611686018427387904 - old := by unfold TOP at h; rw [IntKind.wrap_u64]; omega
  have e2 : IntKind.u64.wrap (old + x) = old + x := by unfold TOP at h; rw [IntKind.wrap_u64]; omega
  have e3 : decide (4611686018427387904 - old < x) = false := by unfold TOP at h; simp; omega
  clear h
  go_enter Try.func65, Try.ntmps65
  go_wp2
  go_ret2
  exact ⟨rfl, rfl⟩
theorem add1_no (p : Addr) (old x : Int) (w : World) (hp : w.cell? p = some (.int .u64 x)) (h0 : 0 ≤ old) (h0' : old ≤ TOP) (h : TOP < old + x) :
    Calls Try.prog 65 #[.int .u64 old, .pointer (some p)] w fun e w' => e = .returned (.tuple #[.int .u64 0, .int .i64 10]) ∧ w = w' := by
  have e1 : IntKind.u64.wrap (4611686018427387904 - old) = 4611686018427387904 - old := by unfold TOP at h0'; rw [IntKind.wrap_u64]; omega
  have e3 : decide (4611686018427387904 - old < x) = true := by unfold TOP at h; simp; omega
  clear h h0'
  go_enter Try.func65, Try.ntmps65
  go_wp2
  go_ret2
  exact ⟨rfl, rfl⟩
theorem once1_any (old : Int) (w : World) (h0 : 0 ≤ old) :
    Calls Try.prog 62 #[.int .u64 old] w fun e w' => e = .returned (.tuple #[.int .u64 (if old = 0 then 1 else old), .int .i64 0]) ∧ w = w' := by
  by_cases h : old = 0
  · subst h
    go_enter Try.func62, Try.ntmps62
    go_wp2
    go_ret2
    exact ⟨rfl, rfl⟩
  · rw [if_neg h]
    have h1 : decide (old < 1) = false := by simp; omega
    go_enter Try.func62, Try.ntmps62
    go_wp2
    go_ret2

    exact ⟨rfl, rfl⟩
theorem swap1_any (p : Addr) (old x r : Int) (w : World) (hp : w.cell? p = some (.int .u64 x)) (hw : ∀ w, Calls Try.prog 64 #[.int .u64 x] w fun e w' => e = .returned (.int .i64 r) ∧ w = w') :
    Calls Try.prog 63 #[.int .u64 old, .pointer (some p)] w fun e w' => e = .returned (.tuple #[.int .u64 x, .int .i64 r]) ∧ ∃ n, w' = w.drewN n := by
  go_enter Try.func63, Try.ntmps63
  go_wp2
  go_quiet ((go_at_call 64; exact Calls.quiet_of_same ((hw _).mono fun e w' h => ⟨h.1, h.2.symm⟩)))
  go_wp2
  go_ret2
  exact ⟨rfl, _, rfl⟩
set_option maxRecDepth 100000 in
set_option maxHeartbeats 4000000 in
theorem raise1_less (p : Addr) (old x r : Int) (w : World) (hp : w.cell? p = some (.int .u64 x)) (h : x < old) (hw : ∀ w, Calls Try.prog 64 #[.int .u64 x] w fun e w' => e = .returned (.int .i64 r) ∧ w = w') :
    Calls Try.prog 67 #[.int .u64 old, .pointer (some p)] w fun e w' => e = .returned (.tuple #[.int .u64 old, .int .i64 r]) ∧ ∃ n, w' = w.drewN n := by
  have hp1 : w.drew.cell? p = some (.int .u64 x) := by simp [hp]
  have d1 : decide (x < old) = true := by simp [h]
  have d2 : decide (old < x) = false := by simp; omega
  go_enter Try.func67, Try.ntmps67
  go_wp2
  go_region_with (first | (go_at_call 64; refine (hw _).mono ?_; rintro e w' ⟨rfl, rfl⟩))
  all_goals (go_wp2; go_ret2; exact ⟨rfl, 1, rfl⟩)
set_option maxRecDepth 100000 in
set_option maxHeartbeats 4000000 in
theorem raise1_more (p : Addr) (old x r : Int) (w : World) (hp : w.cell? p = some (.int .u64 x)) (h : old < x) (hw : ∀ w, Calls Try.prog 64 #[.int .u64 x] w fun e w' => e = .returned (.int .i64 r) ∧ w = w') :
    Calls Try.prog 67 #[.int .u64 old, .pointer (some p)] w fun e w' => e = .returned (.tuple #[.int .u64 x, .int .i64 r]) ∧ ∃ n, w' = w.drewN n := by
  have hp1 : w.drew.cell? p = some (.int .u64 x) := by simp [hp]
  have d1 : decide (x < old) = false := by simp; omega
  have d2 : decide (old < x) = true := by simp [h]
  go_enter Try.func67, Try.ntmps67
  go_wp2
  go_region_with (first | (go_at_call 64; refine (hw _).mono ?_; rintro e w' ⟨rfl, rfl⟩))
  all_goals (go_wp2; go_ret2; exact ⟨rfl, 1, rfl⟩)
set_option maxRecDepth 100000 in
set_option maxHeartbeats 4000000 in
theorem raise1_same (p : Addr) (x r : Int) (w : World) (hp : w.cell? p = some (.int .u64 x)) (hw : ∀ w, Calls Try.prog 64 #[.int .u64 x] w fun e w' => e = .returned (.int .i64 r) ∧ w = w') :
    Calls Try.prog 67 #[.int .u64 x, .pointer (some p)] w fun e w' => e = .returned (.tuple #[.int .u64 x, .int .i64 r]) ∧ ∃ n, w' = w.drewN n := by
  have hp1 : w.drew.cell? p = some (.int .u64 x) := by simp [hp]
  go_enter Try.func67, Try.ntmps67
  go_wp2
  go_region_with (first | (go_at_call 64; refine (hw _).mono ?_; rintro e w' ⟨rfl, rfl⟩))
  all_goals (go_wp2; go_ret2; exact ⟨rfl, 1, rfl⟩)
theorem raise1_any (p : Addr) (old x r : Int) (w : World) (hp : w.cell? p = some (.int .u64 x)) (hw : ∀ w, Calls Try.prog 64 #[.int .u64 x] w fun e w' => e = .returned (.int .i64 r) ∧ w = w') :
    Calls Try.prog 67 #[.int .u64 old, .pointer (some p)] w fun e w' => e = .returned (.tuple #[.int .u64 (if x < old then old else x), .int .i64 r]) ∧ ∃ n, w' = w.drewN n := by
  rcases Int.lt_trichotomy x old with h | h | h
  · rw [if_pos h]; exact raise1_less p old x r w hp h hw
  · subst h; rw [if_neg (by omega)]; exact raise1_same p x r w hp hw
  · rw [if_neg (by omega)]; exact raise1_more p old x r w hp h hw
end Go.Proofs.Ytfakgemifbgafaa

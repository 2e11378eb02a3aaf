/- The functions that change hands a counter to, and change. -/
import Derived.Test.YtdkkpabemimmlaaMtA
import Derived.RegionCalls
import Derived.StillTailTactics
import Derived.Deep.RegionHeld3
import Derived.Outline
namespace Go.Proofs.Ytdkkpabemimmlaa
open Go.RowKit

/-- What the function of Add makes of a counter. -/
theorem add1_ok (p : Addr) (old x : Int) (w : World) (hp : w.cell? p = some (.int .u64 x)) (h0 : 0 ≤ old) (h1 : 0 ≤ x) (h : old + x ≤ TOP) :
    Calls Try.prog 146 #[.int .u64 old, .pointer (some p)] w fun e w' => e = .returned (.tuple #[.int .u64 (old + x), .int .i64 0]) ∧ w = w' := by
  have e1 : IntKind.u64.wrap (4611686018427387904 - old) = 4611686018427387904 - old := by unfold TOP at h; rw [IntKind.wrap_u64]; omega
  have e2 : IntKind.u64.wrap (old + x) = old + x := by unfold TOP at h; rw [IntKind.wrap_u64]; omega
  have e3 : decide (4611686018427387904 - old < x) = false := by unfold TOP at h; simp; omega
  clear h
  go_enter Try.func146, Try.ntmps146
  go_wp2
  go_ret2
  exact ⟨rfl, rfl⟩
theorem add1_no (p : Addr) (old x : Int) (w : World) (hp : w.cell? p = some (.int .u64 x)) (h0 : 0 ≤ old) (h0' : old ≤ TOP) (h : TOP < old + x) :
    Calls Try.prog 146 #[.int .u64 old, .pointer (some p)] w fun e w' => e = .returned (.tuple #[.int .u64 0, .int .i64 10]) ∧ w = w' := by
  have e1 : IntKind.u64.wrap (4611686018427387904 - old) = 4611686018427387904 - old := by unfold TOP at h0'; rw [IntKind.wrap_u64]; omega
  have e3 : decide (4611686018427387904 - old < x) = true := by unfold TOP at h; simp; omega
  clear h h0'
  go_enter Try.func146, Try.ntmps146
  go_wp2
  go_ret2
  exact ⟨rfl, rfl⟩
end Go.Proofs.Ytdkkpabemimmlaa

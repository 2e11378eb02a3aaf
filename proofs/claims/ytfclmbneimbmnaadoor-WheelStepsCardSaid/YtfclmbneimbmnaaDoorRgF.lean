/- Next over the example's ring; the rotation and the trailing zeros at the example's numbers. -/
import Derived.Test.YtfclmbneimbmnaaDoorRgE
namespace Go.Proofs.YtfclmbneimbmnaaDoor
open Go.RowKit

/-- The table of package math/bits. -/
def tabL : List Int := [0, 1, 56, 2, 57, 49, 28, 3, 61, 58, 42, 50, 38, 29, 17, 4, 62, 47, 59, 36, 45, 43, 51, 22, 53, 39, 33, 30, 24, 18, 12, 5, 63, 55, 48, 27, 60, 41, 37, 16, 46, 35, 44, 21, 52, 32, 23, 11, 54, 26, 40, 15, 34, 20, 31, 10, 25, 14, 19, 9, 13, 8, 7, 6]
/-- It lies where it lies. -/
def Tab (w : World) : Prop := ∀ j, j < 64 → w.cell? ⟨0, j, none⟩ = some (.int .u8 (tabL.getD j 0))
theorem Tab.below {w w' : World} (h : Tab w) (hb : Below w.heap.size w w') : Tab w' := fun j hj => (hb.cell (p := ⟨0, j, none⟩) (by have := cell_lt (h j hj); exact this)).trans (h j hj)

/-- How many wait in each slot of the example's ring. -/
def exL (k : Nat) : Nat := if k = 3 ∨ k = 60 then 1 else 0
theorem exL_small (k : Nat) : exL k < 1000000000000 := by unfold exL; split <;> omega

set_option maxRecDepth 100000 in
theorem rot_one (w : World) : Calls Tryd.prog 111 #[.int .u64 1152921504606846984, .int .i64 (-10)] w fun e w' => e = .returned (.int .u64 145241087982698496) ∧ w' = w := by
  have h1 : IntKind.u64.wrap (-10) = 18446744073709551606 := by decide
  have h2 : bits .and .u64 18446744073709551606 63 = 54 := by decide
  have h3 : IntKind.u64.wrap 20769187434139310658237173392736256 = 144115188075855872 := by decide
  have h4 : bits .or .u64 144115188075855872 1125899906842624 = 145241087982698496 := by decide
  go_enter Tryd.func111, Tryd.ntmps111
  go_wp2
  go_ret
  exact ⟨rfl, rfl⟩

set_option maxRecDepth 100000 in
theorem rot_two (w : World) : Calls Tryd.prog 111 #[.int .u64 1152921504606846984, .int .i64 (-61)] w fun e w' => e = .returned (.int .u64 9223372036854775872) ∧ w' = w := by
  have h1 : IntKind.u64.wrap (-61) = 18446744073709551555 := by decide
  have h2 : bits .and .u64 18446744073709551555 63 = 3 := by decide
  have h3 : IntKind.u64.wrap 9223372036854775872 = 9223372036854775872 := by decide
  have h4 : bits .or .u64 9223372036854775872 0 = 9223372036854775872 := by decide
  go_enter Tryd.func111, Tryd.ntmps111
  go_wp2
  go_ret
  exact ⟨rfl, rfl⟩

set_option maxRecDepth 100000 in
theorem tz_one (w : World) (hT : Tab w) : Calls Tryd.prog 110 #[.int .u64 145241087982698496] w fun e w' => e = .returned (.int .i64 50) ∧ w' = w := by
  have h1 : IntKind.u64.wrap (-145241087982698496) = 18301502985726853120 := by decide
  have h2 : bits .and .u64 145241087982698496 18301502985726853120 = 1125899906842624 := by decide
  have h3 : IntKind.u64.wrap 321861246243600392178420689141760 = 3180667236830412800 := by decide
  have hc : w.cell? ⟨0, 11, none⟩ = some (.int .u8 50) := hT 11 (by omega)
  clear hT
  go_enter Tryd.func110, Tryd.ntmps110
  go_wp2
  go_ret
  exact ⟨rfl, rfl⟩

set_option maxRecDepth 100000 in
theorem tz_two (w : World) (hT : Tab w) : Calls Tryd.prog 110 #[.int .u64 9223372036854775872] w fun e w' => e = .returned (.int .i64 6) ∧ w' = w := by
  have h1 : IntKind.u64.wrap (-9223372036854775872) = 9223372036854775744 := by decide
  have h2 : bits .and .u64 9223372036854775872 9223372036854775744 = 64 := by decide
  have h3 : IntKind.u64.wrap 18295693635286647360 = 18295693635286647360 := by decide
  have hc : w.cell? ⟨0, 63, none⟩ = some (.int .u8 6) := hT 63 (by omega)
  clear hT
  go_enter Tryd.func110, Tryd.ntmps110
  go_wp2
  go_ret
  exact ⟨rfl, rfl⟩

set_option maxRecDepth 100000 in
theorem next_one {r b c : Nat} {V : Nat → Value} {M : Int → Option (Nat × Nat)} (w : World) (hT : Tab w) (h : Rg w r b c V M) (hL : ∀ k, k < 64 → ∃ a c, V k = .slice a (exL k) c) :
    Calls Tryd.prog 67 #[.pointer (some ⟨r, 0, none⟩), .int .i64 10] w fun e w' => e = .returned (.tuple #[.int .i64 60, .int .i64 50, .bool true]) ∧ w' = w := by
  have hu := usedP hatU rfl w h.slot hL exL_small (fun w1 e => by subst e; exact created_yes r b _ h.map)
  have e64 : bitsN exL 64 = 1152921504606846984 := by decide
  rw [e64] at hu
  have hr := rot_one w
  have ht := tz_one w hT
  have h1 : bits .and .i64 10 63 = 10 := by decide
  have h2 : IntKind.i64.wrap (-10) = -10 := by decide
  clear h hT e64
  go_enter Tryd.func67, Tryd.ntmps67
  go_wp2_with (first
    | (go_at_call 25; refine hu.mono ?_; rintro e w1 ⟨rfl, rfl⟩)
    | (go_at_call 111; refine hr.mono ?_; rintro e w1 ⟨rfl, rfl⟩)
    | (go_at_call 110; refine ht.mono ?_; rintro e w1 ⟨rfl, rfl⟩))
  go_ret3
  exact ⟨rfl, rfl⟩

set_option maxRecDepth 100000 in
theorem next_two {r b c : Nat} {V : Nat → Value} {M : Int → Option (Nat × Nat)} (w : World) (hT : Tab w) (h : Rg w r b c V M) (hL : ∀ k, k < 64 → ∃ a c, V k = .slice a (exL k) c) :
    Calls Tryd.prog 67 #[.pointer (some ⟨r, 0, none⟩), .int .i64 61] w fun e w' => e = .returned (.tuple #[.int .i64 3, .int .i64 6, .bool true]) ∧ w' = w := by
  have hu := usedP hatU rfl w h.slot hL exL_small (fun w1 e => by subst e; exact created_yes r b _ h.map)
  have e64 : bitsN exL 64 = 1152921504606846984 := by decide
  rw [e64] at hu
  have hr := rot_two w
  have ht := tz_two w hT
  have h1 : bits .and .i64 61 63 = 61 := by decide
  have h2 : IntKind.i64.wrap (-61) = -61 := by decide
  clear h hT e64
  go_enter Tryd.func67, Tryd.ntmps67
  go_wp2_with (first
    | (go_at_call 25; refine hu.mono ?_; rintro e w1 ⟨rfl, rfl⟩)
    | (go_at_call 111; refine hr.mono ?_; rintro e w1 ⟨rfl, rfl⟩)
    | (go_at_call 110; refine ht.mono ?_; rintro e w1 ⟨rfl, rfl⟩))
  go_ret3
  exact ⟨rfl, rfl⟩
end Go.Proofs.YtfclmbneimbmnaaDoor

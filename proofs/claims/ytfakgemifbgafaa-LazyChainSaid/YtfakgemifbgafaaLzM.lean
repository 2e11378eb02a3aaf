/- The exclusive or of two numbers commutes. -/
import Derived.Test.YtfakgemifbgafaaLzL
namespace Go.Proofs.Ytfakgemifbgafaa
open Go.RowKit

theorem xor_comm (a b : Int) : bits .xor .i64 a b = bits .xor .i64 b a := by
  unfold bits
  simp [Nat.xor_comm, BitVec.xor_comm]

set_option maxRecDepth 100000 in
set_option maxHeartbeats 1600000 in
theorem lchain_big (a : Option Addr) (n c : Nat) (from' : Int) (w : World) (h63 : n ≤ 9223372036854775807) (h : n = 0 ∨ 100 < n) : Calls Try.prog 3 #[.slice a n c, .int .u8 from'] w fun e w' => e = .returned (.bool true) ∧ Below w.heap.size w w' := by
  have hb : Below w.heap.size w (w.alloc (.cells #[.slice a n c] 22)) := (Below.refl _ _).alloc (Nat.le_refl _) _
  rcases h with rfl | h
  · go_enter Try.func3, Try.ntmps3
    go_wp2_with (go_at_call 11; refine (lives4 _).mono ?_; rintro e w' ⟨rfl, hc⟩)
    go_ret
    exact ⟨rfl, hb.trans (hc.mono hb.size)⟩
  · have h1 : decide ((n : Int) = 0) = false := by simp; omega
    have h2 : ((n : Int) == 0) = false := by simp; omega
    have h3 : decide (100 < (n : Int)) = true := by simp; omega
    go_enter Try.func3, Try.ntmps3
    go_wp2_with (go_at_call 11; refine (lives4 _).mono ?_; rintro e w' ⟨rfl, hc⟩)
    go_ret
    exact ⟨rfl, hb.trans (hc.mono hb.size)⟩
end Go.Proofs.Ytfakgemifbgafaa

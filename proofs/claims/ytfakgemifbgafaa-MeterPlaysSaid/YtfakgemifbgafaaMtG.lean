/- The chapter's example, and MeterSizes. -/
import Derived.Test.YtfakgemifbgafaaMtF
namespace Go.Proofs.Ytfakgemifbgafaa
open Go.RowKit

set_option maxRecDepth 100000 in
set_option maxHeartbeats 1600000 in
theorem lives5 (w : World) : Calls Try.prog 21 #[] w fun e w' => e = .returned (.bool true) ∧ Below w.heap.size w w' := by
  go_enter Try.func21, Try.ntmps21
  go_wp2_with fail
  refine (new_met 2 w (by omega) (by omega)).mono ?_
  rintro e w1 ⟨rfl, B1, M1, -⟩
  have M1 : Met w.heap.size [0, 0] w1 := M1
  go_wp2_with fail
  refine (add_ok w.heap.size [0, 0] 1 5 0 w1 M1 (by decide) rfl (by decide) (by unfold TOP; decide)).mono ?_
  rintro e w2 ⟨rfl, O2, M2, -⟩
  have M2 : Met w.heap.size [0, 5] w2 := M2
  clear M1
  go_wp2_with fail
  refine (raise_ok w.heap.size [0, 5] 1 3 5 w2 M2 (by decide) rfl (by decide) (by unfold TOP; decide)).mono ?_
  rintro e w3 ⟨rfl, O3, M3, -⟩
  have M3 : Met w.heap.size [0, 5] w3 := M3
  clear M2
  go_wp2_with fail
  refine (swap_ok w.heap.size [0, 5] 1 0 5 w3 M3 (by decide) rfl (by decide) (by unfold TOP; decide)).mono ?_
  rintro e w4 ⟨rfl, O4, M4, -⟩
  have M4 : Met w.heap.size [0, 0] w4 := M4
  clear M3
  go_wp2_with fail
  refine (get_in w.heap.size [0, 0] 1 0 w4 M4 (by decide) rfl).mono ?_
  rintro e w5 ⟨rfl, rfl⟩
  go_wp2_with fail
  go_ret
  have O : Only (· = w.heap.size) w1 w4 := (O2.trans O3).trans O4
  exact ⟨rfl, B1.trans ⟨O.os, O.tape, O.output, O.size, fun k hk => O.block k (Nat.lt_of_lt_of_le hk B1.size) (by omega)⟩⟩
end Go.Proofs.Ytfakgemifbgafaa

/- The reference for rows: Has, Nth. -/
import Derived.Test.YtfeegohjgecjgaaRfA
namespace Go.Proofs.Ytfeegohjgecjgaa
open Go.RowKit

set_option maxRecDepth 100000 in
set_option maxHeartbeats 4000000 in
theorem rhas_any (a : Option Addr) (n cap : Nat) (F T : Nat → Int) (m : Int) (w : World) (hS : Sps w a n F T) (hn : n ≤ 32) (hg : good F T n = true) :
    Calls Try.prog 20 #[.slice a n cap, .int .i64 m] w fun e w' => e = .returned (.bool (hasB F T m n)) ∧ Below w.heap.size w w' := by
  have hm := hS.1
  unfold maxLen at hm
  have HC := Lib.hid hS
  have hr := rrow_any a n cap F T w hS
  rw [rowE_ok hn hg] at hr
  clear hS hg
  go_enter Try.func20, Try.ntmps20
  go_wp2_with fail
  refine hr.mono ?_
  rintro e w1 ⟨rfl, hb1⟩
  have HB1 := Lib.hid hb1
  clear hr hb1
  go_wp2_with fail
  go_loopw [5] (fun i wr => ∃ k : Nat, k ≤ n ∧ i = .int .i64 k ∧ hasB F T m k = false ∧ wr = w1) (fun i _ => n - (intOf i).toNat)
  case atStart => exact ⟨0, Nat.zero_le _, rfl, rfl, rfl⟩
  case round =>
    obtain ⟨k, hk, rfl, hh, rfl⟩ := hrel
    by_cases hlt : k < n
    · obtain ⟨ab, ao, rfl, hab, c0, c1, b0, b1, b2, b3⟩ := HC.out.at HB1.out k hlt
      have HW : Hid (hasB F T m (k + 1) = (decide (F k ≤ m) && decide (m < T k))) := Lib.hid (by simp [hasB, hh, inB])
      obtain ⟨f, e0⟩ : ∃ x, F k = x := ⟨_, rfl⟩
      obtain ⟨t, e1⟩ : ∃ x, T k = x := ⟨_, rfl⟩
      rw [e0] at c0 b0 b1 HW
      rw [e1] at c1 b2 b3 HW
      clear e0 e1 hh
      have k0 : (0 : Int) ≤ (k : Int) := by omega
      have kl : (k : Int) < (n : Int) := by omega
      have d4 : decide ((k : Int) < (n : Int)) = true := by simp [hlt]
      obtain ⟨p1, hp1⟩ : ∃ c, decide (f ≤ m) = c := ⟨_, rfl⟩
      obtain ⟨p2, hp2⟩ : ∃ c, decide (m < t) = c := ⟨_, rfl⟩
      rw [hp1, hp2] at HW
      have HUP : Hid (hasB F T m (k + 1) = true → hasB F T m n = true) := Lib.hid (fun h => (hasB_iff n).2 (by obtain ⟨j, hj, h⟩ := (hasB_iff _).1 h; exact ⟨j, by omega, h⟩))
      cases p1 <;> cases p2
      case true.true =>
        go_wp2_with fail
        go_ret
        exact ⟨ret_bool (HUP.out HW.out).symm, HB1.out⟩
      all_goals
        go_wp2_with fail
        go_roundw
        case rel => exact ⟨k + 1, hlt, by go_num, HW.out, by first | rfl | trivial⟩
        case measure => simp [intOf]; omega
    · obtain rfl : k = n := by omega
      have HH := Lib.hid hh
      clear hh
      go_wp2_with fail
      go_ret
      exact ⟨ret_bool HH.out.symm, HB1.out⟩

end Go.Proofs.Ytfeegohjgecjgaa

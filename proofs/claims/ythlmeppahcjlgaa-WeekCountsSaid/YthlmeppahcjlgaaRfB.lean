/- The reference for rows: Has, Nth. -/
import Derived.Test.YthlmeppahcjlgaaRfA
namespace Go.Proofs.Ythlmeppahcjlgaa
open Go.RowKit

set_option maxRecDepth 100000 in
set_option maxHeartbeats 4000000 in
theorem rhas_any (a : Option Addr) (n cap : Nat) (F T : Nat → Int) (m : Int) (w : World) (hS : Sps w a n F T) (hn : n ≤ 32) (hg : good F T n = true) :
    Calls Try.prog 59 #[.slice a n cap, .int .i64 m] w fun e w' => e = .returned (.bool (hasB F T m n)) ∧ Below w.heap.size w w' := by
  have hm := hS.1
  unfold maxLen at hm
  have HC := Lib.hid hS
  have hr := rrow_any a n cap F T w hS
  rw [rowE_ok hn hg] at hr
  clear hS hg
  go_enter Try.func59, Try.ntmps59
  go_wp2_with fail
  refine hr.mono ?_
  rintro e w1 ⟨rfl, hb1⟩
  have HB1 := Lib.hid hb1
  clear hr hb1
  go_wp2_with fail
  go_loopw [5] (fun i wr => ∃ k : Nat, k ≤ n ∧ i = .int .i64 k ∧ hasB F T m k = false ∧ wr = w1) (fun i _ => n - (intOf i).toNat)
  case atStart => exact ⟨0, Nat.zero_le _, rfl, rfl, rfl⟩
  case round =>
    obtain ⟨k, hk, rfl, hh, rfl⟩ := hrel
    by_cases hlt : k < n
    · obtain ⟨ab, ao, rfl, hab, c0, c1, b0, b1, b2, b3⟩ := HC.out.at HB1.out k hlt
      have HW : Hid (hasB F T m (k + 1) = (decide (F k ≤ m) && decide (m < T k))) := Lib.hid (by simp [hasB, hh, inB])
      obtain ⟨f, e0⟩ : ∃ x, F k = x := ⟨_, rfl⟩
      obtain ⟨t, e1⟩ : ∃ x, T k = x := ⟨_, rfl⟩
      rw [e0] at c0 b0 b1 HW
      rw [e1] at c1 b2 b3 HW
      clear e0 e1 hh
      have k0 : (0 : Int) ≤ (k : Int) := by omega
      have kl : (k : Int) < (n : Int) := by omega
      have d4 : decide ((k : Int) < (n : Int)) = true := by simp [hlt]
      obtain ⟨p1, hp1⟩ : ∃ c, decide (f ≤ m) = c := ⟨_, rfl⟩
      obtain ⟨p2, hp2⟩ : ∃ c, decide (m < t) = c := ⟨_, rfl⟩
      rw [hp1, hp2] at HW
      have HUP : Hid (hasB F T m (k + 1) = true → hasB F T m n = true) := Lib.hid (fun h => (hasB_iff n).2 (by obtain ⟨j, hj, h⟩ := (hasB_iff _).1 h; exact ⟨j, by omega, h⟩))
      cases p1 <;> cases p2
      case true.true =>
        go_wp2_with fail
        go_ret
        exact ⟨ret_bool (HUP.out HW.out).symm, HB1.out⟩
      all_goals
        go_wp2_with fail
        go_roundw
        case rel => exact ⟨k + 1, hlt, by go_num, HW.out, by first | rfl | trivial⟩
        case measure => simp [intOf]; omega
    · obtain rfl : k = n := by omega
      have HH := Lib.hid hh
      clear hh
      go_wp2_with fail
      go_ret
      exact ⟨ret_bool HH.out.symm, HB1.out⟩

set_option maxRecDepth 100000 in
set_option maxHeartbeats 4000000 in
theorem rnth_yes (a : Option Addr) (n cap : Nat) (F T : Nat → Int) (m : Int) (w : World) (hS : Sps w a n F T) (hn : n ≤ 32) (hg : good F T n = true) (h0 : 0 ≤ m) (h1 : m < tsum F T n) :
    Calls Try.prog 60 #[.slice a n cap, .int .i64 m] w fun e w' => e = .returned (.tuple #[.int .i64 (nthV F T n m), .bool true]) ∧ Below w.heap.size w w' := by
  have hm := hS.1
  unfold maxLen at hm
  have HC := Lib.hid hS
  have hr := rrow_any a n cap F T w hS
  rw [rowE_ok hn hg] at hr
  have hx := tsum_bounds hg n (Nat.le_refl _)
  have d0 : decide (m < 0) = false := decide_eq_false (by omega)
  have m1 : m ≤ 36028797018963968 := by omega
  have HG := Lib.hid hg
  have H1 := Lib.hid h1
  clear hS hg hx h1
  go_enter Try.func60, Try.ntmps60
  go_wp2_with fail
  refine hr.mono ?_
  rintro e w1 ⟨rfl, hb1⟩
  have HB1 := Lib.hid hb1
  clear hr hb1
  go_wp2_with fail
  go_loopw [1, 6] (fun s i wr => ∃ k : Nat, k ≤ n ∧ i = .int .i64 k ∧ s = .int .i64 (m - tsum F T k) ∧ tsum F T k ≤ m ∧ ∃ q, wr = w1.drewN q) (fun _ i _ => n - (intOf i).toNat)
  case atStart => exact ⟨0, Nat.zero_le _, rfl, by simp [tsum], h0, 0, rfl⟩
  case round =>
    obtain ⟨k, hk, rfl, rfl, hle, q, rfl⟩ := hrel
    have hlt : k < n := by
      have := H1.out
      rcases Nat.lt_or_ge k n with h | h
      · exact h
      · obtain rfl : k = n := by omega
        omega
    obtain ⟨ab, ao, rfl, hab, c0, c1, b0, b1, b2, b3⟩ := (HC.out.kept HB1.out).at (Below.refl _ _) k hlt
    obtain ⟨g0, g1, g2, _⟩ := good_at HG.out hlt
    obtain ⟨p0, p1⟩ := tsum_bounds HG.out k hk
    have HW := Lib.hid (show tsum F T (k + 1) = tsum F T k + (T k - F k) from rfl)
    have HV := Lib.hid (fun h => nthV_at (m := m) HG.out hlt hle h)
    obtain ⟨f, e0⟩ : ∃ x, F k = x := ⟨_, rfl⟩
    obtain ⟨t, e1⟩ : ∃ x, T k = x := ⟨_, rfl⟩
    obtain ⟨s, e2⟩ : ∃ z, m - tsum F T k = z := ⟨_, rfl⟩
    have s0 : 0 ≤ s := by omega
    have s1 : s ≤ 36028797018963968 := by omega
    rw [e0] at c0 b0 b1 HW HV g0 g1
    rw [e1] at c1 b2 b3 HW g1 g2
    have E2 := Lib.hid e2
    rw [e2] at HV ⊢
    clear e0 e1 e2 p1
    have k0 : (0 : Int) ≤ (k : Int) := by omega
    have kl : (k : Int) < (n : Int) := by omega
    have d4 : decide ((k : Int) < (n : Int)) = true := by simp [hlt]
    by_cases hs : s < t - f
    · have d5 : decide (s < t - f) = true := decide_eq_true hs
      have HV := Lib.hid (HV.out (by rw [HW.out]; have := E2.out; omega))
      have w1' : IntKind.i64.wrap (t - f) = t - f := IntWalk.i64_in _ (by omega)
      go_wp2_with fail
      go_quiet (fail)
      clear w1'
      go_wp2_with fail
      go_ret2
      exact ⟨ret_ib HV.out.symm, below_drewN' HB1.out _⟩
    · have d5 : decide (s < t - f) = false := decide_eq_false hs
      have w1' : IntKind.i64.wrap (t - f) = t - f := IntWalk.i64_in _ (by omega)
      have w2' : IntKind.i64.wrap (s - (t - f)) = s - (t - f) := IntWalk.i64_in _ (by omega)
      go_wp2_with fail
      go_quiet (fail)
      go_wp2_with fail
      go_quiet (fail)
      clear w1' w2'
      go_wp2_with fail
      go_roundw
      case rel => exact ⟨k + 1, hlt, by go_num, by rw [HW.out, ← E2.out]; congr 1; omega, by rw [HW.out]; have := E2.out; omega, _, rfl⟩
      case measure => simp [intOf]; omega
end Go.Proofs.Ythlmeppahcjlgaa

/- WeekTells, walked. -/
import Derived.Test.YthlmeppahcjlgaaWkS
import Derived.Test.YthlmeppahcjlgaaRfC
import Derived.Test.YthlmeppahcjlgaaSpD
import Derived.Test.YthlmeppahcjlgaaSpM
namespace Go.Proofs.Ythlmeppahcjlgaa
open Go.RowKit

set_option maxRecDepth 100000 in
set_option maxHeartbeats 4000000 in
theorem wtells_big (a : Option Addr) (n cap : Nat) (t : Int) (w : World) (hn : n ≤ 9223372036854775807) (h : 100 < n) :
    Calls Try.prog 7 #[.slice a n cap, .int .i64 t] w fun e w' => e = .returned (.bool true) ∧ Below w.heap.size w w' := by
  have hl := lives8 w
  have d1 : decide (100 < (n : Int)) = true := decide_eq_true (by omega)
  go_enter Try.func7, Try.ntmps7
  go_wp2_with fail
  refine hl.mono ?_
  rintro e w1 ⟨rfl, hb⟩
  go_wp2_with fail
  go_ret
  exact ⟨rfl, hb⟩
/-- A row that is no plan's: New's number and the reference's. -/
theorem new_no (a : Option Addr) (n cap : Nat) (F T : Nat → Int) (w : World) (hS : Sps w a n F T) (hw : (wrongE F T n != 0) = true) :
    Calls Try.prog 30 #[.slice a n cap] w fun e w' => e = .returned (.tuple #[.pointer none, .int .i64 (wrongE F T n)]) ∧ Below w.heap.size w w' := by
  by_cases hz : rowE F T n = 0
  · have hn : n ≤ 32 := by
      rcases Nat.lt_or_ge 32 n with h | h
      · rw [rowE_long h] at hz; cases hz
      · exact h
    have hg : good F T n = true := by
      cases h : good F T n with
      | true => rfl
      | false => rw [rowE_bad hn h] at hz; cases hz
    have hwk : weekB T n = false := by
      cases h : weekB T n with
      | false => rfl
      | true => unfold wrongE at hw; rw [if_pos hz, if_pos h] at hw; cases hw
    have he : wrongE F T n = 2 := by unfold wrongE; rw [if_pos hz, if_neg (by rw [hwk]; simp)]
    rw [he]
    cases n with
    | zero => cases hwk
    | succ p =>
      have hlong : 604800 < T p := by
        rcases Int.lt_or_le 604800 (T p) with h | h
        · exact h
        · exfalso
          have : weekB T (p + 1) = true := (weekB_iff _).2 fun k hk => by
            by_cases e : k = p
            · subst e; exact h
            · have h1 := good_order hg p k (by omega) (by omega)
              have h2 := (good_at hg (show p < p + 1 by omega)).2.1
              omega
          rw [this] at hwk; cases hwk
      exact new_long a p cap F T w hS hn hg hlong
  · have he : wrongE F T n = rowE F T n := by unfold wrongE; rw [if_neg hz]
    rw [he]
    exact new_bad a n cap F T w hS (by simpa using hz)
set_option maxRecDepth 100000 in
set_option maxHeartbeats 4000000 in
theorem wtells_no (a : Option Addr) (n cap : Nat) (F T : Nat → Int) (t : Int) (w : World) (hS : Sps w a n F T) (hn : n ≤ 100) (hw : (wrongE F T n != 0) = true) :
    Calls Try.prog 7 #[.slice a n cap, .int .i64 t] w fun e w' => e = .returned (.bool true) ∧ Below w.heap.size w w' := by
  have d1 : decide (100 < (n : Int)) = false := decide_eq_false (by omega)
  have h1 := new_no a n cap F T w hS hw
  have HWR := Lib.hid (fun w1 (hb : Below w.heap.size w w1) => wrong_any a n cap F T w1 (hS.kept hb))
  obtain ⟨z, hz⟩ : ∃ z, wrongE F T n = z := ⟨_, rfl⟩
  rw [hz] at h1 hw
  have HZ := Lib.hid hz
  clear hS hz
  go_enter Try.func7, Try.ntmps7
  go_wp2_with fail
  refine h1.mono ?_
  rintro e w1 ⟨rfl, hb1⟩
  have h2 := HWR.out w1 hb1
  rw [HZ.out] at h2
  have HB1 := Lib.hid hb1
  clear h1 hb1
  go_wp2_with fail
  refine h2.mono ?_
  rintro e w2 ⟨rfl, hb2⟩
  have HB2 := Lib.hid (HB1.out.trans (hb2.mono HB1.out.size))
  clear h2 hb2
  have hl := lives8 w2
  go_wp2_with fail
  refine hl.mono ?_
  rintro e w3 ⟨rfl, hb3⟩
  go_wp2_with fail
  go_ret
  exact ⟨rfl, HB2.out.trans (hb3.mono HB2.out.size)⟩
set_option maxRecDepth 100000 in
set_option maxHeartbeats 8000000 in
theorem wtells_ok (a : Option Addr) (n cap : Nat) (F T : Nat → Int) (t : Int) (w : World) (hS : Sps w a n F T) (hw : Wk F T n) :
    Calls Try.prog 7 #[.slice a n cap, .int .i64 t] w fun e w' => e = .returned (.bool true) ∧ Below w.heap.size w w' := by
  have hn := hw.len
  have d1 : decide (100 < (n : Int)) = false := decide_eq_false (by omega)
  have h1 := new_ok a n cap F T w hS hw
  have HC := Lib.hid hS
  have HW := Lib.hid hw
  have HWR := Lib.hid (fun w1 (hb : Below w.heap.size w w1) => wrong_any a n cap F T w1 (hS.kept hb))
  have HZ := Lib.hid (wk_wrong hw)
  clear hS hw
  go_enter Try.func7, Try.ntmps7
  go_wp2_with fail
  refine h1.mono ?_
  rintro e w1 ⟨P, C, pa, pc, rfl, hP, hb1⟩
  have h2 := HWR.out w1 hb1
  rw [HZ.out] at h2
  have HB1 := Lib.hid hb1
  have HP1 := Lib.hid hP
  clear h1 hb1 hP
  go_wp2_with fail
  refine h2.mono ?_
  rintro e w2 ⟨rfl, hb2⟩
  have HB2 := Lib.hid (HB1.out.trans (hb2.mono HB1.out.size))
  have hP2 := HP1.out.kept hb2
  have h3 := total_any hP2 HW.out.len HW.out.good
  obtain ⟨tot, ht⟩ : ∃ z, tsum F T n = z := ⟨_, rfl⟩
  rw [ht] at h3
  have HT := Lib.hid ht
  clear h2 hb2 hP2 ht
  go_wp2_with fail
  refine h3.mono ?_
  rintro e w3 ⟨rfl, hP3, hO3⟩
  have HB3 := Lib.hid (HB2.out.trans (hO3.toBelow HB2.out.size fun k hk => by subst hk; exact hP3.hC))
  have h4 := rlen_any a n cap F T w3 (HC.out.kept HB3.out) HW.out.len HW.out.good
  rw [HT.out] at h4
  have HP3 := Lib.hid hP3
  clear h3 hP3 hO3
  go_wp2_with fail
  refine h4.mono ?_
  rintro e w4 ⟨rfl, hb4⟩
  have HB4 := Lib.hid (HB3.out.trans (hb4.mono HB3.out.size))
  have h5 := open_any t (HP3.out.kept hb4) HW.out HB4.out.size
  obtain ⟨o, ho⟩ : ∃ o, openB F T n t = o := ⟨_, rfl⟩
  rw [ho] at h5
  have HO := Lib.hid ho
  clear h4 hb4 ho
  go_wp2_with fail
  refine h5.mono ?_
  rintro e w5 ⟨rfl, hP5, hS5⟩
  have HB5 := Lib.hid (hS5.2 w HB4.out)
  have h6 := ropen_any a n cap F T t w5 (HC.out.kept HB5.out) HW.out
  rw [HO.out] at h6
  have HP5 := Lib.hid hP5
  clear h5 hP5 hS5
  go_wp2_with fail
  refine h6.mono ?_
  rintro e w6 ⟨rfl, hb6⟩
  have HB6 := Lib.hid (HB5.out.trans (hb6.mono HB5.out.size))
  have h7 := row_plan (HP5.out.kept hb6) HW.out
  clear h6 hb6
  go_wp2_with fail
  refine h7.mono ?_
  rintro e w7 ⟨v, rfl, hO7, hP7, hb7⟩
  have HB7 := Lib.hid (HB6.out.trans (hb7.mono HB6.out.size))
  obtain ⟨va, vc, rfl, _, _⟩ := hO7.shape
  have hS7 := (hO7.sps (by
    intro s hs
    obtain ⟨k, hk, rfl⟩ := pairs_mem.1 hs
    obtain ⟨_, _, _, _, _, _, b⟩ := HC.out.at (Below.refl _ _) k hk
    exact b)).2
  rw [pairs_len] at hS7 ⊢
  have h8 := rsame_any va a n vc n cap _ _ F T w7 hS7 (HC.out.kept HB7.out)
  have e8 : sameL (fr (pairs F T n)) (til (pairs F T n)) F T n n = true := by
    simp only [sameL, decide_true, Bool.true_and]
    exact sameB_iff.2 fun k hk => pairs_at F T n k hk
  rw [e8] at h8
  clear h7 hO7 hP7 hb7 hS7 e8
  go_wp2_with fail
  refine h8.mono ?_
  rintro e w8 ⟨rfl, q8, rfl⟩
  have hB8 : Below w.heap.size w (w7.drewN q8) := ⟨HB7.out.os, HB7.out.tape, HB7.out.output, HB7.out.size, HB7.out.block⟩
  have HB8 := Lib.hid hB8
  clear h8 hB8
  generalize w7.drewN q8 = w8 at *
  have hl := lives8 w8
  go_wp2_with fail
  refine hl.mono ?_
  rintro e w9 ⟨rfl, hb9⟩
  go_wp2_with fail
  go_ret
  exact ⟨rfl, HB8.out.trans (hb9.mono HB8.out.size)⟩
end Go.Proofs.Ythlmeppahcjlgaa

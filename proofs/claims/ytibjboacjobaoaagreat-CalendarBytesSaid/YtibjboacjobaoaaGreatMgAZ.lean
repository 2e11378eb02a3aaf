import Derived.Test.YtibjboacjobaoaaGreatMgAY
import Derived.Test.YtibjboacjobaoaaGreatMgAU
import Derived.Test.YtibjboacjobaoaaGreatMgAV
import Derived.Test.YtibjboacjobaoaaGreatMgAN
namespace Go.Proofs.YtibjboacjobaoaaGreat
open Go.RowKit
/- The reference for rows: Has, Nth. -/
open Go.RowKit

/- The reference for plans: Open, Until, Between, Nth. -/
open Go.RowKit

/- WeekTells, walked. -/
open Go.RowKit

/-- A row that is no plan's: New's number and the reference's. -/
theorem new_no (a : Option Addr) (n cap : Nat) (F T : Nat → Int) (w : World) (hS : Sps w a n F T) (hw : (wrongE F T n != 0) = true) :
    Calls Tryz.prog 88 #[.slice a n cap] w fun e w' => e = .returned (.tuple #[.pointer none, .int .i64 (wrongE F T n)]) ∧ Below w.heap.size w w' := by
  by_cases hz : rowE F T n = 0
  · have hn : n ≤ 32 := by
      rcases Nat.lt_or_ge 32 n with h | h
      · rw [rowE_long h] at hz; cases hz
      · exact h
    have hg : good F T n = true := by
      cases h : good F T n with
      | true => rfl
      | false => rw [rowE_bad hn h] at hz; cases hz
    have hwk : weekB T n = false := by
      cases h : weekB T n with
      | false => rfl
      | true => unfold wrongE at hw; rw [if_pos hz, if_pos h] at hw; cases hw
    have he : wrongE F T n = 2 := by unfold wrongE; rw [if_pos hz, if_neg (by rw [hwk]; simp)]
    rw [he]
    cases n with
    | zero => cases hwk
    | succ p =>
      have hlong : 604800 < T p := by
        rcases Int.lt_or_le 604800 (T p) with h | h
        · exact h
        · exfalso
          have : weekB T (p + 1) = true := (weekB_iff _).2 fun k hk => by
            by_cases e : k = p
            · subst e; exact h
            · have h1 := good_order hg p k (by omega) (by omega)
              have h2 := (good_at hg (show p < p + 1 by omega)).2.1
              omega
          rw [this] at hwk; cases hwk
      exact new_long a p cap F T w hS hn hg hlong
  · have he : wrongE F T n = rowE F T n := by unfold wrongE; rw [if_neg hz]
    rw [he]
    exact new_bad a n cap F T w hS (by simpa using hz)
end Go.Proofs.YtibjboacjobaoaaGreat

import Derived.Test.YtibjboacjobaoaaMgAE
import Derived.Test.YtibjboacjobaoaaMgAC
import Derived.Test.YtibjboacjobaoaaMgAD
import Derived.IntWalk
import Derived.Test.YtibjboacjobaoaaMgAH
import Derived.Test.YtibjboacjobaoaaMgAI
import Derived.Test.YtibjboacjobaoaaMgAB
namespace Go.Proofs.Ytibjboacjobaoaa
open Go.RowKit
/- The reference for rows: Cut, Within, Len. -/
open Go.RowKit

def cutOne (f t a b : Int) : List (Int × Int) := if mx f a < mn t b then [(mx f a, mn t b)] else []
def cutL (F T : Nat → Int) (a b : Int) : Nat → List (Int × Int)
  | 0 => []
  | k + 1 => cutL F T a b k ++ cutOne (F k) (T k) a b
theorem cutL_len (F T : Nat → Int) (a b : Int) : ∀ k, (cutL F T a b k).length ≤ k := by
  intro k
  induction k with
  | zero => exact Nat.le_refl _
  | succ k ih =>
    simp only [cutL, List.length_append]
    unfold cutOne
    split <;> simp <;> omega
theorem cutL_right {F T : Nat → Int} {n : Nat} (a b : Int) (hg : good F T n = true) : ∀ k, k ≤ n → ∀ s ∈ cutL F T a b k, 0 ≤ s.1 ∧ s.1 < s.2 ∧ s.2 ≤ 1125899906842624 := by
  intro k
  induction k with
  | zero => intro _ s hs; cases hs
  | succ k ih =>
    intro hk s hs
    simp only [cutL, List.mem_append] at hs
    rcases hs with hs | hs
    · exact ih (by omega) s hs
    · obtain ⟨g0, g1, g2, _⟩ := good_at hg (show k < n by omega)
      unfold cutOne at hs
      split at hs
      · rename_i h
        obtain rfl := List.mem_singleton.1 hs
        show 0 ≤ mx (F k) a ∧ mx (F k) a < mn (T k) b ∧ mn (T k) b ≤ _
        rcases mx_cases (F k) a with ⟨h1, h2⟩ | ⟨h1, h2⟩ <;> rcases mn_cases (T k) b with ⟨h3, h4⟩ | ⟨h3, h4⟩ <;> omega
      · cases hs
theorem tsum_congr {F T F' T' : Nat → Int} : ∀ k, (∀ j, j < k → F j = F' j ∧ T j = T' j) → tsum F T k = tsum F' T' k := by
  intro k
  induction k with
  | zero => intro _; rfl
  | succ k ih =>
    intro h
    simp only [tsum, ih fun j hj => h j (by omega), (h k (by omega)).1, (h k (by omega)).2]
/-- How many seconds the spans of a list have. -/
def sumL (l : List (Int × Int)) : Int := tsum (fr l) (til l) l.length
theorem fr_append_lt {l m : List (Int × Int)} {j : Nat} (h : j < l.length) : fr (l ++ m) j = fr l j ∧ til (l ++ m) j = til l j := by
  simp [fr, til, List.getElem?_append_left h]
theorem sumL_snoc (l : List (Int × Int)) (x : Int × Int) : sumL (l ++ [x]) = sumL l + (x.2 - x.1) := by
  unfold sumL
  rw [List.length_append]
  show tsum _ _ (l.length + 1) = _
  simp only [tsum]
  rw [tsum_congr (F' := fr l) (T' := til l) l.length fun j hj => fr_append_lt hj]
  simp [fr, til]
theorem sumL_cut {F T : Nat → Int} (a b : Int) : ∀ k, sumL (cutL F T a b k) = wsum F T a b k := by
  intro k
  induction k with
  | zero => rfl
  | succ k ih =>
    simp only [cutL, wsum]
    unfold cutOne
    rcases clip_cases (F k) (T k) a b with ⟨h, e⟩ | ⟨h, e⟩
    · rw [if_neg (by omega), List.append_nil, ih, e]; omega
    · rw [if_pos h, sumL_snoc, ih, e]
theorem tsum_list {l : List (Int × Int)} (hr : ∀ s ∈ l, 0 ≤ s.1 ∧ s.1 < s.2 ∧ s.2 ≤ 1125899906842624) : ∀ k, k ≤ l.length → 0 ≤ tsum (fr l) (til l) k ∧ tsum (fr l) (til l) k ≤ k * 1125899906842624 := by
  intro k
  induction k with
  | zero => intro _; simp [tsum]
  | succ k ih =>
    intro hk
    obtain ⟨h1, h2⟩ := ih (by omega)
    have h3 := hr (l.getD k (0, 0)) (by simp [show k < l.length by omega])
    have e1 : fr l k = (l.getD k (0, 0)).1 := rfl
    have e2 : til l k = (l.getD k (0, 0)).2 := rfl
    simp only [tsum]
    omega

/- The reference for rows: Has, Nth. -/
open Go.RowKit

/- The reference for plans: Open, Until, Between, Nth. -/
open Go.RowKit

/- WeekTells, walked. -/
open Go.RowKit

/-- A row that is no plan's: New's number and the reference's. -/
theorem new_no (a : Option Addr) (n cap : Nat) (F T : Nat → Int) (w : World) (hS : Sps w a n F T) (hw : (wrongE F T n != 0) = true) :
    Calls Try.prog 131 #[.slice a n cap] w fun e w' => e = .returned (.tuple #[.pointer none, .int .i64 (wrongE F T n)]) ∧ Below w.heap.size w w' := by
  by_cases hz : rowE F T n = 0
  · have hn : n ≤ 32 := by
      rcases Nat.lt_or_ge 32 n with h | h
      · rw [rowE_long h] at hz; cases hz
      · exact h
    have hg : good F T n = true := by
      cases h : good F T n with
      | true => rfl
      | false => rw [rowE_bad hn h] at hz; cases hz
    have hwk : weekB T n = false := by
      cases h : weekB T n with
      | false => rfl
      | true => unfold wrongE at hw; rw [if_pos hz, if_pos h] at hw; cases hw
    have he : wrongE F T n = 2 := by unfold wrongE; rw [if_pos hz, if_neg (by rw [hwk]; simp)]
    rw [he]
    cases n with
    | zero => cases hwk
    | succ p =>
      have hlong : 604800 < T p := by
        rcases Int.lt_or_le 604800 (T p) with h | h
        · exact h
        · exfalso
          have : weekB T (p + 1) = true := (weekB_iff _).2 fun k hk => by
            by_cases e : k = p
            · subst e; exact h
            · have h1 := good_order hg p k (by omega) (by omega)
              have h2 := (good_at hg (show p < p + 1 by omega)).2.1
              omega
          rw [this] at hwk; cases hwk
      exact new_long a p cap F T w hS hn hg hlong
  · have he : wrongE F T n = rowE F T n := by unfold wrongE; rw [if_neg hz]
    rw [he]
    exact new_bad a n cap F T w hS (by simpa using hz)
end Go.Proofs.Ytibjboacjobaoaa

/- The things that wait, and how two of them compare: the library's Compare and Or, the program's compare. -/
import Derived.Test.YtfclmbneimbmnaaDoorRows
import Derived.Test.YtfclmbneimbmnaaDoorStN
import Derived.Shelf.SlSortCmp.KitK
import Derived.WalkKit
import Derived.Deep.Slices
import Derived.Deep.RegionWith
import Derived.Deep.RegionHeld3
import Derived.BigQuiet
import Derived.Deep.QuietTactic
import Derived.LoopTactic
import Derived.IntWalk
namespace Go.Proofs.YtfclmbneimbmnaaDoor
open Go.RowKit Go.Sort

/-- ID, Gen, Due. -/
abbrev Th := Int × Int × Int
def enT (x : Th) : List Value := [.int .u64 x.1, .int .u64 x.2.1, .int .i64 x.2.2]
def enG (x : Th × Nat) : List Value := enT x.1
def cmpI (a b : Int) : Int := if a < b then -1 else if b < a then 1 else 0
def cmpT (x y : Th) : Int := if cmpI x.2.2 y.2.2 ≠ 0 then cmpI x.2.2 y.2.2 else cmpI x.1 y.1
def cmpG (x y : Th × Nat) : Int := cmpT x.1 y.1
def ltT (x y : Th) : Bool := decide (x.2.2 < y.2.2 ∨ (x.2.2 = y.2.2 ∧ x.1 < y.1))

theorem cmpI_cases (a b : Int) : (a < b ∧ cmpI a b = -1) ∨ (a = b ∧ cmpI a b = 0) ∨ (b < a ∧ cmpI a b = 1) := by
  unfold cmpI
  by_cases h1 : a < b
  · left; exact ⟨h1, by rw [if_pos h1]⟩
  · by_cases h2 : b < a
    · right; right; exact ⟨h2, by rw [if_neg h1, if_pos h2]⟩
    · right; left; exact ⟨by omega, by rw [if_neg h1, if_neg h2]⟩

theorem cmpT_neg (x y : Th) : decide (cmpT x y < 0) = ltT x y := by
  unfold cmpT ltT
  rcases cmpI_cases x.2.2 y.2.2 with ⟨h, e⟩ | ⟨h, e⟩ | ⟨h, e⟩ <;> rw [e]
  · simp [h]
  · rcases cmpI_cases x.1 y.1 with ⟨h1, e1⟩ | ⟨h1, e1⟩ | ⟨h1, e1⟩ <;> rw [e1] <;> simp [h] <;> omega
  · have : ¬ (x.2.2 < y.2.2 ∨ (x.2.2 = y.2.2 ∧ x.1 < y.1)) := by omega
    rw [decide_eq_false this]; simp

theorem cmpG_lt : ltOf cmpG = fstB ltT := by
  funext x y
  exact cmpT_neg x.1 y.1

theorem ltT_swo : SWO ltT where
  irrefl x := by unfold ltT; simp
  trans x y z := by unfold ltT; simp only [decide_eq_true_eq]; omega
  ntrans x y z := by unfold ltT; simp only [decide_eq_false_iff_not]; omega

theorem compare_i64 (a b : Int) (w : World) : Calls Tryd.prog 113 #[.int .i64 a, .int .i64 b] w fun e w' => e = .returned (.int .i64 (cmpI a b)) ∧ w' = w := by
  rcases cmpI_cases a b with ⟨h, e⟩ | ⟨h, e⟩ | ⟨h, e⟩ <;> rw [e]
  · go_enter Tryd.func113, Tryd.ntmps113
    go_wp2
    go_ret
    exact ⟨rfl, rfl⟩
  · subst h
    go_enter Tryd.func113, Tryd.ntmps113
    go_wp2
    go_ret
    exact ⟨rfl, rfl⟩
  · have h' : ¬ a < b := by omega
    go_enter Tryd.func113, Tryd.ntmps113
    go_wp2
    go_ret
    exact ⟨rfl, rfl⟩

theorem compare_u64 (a b : Int) (w : World) : Calls Tryd.prog 114 #[.int .u64 a, .int .u64 b] w fun e w' => e = .returned (.int .i64 (cmpI a b)) ∧ w' = w := by
  rcases cmpI_cases a b with ⟨h, e⟩ | ⟨h, e⟩ | ⟨h, e⟩ <;> rw [e]
  · go_enter Tryd.func114, Tryd.ntmps114
    go_wp2
    go_ret
    exact ⟨rfl, rfl⟩
  · subst h
    go_enter Tryd.func114, Tryd.ntmps114
    go_wp2
    go_ret
    exact ⟨rfl, rfl⟩
  · have h' : ¬ a < b := by omega
    go_enter Tryd.func114, Tryd.ntmps114
    go_wp2
    go_ret
    exact ⟨rfl, rfl⟩

/-- cmp.Or over a row of two numbers. -/
theorem or_two (B : Nat) (a b : Int) (w : World) (c0 : w.cell? ⟨B, 0, none⟩ = some (.int .i64 a)) (c1 : w.cell? ⟨B, 1, none⟩ = some (.int .i64 b)) :
    Calls Tryd.prog 112 #[.slice (some ⟨B, 0, none⟩) 2 2] w fun e w' => e = .returned (.int .i64 (if a ≠ 0 then a else b)) ∧ w' = w := by
  by_cases h : a = 0
  · subst h
    by_cases h2 : b = 0
    · subst h2
      go_enter Tryd.func112, Tryd.ntmps112
      go_wp2
      refine wp_loop_rounds 3 ?_
      rw [rounds_succ]
      go_wp2
      rw [rounds_succ]
      go_wp2
      rw [rounds_succ]
      go_wp2
      go_ret
      exact ⟨rfl, rfl⟩
    · go_enter Tryd.func112, Tryd.ntmps112
      go_wp2
      refine wp_loop_rounds 2 ?_
      rw [rounds_succ]
      go_wp2
      rw [rounds_succ]
      go_wp2
      go_ret
      exact ⟨by simp, rfl⟩
  · go_enter Tryd.func112, Tryd.ntmps112
    go_wp2
    refine wp_loop_rounds 1 ?_
    rw [rounds_succ]
    go_wp2
    go_ret
    exact ⟨by simp [h], rfl⟩
end Go.Proofs.YtfclmbneimbmnaaDoor

/- Contracts: how one is handed on, and whether one may be. -/
import Derived.Test.YthnnbmofpmedhaaGreatSp1
import Derived.Lib.Hide
import Derived.IntWalk
namespace Go.Proofs.YthnnbmofpmedhaaGreat
open Go.RowKit

/-- A contract as it is handed on. -/
def conV (c : Int) (a : Option Addr) (n ca : Nat) (r b : Int) : Value := .agg #[.int .i64 c, .slice a n ca, .int .i64 r, .int .i64 b]
def rngB (n l m : Int) : Bool := decide (l ≤ n) && decide (n ≤ m)
theorem rngB_iff {n l m : Int} : rngB n l m = true ↔ l ≤ n ∧ n ≤ m := by simp [rngB]
def lv1 (b p : Int) : Bool := rngB b 1 1125899906842624 && rngB p 0 7
def lvs (B P : Nat → Int) : Nat → Bool
  | 0 => true
  | k + 1 => lvs B P k && lv1 (B k) (P k)
theorem lvs_le {B P : Nat → Int} {n : Nat} : ∀ {k}, lvs B P n = true → k ≤ n → lvs B P k = true := by
  induction n with
  | zero => intro k h hk; obtain rfl : k = 0 := by omega
            exact h
  | succ n ih =>
    intro k h hk
    by_cases e : k = n + 1
    · subst e; exact h
    · simp only [lvs, Bool.and_eq_true] at h
      exact ih h.1 (by omega)
theorem lvs_at {B P : Nat → Int} {n k : Nat} (h : lvs B P n = true) (hk : k < n) : 1 ≤ B k ∧ B k ≤ 1125899906842624 ∧ 0 ≤ P k ∧ P k ≤ 7 := by
  have h1 := lvs_le h (show k + 1 ≤ n from hk)
  simp only [lvs, lv1, rngB, Bool.and_eq_true, decide_eq_true_eq] at h1
  omega
theorem lvs_bad {B P : Nat → Int} {n k : Nat} (h : lvs B P (k + 1) = false) (hk : k < n) : lvs B P n = false := by
  cases hg : lvs B P n with
  | false => rfl
  | true => rw [lvs_le hg hk] at h; cases h
/-- The head of a contract that may be: its numbers. -/
def headC (c : Int) (n : Nat) (r b : Int) : Bool := rngB c 0 7 && (rngB n 1 6 && (rngB r 1 8 && rngB b 1 1048576))
def goodC (c : Int) (n : Nat) (r b : Int) (B P : Nat → Int) : Bool := headC c n r b && lvs B P n
theorem goodC_n {c : Int} {n : Nat} {r b : Int} {B P : Nat → Int} (h : goodC c n r b B P = true) : 0 ≤ c ∧ c ≤ 7 ∧ 1 ≤ n ∧ n ≤ 6 ∧ lvs B P n = true := by
  simp only [goodC, headC, Bool.and_eq_true, rngB_iff] at h
  obtain ⟨⟨h1, h2, _⟩, h3⟩ := h
  exact ⟨h1.1, h1.2, by omega, by omega, h3⟩

set_option maxRecDepth 100000 in
theorem within_i (n l m : Int) (x : Bool) (hx : rngB n l m = x) (w : World) : Calls Tryz.prog 96 #[.int .i64 n, .int .i64 l, .int .i64 m] w fun e w' => e = .returned (.bool x) ∧ w = w' := by
  subst hx
  unfold rngB
  obtain ⟨x1, h1⟩ : ∃ x, decide (l ≤ n) = x := ⟨_, rfl⟩
  rw [h1]
  cases x1
  all_goals
    go_enter Tryz.func96, Tryz.ntmps96
    go_wp2
    go_ret
    exact ⟨rfl, rfl⟩
set_option maxRecDepth 100000 in
theorem within_l (n l m : Int) (x : Bool) (hx : rngB n l m = x) (w : World) : Calls Tryz.prog 97 #[.int .i64 n, .int .i64 l, .int .i64 m] w fun e w' => e = .returned (.bool x) ∧ w = w' := by
  subst hx
  unfold rngB
  obtain ⟨x1, h1⟩ : ∃ x, decide (l ≤ n) = x := ⟨_, rfl⟩
  rw [h1]
  cases x1
  all_goals
    go_enter Tryz.func97, Tryz.ntmps97
    go_wp2
    go_ret
    exact ⟨rfl, rfl⟩

set_option maxRecDepth 100000 in
set_option maxHeartbeats 4000000 in
theorem check_head (c : Int) (a : Option Addr) (n ca : Nat) (r b : Int) (w : World) (hn : n ≤ maxLen) (h : headC c n r b = false) :
    Calls Tryz.prog 75 #[conV c a n ca r b] w fun e w' => e = .returned (.int .i64 2) ∧ Below w.heap.size w w' := by
  have B1 : Below w.heap.size w (w.alloc (.cells #[.int .i64 c, .slice a n ca, .int .i64 r, .int .i64 b] 80)) := (Below.refl _ _).alloc (Nat.le_refl _) _
  have HB := Lib.hid B1
  unfold headC at h
  unfold maxLen at hn
  obtain ⟨x1, h1⟩ : ∃ x, rngB c 0 7 = x := ⟨_, rfl⟩
  obtain ⟨x2, h2⟩ : ∃ x, rngB n 1 6 = x := ⟨_, rfl⟩
  obtain ⟨x3, h3⟩ : ∃ x, rngB r 1 8 = x := ⟨_, rfl⟩
  obtain ⟨x4, h4⟩ : ∃ x, rngB b 1 1048576 = x := ⟨_, rfl⟩
  rw [h1, h2, h3, h4] at h
  have H1 := Lib.hid (fun w => within_i c 0 7 x1 h1 w)
  have H2 := Lib.hid (fun w => within_i n 1 6 x2 h2 w)
  have H3 := Lib.hid (fun w => within_i r 1 8 x3 h3 w)
  have H4 := Lib.hid (fun w => within_l b 1 1048576 x4 h4 w)
  unfold conV
  clear B1 h1 h2 h3 h4
  cases x1
  · clear h
    go_enter Tryz.func75, Tryz.ntmps75
    go_wp2_with (go_at_call 96; (with_reducible refine (H1.out _).mono ?_); rintro e w' ⟨rfl, rfl⟩)
    go_ret
    exact ⟨rfl, HB.out⟩
  cases x2
  · clear h
    go_enter Tryz.func75, Tryz.ntmps75
    go_wp2_with (go_at_call 96; (first | (with_reducible refine (H1.out _).mono ?_) | (with_reducible refine (H2.out _).mono ?_)); rintro e w' ⟨rfl, rfl⟩)
    go_ret
    exact ⟨rfl, HB.out⟩
  cases x3
  · clear h
    go_enter Tryz.func75, Tryz.ntmps75
    go_wp2_with (go_at_call 96; (first | (with_reducible refine (H1.out _).mono ?_) | (with_reducible refine (H2.out _).mono ?_) | (with_reducible refine (H3.out _).mono ?_)); rintro e w' ⟨rfl, rfl⟩)
    go_ret
    exact ⟨rfl, HB.out⟩
  cases x4
  · clear h
    go_enter Tryz.func75, Tryz.ntmps75
    go_wp2_with (first
      | (go_at_call 96; (first | (with_reducible refine (H1.out _).mono ?_) | (with_reducible refine (H2.out _).mono ?_) | (with_reducible refine (H3.out _).mono ?_)); rintro e w' ⟨rfl, rfl⟩)
      | (go_at_call 97; (with_reducible refine (H4.out _).mono ?_); rintro e w' ⟨rfl, rfl⟩))
    go_ret
    exact ⟨rfl, HB.out⟩
  · cases h
end Go.Proofs.YthnnbmofpmedhaaGreat

/- Rows of spans: whether a list is one, the program's and the reference's. -/
import Derived.Test.YtfeegohjgecjgaaSpA
namespace Go.Proofs.Ytfeegohjgecjgaa
open Go.RowKit

/-- A list of spans that can be read: where each begins and ends. -/
def Sps (w : World) (a : Option Addr) (n : Nat) (F T : Nat → Int) : Prop := n ≤ maxLen ∧
  (0 < n → ∃ ab ao, a = some ⟨ab, ao, none⟩ ∧ ab < w.heap.size ∧ ∀ k, k < n → w.cell? ⟨ab, ao + k * 2, none⟩ = some (.int .i64 (F k)) ∧ w.cell? ⟨ab, ao + k * 2 + 1, none⟩ = some (.int .i64 (T k)) ∧
    (-9223372036854775808 ≤ F k ∧ F k ≤ 9223372036854775807 ∧ -9223372036854775808 ≤ T k ∧ T k ≤ 9223372036854775807))
theorem Sps.kept {w w' : World} {a : Option Addr} {n : Nat} {F T : Nat → Int} (h : Sps w a n F T) (hb : Below w.heap.size w w') : Sps w' a n F T := by
  refine ⟨h.1, fun hp => ?_⟩
  obtain ⟨ab, ao, e, hl, hc⟩ := h.2 hp
  exact ⟨ab, ao, e, Nat.lt_of_lt_of_le hl hb.size, fun k hk => ⟨(hb.cell (p := ⟨ab, ao + k * 2, none⟩) hl).trans (hc k hk).1, (hb.cell (p := ⟨ab, ao + k * 2 + 1, none⟩) hl).trans (hc k hk).2.1, (hc k hk).2.2⟩⟩

theorem Sps.at {w wr : World} {a : Option Addr} {n : Nat} {F T : Nat → Int} (h : Sps w a n F T) (hb : Below w.heap.size w wr) (k : Nat) (hk : k < n) :
    ∃ ab ao, a = some ⟨ab, ao, none⟩ ∧ ab < wr.heap.size ∧ wr.cell? ⟨ab, ao + k * 2, none⟩ = some (.int .i64 (F k)) ∧ wr.cell? ⟨ab, ao + k * 2 + 1, none⟩ = some (.int .i64 (T k)) ∧ -9223372036854775808 ≤ F k ∧ F k ≤ 9223372036854775807 ∧ -9223372036854775808 ≤ T k ∧ T k ≤ 9223372036854775807 := by
  obtain ⟨ab, ao, e, hl, hc⟩ := (h.kept hb).2 (by omega)
  obtain ⟨h1, h2, h3⟩ := hc k hk
  exact ⟨ab, ao, e, hl, h1, h2, h3⟩
def good (F T : Nat → Int) : Nat → Bool
  | 0 => true
  | k + 1 => good F T k && (rightB (F k) (T k) && (k == 0 || decide (T (k - 1) ≤ F k)))
theorem good_le {F T : Nat → Int} {n : Nat} : ∀ {k}, good F T n = true → k ≤ n → good F T k = true := by
  induction n with
  | zero => intro k h hk; obtain rfl : k = 0 := by omega
            exact h
  | succ n ih =>
    intro k h hk
    by_cases e : k = n + 1
    · subst e; exact h
    · simp only [good, Bool.and_eq_true] at h
      exact ih h.1 (by omega)
theorem good_at {F T : Nat → Int} {n k : Nat} (h : good F T n = true) (hk : k < n) : 0 ≤ F k ∧ F k < T k ∧ T k ≤ 1125899906842624 ∧ (k = 0 ∨ T (k - 1) ≤ F k) := by
  have h1 := good_le h (show k + 1 ≤ n from hk)
  simp only [good, Bool.and_eq_true, rightB_iff, Bool.or_eq_true, beq_iff_eq, decide_eq_true_eq] at h1
  omega
theorem good_bad {F T : Nat → Int} {n k : Nat} (h : good F T (k + 1) = false) (hk : k < n) : good F T n = false := by
  cases hg : good F T n with
  | false => rfl
  | true => rw [good_le hg hk] at h; cases h
def endF (T : Nat → Int) : Nat → Int
  | 0 => 0
  | k + 1 => T k
theorem dec_not (a b : Int) : (!decide (a < b)) = decide (b ≤ a) := by
  by_cases h : a < b
  · rw [decide_eq_true h, decide_eq_false (by omega)]; rfl
  · rw [decide_eq_false h, decide_eq_true (by omega)]; rfl
theorem good_step {F T : Nat → Int} {k : Nat} (h : good F T k = true) : good F T (k + 1) = (rightB (F k) (T k) && !decide (F k < endF T k)) := by
  rw [dec_not]
  simp only [good, h, Bool.true_and]
  cases k with
  | zero =>
    cases hr : rightB (F 0) (T 0) with
    | false => rfl
    | true =>
      have := (rightB_iff _ _).1 hr
      have e : endF T 0 = 0 := rfl
      rw [e, decide_eq_true (show 0 ≤ F 0 by omega)]
      rfl
  | succ k =>
    have e : endF T (k + 1) = T k := rfl
    rw [e]
    rfl
/-- Row's number. -/
def rowE (F T : Nat → Int) (n : Nat) : Int := if 32 < n then 21 else if good F T n = true then 0 else 2
theorem rowE_long {F T : Nat → Int} {n : Nat} (h : 32 < n) : rowE F T n = 21 := by simp [rowE, h]
theorem rowE_ok {F T : Nat → Int} {n : Nat} (h : n ≤ 32) (g : good F T n = true) : rowE F T n = 0 := by simp [rowE, g]; omega
theorem rowE_bad {F T : Nat → Int} {n : Nat} (h : n ≤ 32) (g : good F T n = false) : rowE F T n = 2 := by simp [rowE, g]; omega

set_option maxRecDepth 100000 in
set_option maxHeartbeats 4000000 in
theorem row_any (a : Option Addr) (n cap : Nat) (F T : Nat → Int) (w : World) (hS : Sps w a n F T) :
    Calls Try.prog 47 #[.slice a n cap] w fun e w' => e = .returned (.int .i64 (rowE F T n)) ∧ Below w.heap.size w w' := by
  have hm := hS.1
  unfold maxLen at hm
  by_cases hl : 32 < n
  · have d : decide (32 < (n : Int)) = true := by simp; omega
    rw [rowE_long hl]
    go_enter Try.func47, Try.ntmps47
    go_wp2
    go_ret
    exact ⟨rfl, Below.refl _ _⟩
  have d : decide (32 < (n : Int)) = false := by simp; omega
  have HC := Lib.hid hS
  have HL := Lib.hid hl
  clear hS hl
  go_enter Try.func47, Try.ntmps47
  go_wp2
  go_loopw [3, 11] (fun e i wr => ∃ k : Nat, k ≤ n ∧ i = .int .i64 k ∧ e = .int .i64 (endF T k) ∧ good F T k = true ∧ Below w.heap.size w wr) (fun _ i _ => n - (intOf i).toNat)
  case atStart => exact ⟨0, Nat.zero_le _, rfl, rfl, rfl, Below.refl _ _⟩
  case round =>
    obtain ⟨k, hk, rfl, rfl, hg, hB⟩ := hrel
    by_cases hlt : k < n
    · obtain ⟨ab, ao, rfl, hab, c0, c1, b0, b1, b2, b3⟩ := HC.out.at hB k hlt
      have HB := Lib.hid hB
      have HS := Lib.hid hB.size
      have HG := Lib.hid (good_step hg)
      have HT := Lib.hid (show T k = endF T (k + 1) from rfl)
      obtain ⟨f, e0⟩ : ∃ x, F k = x := ⟨_, rfl⟩
      obtain ⟨t, e1⟩ : ∃ x, T k = x := ⟨_, rfl⟩
      obtain ⟨z, e2⟩ : ∃ x, endF T k = x := ⟨_, rfl⟩
      rw [e0] at c0 b0 b1 HG
      rw [e1] at c1 b2 b3 HG HT
      rw [e2] at HG ⊢
      clear hg hB e0 e1 e2
      have k0 : (0 : Int) ≤ (k : Int) := by omega
      have kl : (k : Int) < (n : Int) := by omega
      have d4 : decide ((k : Int) < (n : Int)) = true := by simp [hlt]
      obtain ⟨c, hr⟩ : ∃ c, rightB f t = c := ⟨_, rfl⟩
      obtain ⟨c', hd⟩ : ∃ c, decide (f < z) = c := ⟨_, rfl⟩
      rw [hr, hd] at HG
      cases c
      · go_wp2_with (go_at_call 73; refine (right_any f t _).mono ?_; rintro e w' ⟨rfl, hb⟩)
        go_ret
        exact ⟨ret_int (rowE_bad (by have := HL.out; omega) (good_bad HG.out hlt)).symm, below_call HB.out HS.out hb⟩
      · cases c'
        · go_wp2_with (go_at_call 73; refine (right_any f t _).mono ?_; rintro e w' ⟨rfl, hb⟩; obtain ⟨hc', hf'⟩ := bcell hb)
          go_roundw
          case rel => exact ⟨k + 1, hlt, by go_num, by rw [HT.out], HG.out, below_call HB.out HS.out hb⟩
          case measure => simp [intOf]; omega
        · go_wp2_with (go_at_call 73; refine (right_any f t _).mono ?_; rintro e w' ⟨rfl, hb⟩; obtain ⟨hc', hf'⟩ := bcell hb)
          go_ret
          exact ⟨ret_int (rowE_bad (by have := HL.out; omega) (good_bad HG.out hlt)).symm, below_call HB.out HS.out hb⟩
    · obtain rfl : k = n := by omega
      have HB := Lib.hid hB
      have HG := Lib.hid hg
      clear hB hg
      go_wp2
      go_ret
      exact ⟨ret_int (rowE_ok (by have := HL.out; omega) HG.out).symm, HB.out⟩

end Go.Proofs.Ytfeegohjgecjgaa

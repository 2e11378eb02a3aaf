import Derived.Test.YthnnbmofpmedhaaGreatCa3
import Derived.Deep.RegionHeld3
namespace Go.Proofs.YthnnbmofpmedhaaGreat
open Go.RowKit
/- The reference's count of a calendar. -/
open Go.RowKit
theorem Cal.sv_one (D : Cal) (f t x y : Int) : D.sv (cutOne f t x y) = if mx f x < mn t y then D.V (mn t y) - D.V (mx f x) else 0 := by
  unfold cutOne
  split
  · rw [D.sv_cons]
    show (D.V (mn t y) - D.V (mx f x)) + (0 : Int) = _
    omega
  · rfl
theorem Cal.cut_step {D : Cal} (x y : Int) (hxy : x ≤ y) (hg : Go.Proofs.YthnnbmofpmedhaaGreat.good D.G D.U D.m = true) : ∀ k, k ≤ D.m →
    D.sv (cutL D.G D.U x (y + 1) k) = D.sv (cutL D.G D.U x y k) + if hasB D.G D.U y k = true then D.V (y + 1) - D.V y else 0 := by
  intro k
  induction k with
  | zero => intro _; simp [cutL, Cal.sv, hasB]
  | succ k ih =>
    intro hk
    have h1 := ih (by omega)
    simp only [cutL]
    rw [D.sv_append, D.sv_append, h1, D.sv_one, D.sv_one]
    by_cases hin : D.G k ≤ y ∧ y < D.U k
    · have hno : hasB D.G D.U y k = false := by
        cases hh : hasB D.G D.U y k with
        | false => rfl
        | true =>
          obtain ⟨j, hj, h3, h4⟩ := (hasB_iff k).1 hh
          have := good_order hg k j hj (by omega)
          omega
      have hyes : hasB D.G D.U y (k + 1) = true := has_in (Nat.lt_succ_self k) hin.1 hin.2
      rw [hno, hyes]
      have e1 : mn (D.U k) (y + 1) = y + 1 := by rcases mn_cases (D.U k) (y + 1) with ⟨h3, h4⟩ | ⟨h3, h4⟩ <;> omega
      have e2 : mn (D.U k) y = y := by rcases mn_cases (D.U k) y with ⟨h3, h4⟩ | ⟨h3, h4⟩ <;> omega
      have e3 : mx (D.G k) x ≤ y := by rcases mx_cases (D.G k) x with ⟨h3, h4⟩ | ⟨h3, h4⟩ <;> omega
      rw [e1, e2, if_pos (by omega : mx (D.G k) x < y + 1)]
      simp only [Bool.false_eq_true, if_false, if_true]
      by_cases h5 : mx (D.G k) x < y
      · rw [if_pos h5]; omega
      · rw [if_neg h5, show mx (D.G k) x = y by omega]; all_goals omega
    · have hsame : hasB D.G D.U y (k + 1) = hasB D.G D.U y k := by
        cases hh : hasB D.G D.U y k with
        | true =>
          obtain ⟨j, hj, h3, h4⟩ := (hasB_iff k).1 hh
          exact has_in (by omega) h3 h4
        | false =>
          cases h2 : hasB D.G D.U y (k + 1) with
          | false => rfl
          | true =>
            obtain ⟨j, hj, h3, h4⟩ := (hasB_iff (k + 1)).1 h2
            by_cases e : j = k
            · subst e; omega
            · have h5 := has_in (G := D.G) (U := D.U) (m := k) (i := j) (t := y) (by omega) h3 h4
              rw [hh] at h5
              cases h5
      rw [hsame]
      have e1 : (if mx (D.G k) x < mn (D.U k) (y + 1) then D.V (mn (D.U k) (y + 1)) - D.V (mx (D.G k) x) else 0) = (if mx (D.G k) x < mn (D.U k) y then D.V (mn (D.U k) y) - D.V (mx (D.G k) x) else 0) := by
        by_cases h5 : D.U k ≤ y
        · have e2 : mn (D.U k) (y + 1) = D.U k := by rcases mn_cases (D.U k) (y + 1) with ⟨h3, h4⟩ | ⟨h3, h4⟩ <;> omega
          have e3 : mn (D.U k) y = D.U k := by rcases mn_cases (D.U k) y with ⟨h3, h4⟩ | ⟨h3, h4⟩ <;> omega
          rw [e2, e3]
        · have e4 : y + 1 ≤ mx (D.G k) x := by rcases mx_cases (D.G k) x with ⟨h3, h4⟩ | ⟨h3, h4⟩ <;> omega
          rw [if_neg (by rcases mn_cases (D.U k) (y + 1) with ⟨h3, h4⟩ | ⟨h3, h4⟩ <;> omega), if_neg (by rcases mn_cases (D.U k) y with ⟨h3, h4⟩ | ⟨h3, h4⟩ <;> omega)]
      rw [e1]
      omega
theorem cut_none {G U : Nat → Int} {m : Nat} (x : Int) (hg : good G U m = true) : ∀ k, k ≤ m → cutL G U x x k = [] := by
  intro k
  induction k with
  | zero => intro _; rfl
  | succ k ih =>
    intro hk
    have := (good_at hg (show k < m by omega)).2.1
    simp only [cutL, ih (by omega), List.nil_append]
    unfold cutOne
    rw [if_neg]
    rcases mx_cases (G k) x with ⟨h3, h4⟩ | ⟨h3, h4⟩ <;> rcases mn_cases (U k) x with ⟨h5, h6⟩ | ⟨h5, h6⟩ <;> omega
/-- What the weeks have, less what is closed. -/
theorem Cal.count_cut {D : Cal} (hd : D.ok) {x y : Int} (x0 : 0 ≤ x) (hxy : x ≤ y) (y1 : y ≤ 1125899906842624) : D.V y - D.V x - D.sv (cutL D.G D.U x y D.m) = D.g y - D.g x := by
  obtain ⟨k, rfl⟩ := up_to hxy
  clear hxy
  induction k with
  | zero =>
    simp only [Int.natCast_zero, Int.add_zero]
    rw [cut_none x hd.good _ (Nat.le_refl _)]
    show _ - _ - (0 : Int) = _
    omega
  | succ k ih =>
    have h1 := ih (by omega)
    have h2 := D.cut_step x (x + k) (by omega) hd.good D.m (Nat.le_refl _)
    have h3 := D.V_step hd (x + k) (by omega) (by omega)
    have h4 := D.g_step (x + k) (by omega)
    rw [show x + ((k + 1 : Nat) : Int) = x + k + 1 by omega]
    rw [h2]
    have h6 : D.opB (x + k) = (!hasB D.G D.U (x + k) D.m && openB D.F D.T D.n (x + k - D.off + 604800)) := rfl
    rw [h6] at h4
    cases hh : hasB D.G D.U (x + k) D.m <;> cases ho : openB D.F D.T D.n (x + k - D.off + 604800)
    all_goals
      rw [hh, ho] at h4
      rw [ho] at h3
      simp at h3 h4
      simp
      omega

/- The reference's count and Elapsed. -/
open Go.RowKit
theorem Cal.V_bounds {D : Cal} (hd : D.ok) (t : Int) : 0 ≤ D.V t ∧ D.V t ≤ 2251800000604800 := by
  obtain ⟨_, _, h1, h2⟩ := until_bounds hd.wk (t - D.off + 604800)
  exact ⟨h1, h2⟩
theorem Cal.sv_bounds {D : Cal} (hd : D.ok) : ∀ l : List (Int × Int), (∀ s ∈ l, 0 ≤ s.1 ∧ s.1 < s.2 ∧ s.2 ≤ 1125899906842624) → 0 ≤ D.sv l ∧ D.sv l ≤ l.length * 2251800000604800 := by
  intro l
  induction l with
  | nil => intro _; exact ⟨Int.le_refl 0, by show (0 : Int) ≤ _; simp⟩
  | cons s l ih =>
    intro h
    obtain ⟨h1, h2⟩ := ih (fun r hr => h r (List.mem_cons_of_mem _ hr))
    obtain ⟨h3, h4, h5⟩ := h s (List.mem_cons_self ..)
    have h6 := D.V_mono hd h3 (by omega : s.1 ≤ s.2) h5
    have h7 := (D.V_bounds hd s.1).1
    have h8 := (D.V_bounds hd s.2).2
    rw [D.sv_cons, List.length_cons]
    omega

/- The reference's Elapsed, Due and Rest of a calendar. -/
open Go.RowKit
/- The reference's Due of a calendar. -/
open Go.RowKit
/- CalendarCounts. -/
open Go.RowKit
/-- What is due is one thing. -/
theorem Cal.due_same {D : Cal} {s b v e v' e' : Int} (h : D.Dues s b v e) (h' : D.Dues s b v' e') : v = v' ∧ e = e' := by
  rcases h with ⟨h1, h2, h3⟩ | ⟨s0, s1, h1, h2, h3⟩ | ⟨s0, s1, h1, h2, h3, h4⟩ | ⟨s0, s1, h1, h2, h3⟩
  · rcases h' with ⟨_, g2, g3⟩ | ⟨g0, g1, g2, _, _⟩ | ⟨g0, g1, g2, _, _, _⟩ | ⟨g0, g1, g2, _, _⟩
    · exact ⟨by omega, by omega⟩
    · omega
    · omega
    · omega
  · rcases h' with ⟨g1, _, _⟩ | ⟨_, _, _, g2, g3⟩ | ⟨_, _, g2, _, _, _⟩ | ⟨_, _, g2, _, _⟩
    · omega
    · exact ⟨by omega, by omega⟩
    · omega
    · omega
  · rcases h' with ⟨g1, _, _⟩ | ⟨_, _, g1, _, _⟩ | ⟨_, _, _, _, g2, g3⟩ | ⟨_, _, _, g2, _⟩
    · omega
    · omega
    · exact ⟨by omega, by omega⟩
    · exact absurd h2 g2
  · rcases h' with ⟨g1, _, _⟩ | ⟨_, _, g1, _, _⟩ | ⟨_, _, _, g2, _, _⟩ | ⟨_, _, _, _, g3⟩
    · omega
    · omega
    · exact absurd g2 h2
    · unfold Cal.DueIs at h3 g3
      generalize eH : (1125899906842624 : Int) = H at h3 g3
      rcases h3 with ⟨h3, h4, h5⟩ | ⟨h3, h4, h5, h6, h7⟩
      · rcases g3 with ⟨g3, g4, g5⟩ | ⟨g3, g4, g5, g6, g7⟩
        · exact ⟨by omega, by omega⟩
        · have h9 := D.g_mono (a := v') (b := H) (by omega) g7
          omega
      · rcases g3 with ⟨g3, g4, g5⟩ | ⟨g3, g4, g5, g6, g7⟩
        · have h9 := D.g_mono (a := v) (b := H) (by omega) h7
          omega
        · refine ⟨?_, by omega⟩
          have h9 := D.g_step (v - 1) (by omega)
          rw [h5, show v - 1 + 1 = v by omega] at h9
          have h10 := D.g_step (v' - 1) (by omega)
          rw [g5, show v' - 1 + 1 = v' by omega] at h10
          simp only [if_true] at h9 h10
          rcases Int.lt_trichotomy v v' with hc | hc | hc
          · have := D.g_mono (a := v) (b := v' - 1) (by omega) (by omega)
            omega
          · exact hc
          · have := D.g_mono (a := v') (b := v - 1) (by omega) (by omega)
            omega
/-- Elapsed and Rest, both ways, with one answer. -/
def El (D : Cal) (x y v e : Int) : Prop := (instB x = true ∧ instB y = true ∧ x ≤ y ∧ v = D.g y - D.g x ∧ e = 0) ∨ (¬ (instB x = true ∧ instB y = true ∧ x ≤ y) ∧ v = 0 ∧ e = 2)
end Go.Proofs.YthnnbmofpmedhaaGreat

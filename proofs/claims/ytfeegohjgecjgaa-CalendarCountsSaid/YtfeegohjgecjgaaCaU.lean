/- The reference's count of a calendar. -/
import Derived.Test.YtfeegohjgecjgaaCaI
namespace Go.Proofs.Ytfeegohjgecjgaa
open Go.RowKit
theorem Cal.sv_one (D : Cal) (f t x y : Int) : D.sv (cutOne f t x y) = if mx f x < mn t y then D.V (mn t y) - D.V (mx f x) else 0 := by
  unfold cutOne
  split
  · rw [D.sv_cons]
    show (D.V (mn t y) - D.V (mx f x)) + (0 : Int) = _
    omega
  · rfl
theorem Cal.cut_step {D : Cal} (x y : Int) (hxy : x ≤ y) (hg : Go.Proofs.Ytfeegohjgecjgaa.good D.G D.U D.m = true) : ∀ k, k ≤ D.m →
    D.sv (cutL D.G D.U x (y + 1) k) = D.sv (cutL D.G D.U x y k) + if hasB D.G D.U y k = true then D.V (y + 1) - D.V y else 0 := by
  intro k
  induction k with
  | zero => intro _; simp [cutL, Cal.sv, hasB]
  | succ k ih =>
    intro hk
    have h1 := ih (by omega)
    simp only [cutL]
    rw [D.sv_append, D.sv_append, h1, D.sv_one, D.sv_one]
    by_cases hin : D.G k ≤ y ∧ y < D.U k
    · have hno : hasB D.G D.U y k = false := by
        cases hh : hasB D.G D.U y k with
        | false => rfl
        | true =>
          obtain ⟨j, hj, h3, h4⟩ := (hasB_iff k).1 hh
          have := good_order hg k j hj (by omega)
          omega
      have hyes : hasB D.G D.U y (k + 1) = true := has_in (Nat.lt_succ_self k) hin.1 hin.2
      rw [hno, hyes]
      have e1 : mn (D.U k) (y + 1) = y + 1 := by rcases mn_cases (D.U k) (y + 1) with ⟨h3, h4⟩ | ⟨h3, h4⟩ <;> omega
      have e2 : mn (D.U k) y = y := by rcases mn_cases (D.U k) y with ⟨h3, h4⟩ | ⟨h3, h4⟩ <;> omega
      have e3 : mx (D.G k) x ≤ y := by rcases mx_cases (D.G k) x with ⟨h3, h4⟩ | ⟨h3, h4⟩ <;> omega
      rw [e1, e2, if_pos (by omega : mx (D.G k) x < y + 1)]
      simp only [Bool.false_eq_true, if_false, if_true]
      by_cases h5 : mx (D.G k) x < y
      · rw [if_pos h5]; omega
      · rw [if_neg h5, show mx (D.G k) x = y by omega]; all_goals omega
    · have hsame : hasB D.G D.U y (k + 1) = hasB D.G D.U y k := by
        cases hh : hasB D.G D.U y k with
        | true =>
          obtain ⟨j, hj, h3, h4⟩ := (hasB_iff k).1 hh
          exact has_in (by omega) h3 h4
        | false =>
          cases h2 : hasB D.G D.U y (k + 1) with
          | false => rfl
          | true =>
            obtain ⟨j, hj, h3, h4⟩ := (hasB_iff (k + 1)).1 h2
            by_cases e : j = k
            · subst e; omega
            · have h5 := has_in (G := D.G) (U := D.U) (m := k) (i := j) (t := y) (by omega) h3 h4
              rw [hh] at h5
              cases h5
      rw [hsame]
      have e1 : (if mx (D.G k) x < mn (D.U k) (y + 1) then D.V (mn (D.U k) (y + 1)) - D.V (mx (D.G k) x) else 0) = (if mx (D.G k) x < mn (D.U k) y then D.V (mn (D.U k) y) - D.V (mx (D.G k) x) else 0) := by
        by_cases h5 : D.U k ≤ y
        · have e2 : mn (D.U k) (y + 1) = D.U k := by rcases mn_cases (D.U k) (y + 1) with ⟨h3, h4⟩ | ⟨h3, h4⟩ <;> omega
          have e3 : mn (D.U k) y = D.U k := by rcases mn_cases (D.U k) y with ⟨h3, h4⟩ | ⟨h3, h4⟩ <;> omega
          rw [e2, e3]
        · have e4 : y + 1 ≤ mx (D.G k) x := by rcases mx_cases (D.G k) x with ⟨h3, h4⟩ | ⟨h3, h4⟩ <;> omega
          rw [if_neg (by rcases mn_cases (D.U k) (y + 1) with ⟨h3, h4⟩ | ⟨h3, h4⟩ <;> omega), if_neg (by rcases mn_cases (D.U k) y with ⟨h3, h4⟩ | ⟨h3, h4⟩ <;> omega)]
      rw [e1]
      omega
theorem cut_none {G U : Nat → Int} {m : Nat} (x : Int) (hg : good G U m = true) : ∀ k, k ≤ m → cutL G U x x k = [] := by
  intro k
  induction k with
  | zero => intro _; rfl
  | succ k ih =>
    intro hk
    have := (good_at hg (show k < m by omega)).2.1
    simp only [cutL, ih (by omega), List.nil_append]
    unfold cutOne
    rw [if_neg]
    rcases mx_cases (G k) x with ⟨h3, h4⟩ | ⟨h3, h4⟩ <;> rcases mn_cases (U k) x with ⟨h5, h6⟩ | ⟨h5, h6⟩ <;> omega
/-- What the weeks have, less what is closed. -/
theorem Cal.count_cut {D : Cal} (hd : D.ok) {x y : Int} (x0 : 0 ≤ x) (hxy : x ≤ y) (y1 : y ≤ 1125899906842624) : D.V y - D.V x - D.sv (cutL D.G D.U x y D.m) = D.g y - D.g x := by
  obtain ⟨k, rfl⟩ := up_to hxy
  clear hxy
  induction k with
  | zero =>
    simp only [Int.natCast_zero, Int.add_zero]
    rw [cut_none x hd.good _ (Nat.le_refl _)]
    show _ - _ - (0 : Int) = _
    omega
  | succ k ih =>
    have h1 := ih (by omega)
    have h2 := D.cut_step x (x + k) (by omega) hd.good D.m (Nat.le_refl _)
    have h3 := D.V_step hd (x + k) (by omega) (by omega)
    have h4 := D.g_step (x + k) (by omega)
    rw [show x + ((k + 1 : Nat) : Int) = x + k + 1 by omega]
    rw [h2]
    have h6 : D.opB (x + k) = (!hasB D.G D.U (x + k) D.m && openB D.F D.T D.n (x + k - D.off + 604800)) := rfl
    rw [h6] at h4
    cases hh : hasB D.G D.U (x + k) D.m <;> cases ho : openB D.F D.T D.n (x + k - D.off + 604800)
    all_goals
      rw [hh, ho] at h4
      rw [ho] at h3
      simp at h3 h4
      simp
      omega

set_option maxRecDepth 100000 in
set_option maxHeartbeats 4000000 in
theorem rweekly {D : Cal} (hd : D.ok) (a : Option Addr) (ca : Nat) (b : Option Addr) (cb : Nat) (x y : Int) (w : World) (hS : Sps w a D.n D.F D.T) (x0 : 0 ≤ x) (hxy : x ≤ y) (y1 : y ≤ 1125899906842624) :
    Calls Try.prog 83 #[calV D.off a D.n ca b D.m cb, .int .i64 x, .int .i64 y] w fun e w' => e = .returned (.int .i64 (D.V y - D.V x)) ∧ Below w.heap.size w w' := by
  have o0 := hd.off0
  have o1 := hd.off1
  have hmo := D.V_mono hd x0 hxy y1
  have hbt := rbetween_any a D.n ca D.F D.T (x - D.off + 604800) (y - D.off + 604800) (w.alloc (.cells #[.int .i64 D.off, .slice a D.n ca, .slice b D.m cb] 53)) (hS.kept ((Below.refl _ _).alloc (Nat.le_refl _) _)) hd.wk
  have ev : betweenV D.F D.T D.n (x - D.off + 604800) (y - D.off + 604800) = D.V y - D.V x := by
    show max 0 (D.V y - D.V x) = _
    omega
  rw [ev] at hbt
  obtain ⟨off, ho⟩ : ∃ o, D.off = o := ⟨_, rfl⟩
  have B1 : Below w.heap.size w (w.alloc (.cells #[.int .i64 off, .slice a D.n ca, .slice b D.m cb] 53)) := (Below.refl _ _).alloc (Nat.le_refl _) _
  have c0 : (w.alloc (.cells #[.int .i64 off, .slice a D.n ca, .slice b D.m cb] 53)).cell? ⟨w.heap.size, 0, none⟩ = some (.int .i64 off) := by simp
  have c1 : (w.alloc (.cells #[.int .i64 off, .slice a D.n ca, .slice b D.m cb] 53)).cell? ⟨w.heap.size, 1, none⟩ = some (.slice a D.n ca) := by simp
  have HB1 := Lib.hid B1
  rw [ho] at hbt o0 o1 ⊢
  have e1 : IntKind.i64.wrap (x - off) = x - off := IntWalk.i64_in _ (by omega)
  have e2 : IntKind.i64.wrap (x - off + 604800) = x - off + 604800 := IntWalk.i64_in _ (by omega)
  have e3 : IntKind.i64.wrap (y - off) = y - off := IntWalk.i64_in _ (by omega)
  have e4 : IntKind.i64.wrap (y - off + 604800) = y - off + 604800 := IntWalk.i64_in _ (by omega)
  obtain ⟨r, er⟩ : ∃ r, D.V y - D.V x = r := ⟨_, rfl⟩
  rw [er] at hbt ⊢
  unfold calV
  clear hd hS B1 ho ev er hmo
  go_enter Try.func83, Try.ntmps83
  go_wp2_with fail
  refine hbt.mono ?_
  rintro e w2 ⟨rfl, hb2⟩
  have HB2 := Lib.hid (HB1.out.trans (hb2.mono HB1.out.size))
  clear hbt hb2
  go_wp2_with fail
  go_ret
  exact ⟨rfl, HB2.out⟩
end Go.Proofs.Ytfeegohjgecjgaa

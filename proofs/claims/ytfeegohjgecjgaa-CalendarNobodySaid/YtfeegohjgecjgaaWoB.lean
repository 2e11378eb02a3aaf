/- Where the plan's sums lie. -/
import Derived.Test.YtfeegohjgecjgaaWkB
namespace Go.Proofs.Ytfeegohjgecjgaa
open Go.RowKit

/-- The sums that the plan's cell holds lie not in block N. -/
def Ap (C N : Nat) (w : World) : Prop := ∀ x n c, w.cell? ⟨C, 4, none⟩ = some (.slice (some x) n c) → x.block ≠ N
theorem Pl.ap {base P C : Nat} {a : Option Addr} {n c : Nat} {F T : Nat → Int} {w : World} (h : Pl base P C a n c F T w) {N : Nat} (hN : w.heap.size ≤ N) : Ap C N w := by
  intro x n' c' hx
  rcases h.cel with ⟨k, hc⟩ | ⟨g, vc, k, hc, _, hl, _⟩
  · rw [hc.value] at hx; cases hx
  · rw [hc.value] at hx
    injection hx with hx
    injection hx with hx
    injection hx with hx
    subst hx
    show g ≠ N
    omega
theorem Ap.kept {C N : Nat} {w w' : World} (h : Ap C N w) (hC : C < w.heap.size) (hb : Below w.heap.size w w') : Ap C N w' := by
  intro x n c hx
  rw [hb.cell (p := ⟨C, 4, none⟩) hC] at hx
  exact h x n c hx
set_option maxRecDepth 100000 in
theorem get_planG {base P C : Nat} {a : Option Addr} {n c : Nat} {F T : Nat → Int} {w : World} (h : Pl base P C a n c F T w) (hn : n ≤ 32) (hg : good F T n = true) :
    Calls Try.prog 84 #[.pointer (some ⟨C, 0, none⟩)] w (fun e w' => Asked base P C a n c F T w e w' ∧ ∀ N, N < w.heap.size → Ap C N w → Ap C N w') := by
  rcases h.cel with ⟨k, hc⟩ | ⟨g, vc, k, hc, hgc, hgl, hk⟩
  · have oB := atBuild_only C (wrap64 (k + 1)) w
    have szB := atBuild_size C (wrap64 (k + 1)) w
    have hrow : (atBuild C (wrap64 (k + 1)) w).cell? ⟨P, 0, none⟩ = some (.slice a n c) := (oB.cell (p := ⟨P, 0, none⟩) h.ltP h.ne).trans h.row
    have hsum := sums_any P a n c F T _ hrow (h.sps.only oB h.far) hn hg
    have hgf := get_fn 79 ⟨P, 0, none⟩ C (.slice none 0 0) (n + 1) 0 k (wrap64 (k + 1)) w
      (fun va vc w' => ∃ g, va = some ⟨g, 0, none⟩ ∧ w.heap.size ≤ g ∧ g < w'.heap.size ∧ (∀ j, j ≤ n → w'.cell? ⟨g, j, none⟩ = some (.int .i64 (tsum F T j))) ∧ Below w.heap.size (atBuild C (wrap64 (k + 1)) w) w') rfl
      (fun _ => rfl) hc
      (hsum.mono (by
        rintro e w' ⟨g, vc, rfl, h1, h2, h3, h4⟩
        rw [szB] at h1 h4
        exact ⟨_, _, rfl, h4.block C h.lt, g, rfl, h1, h2, h3, h4⟩))
    refine hgf.mono ?_
    rintro e w' ⟨va, vc, rfl, hC', w2, ⟨g, rfl, h1, h2, h3, h4⟩, o2, sz2⟩
    have o3 : Only (· = C) w w' := oB.trans ((Only.below (szB ▸ h4)).trans o2)
    have hgC : g ≠ C := by have := h.lt; omega
    have hk' : ∀ j, j ≤ n → w'.cell? ⟨g, j, none⟩ = some (.int .i64 (tsum F T j)) := fun j hj => (o2.cell (p := ⟨g, j, none⟩) h2 hgC).trans (h3 j hj)
    exact ⟨⟨g, vc, rfl, hk', ⟨h.hP, h.hC, h.ne, Nat.lt_of_lt_of_le h.lt o3.size, (o3.cell (p := ⟨P, 0, none⟩) h.ltP h.ne).trans h.row, (o3.cell (p := ⟨P, 1, none⟩) h.ltP h.ne).trans h.bef, h.sps.only o3 h.far, h.far, .inr ⟨g, vc, _, hC', hgC, by omega, hk'⟩⟩, o3⟩, fun N hN _ x n' c' hx => by
        rw [hC'.value] at hx
        injection hx with hx
        injection hx with hx
        injection hx with hx
        subst hx
        show g ≠ N
        omega⟩
  · refine (get_again C .nilFunc (some ⟨g, 0, none⟩) (n + 1) vc 1 k (wrap64 (k + 1)) w rfl hc).mono ?_
    rintro e w' ⟨rfl, hC', o3, sz⟩
    have hk' : ∀ j, j ≤ n → w'.cell? ⟨g, j, none⟩ = some (.int .i64 (tsum F T j)) := fun j hj => (o3.cell (p := ⟨g, j, none⟩) hgl hgc).trans (hk j hj)
    exact ⟨⟨g, vc, rfl, hk', ⟨h.hP, h.hC, h.ne, Nat.lt_of_lt_of_le h.lt o3.size, (o3.cell (p := ⟨P, 0, none⟩) h.ltP h.ne).trans h.row, (o3.cell (p := ⟨P, 1, none⟩) h.ltP h.ne).trans h.bef, h.sps.only o3 h.far, h.far, .inr ⟨g, vc, _, hC', hgc, by omega, hk'⟩⟩, o3⟩, fun N hN ha x n' c' hx => by
        rw [hC'.value] at hx
        injection hx with hx
        injection hx with hx
        injection hx with hx
        subst hx
        exact ha _ _ _ hc.value⟩

set_option maxRecDepth 100000 in
set_option maxHeartbeats 4000000 in
theorem total_anyG {base P C : Nat} {a : Option Addr} {n c : Nat} {F T : Nat → Int} {w : World} (h : Pl base P C a n c F T w) (hn : n ≤ 32) (hg : good F T n = true) :
    Calls Try.prog 66 #[.pointer (some ⟨P, 0, none⟩)] w (fun e w' => Told base P C a n c F T (.int .i64 (tsum F T n)) w e w' ∧ ∀ N, N < w.heap.size → Ap C N w → Ap C N w') := by
  have hcr := created_yes P C w h.bef
  have e1 := h.bef
  have e2 := h.row
  have HG := Lib.hid (get_planG (h.kept (Below.refl _ _).drew) hn hg)
  have n0 : (0 : Int) ≤ (n : Int) := by omega
  have n1 : (n : Int) < (n : Int) + 1 := by omega
  have n2 : n < n + 1 := by omega
  clear h
  go_enter Try.func66, Try.ntmps66
  go_wp2_with fail
  refine hcr.mono ?_
  rintro e w' ⟨rfl, rfl⟩
  clear hcr
  go_wp2_with fail
  -- REGION
  have h0 : w.drew.cell? ⟨P, 1, none⟩ = some (.pointer (some ⟨C, 0, none⟩)) ∧ w.drew.cell? ⟨P, 0, none⟩ = some (.slice a n c) := ⟨e1, e2⟩
  refine wp_region_held_drew (S := (fun w' => w'.cell? ⟨P, 1, none⟩ = some (.pointer (some ⟨C, 0, none⟩)) ∧ w'.cell? ⟨P, 0, none⟩ = some (.slice a n c))) (by kernel_rfl) h0 (fun hHeld => ?_)
  refine wpAnyH_take (i := 0) (v := ?_) rfl (by kernel_rfl) (by kernel_rfl) (by kernel_rfl) (fun _ _ _ h => h) (Or.inl ⟨by rfl, ?_⟩) (by assumption) ?_
  case refine_2 => (intro w1 hS1; (try dsimp only at hS1); go_simp; try with_reducible rfl)
  try simp only [List.getElem_toArray, List.getElem_cons_zero, List.getElem_cons_succ, Act.put, List.setIfInBounds_toArray, List.set_cons_zero, List.set_cons_succ]
  refine wpAnyH_take (i := 1) (v := ?_) rfl (by kernel_rfl) (by kernel_rfl) (by kernel_rfl) (fun _ _ _ h => h) (Or.inl ⟨by rfl, ?_⟩) (by assumption) ?_
  case refine_2 => (intro w1 hS1; (try dsimp only at hS1); go_simp; try with_reducible rfl)
  try simp only [List.getElem_toArray, List.getElem_cons_zero, List.getElem_cons_succ, Act.put, List.setIfInBounds_toArray, List.set_cons_zero, List.set_cons_succ]
  refine wpAnyH_take (i := 2) (v := ?_) rfl (by kernel_rfl) (by kernel_rfl) (by kernel_rfl) (fun _ _ _ h => h) (Or.inl ⟨by rfl, ?_⟩) (by assumption) ?_
  case refine_2 => (intro w1 hS1; (try dsimp only at hS1); go_simp; try with_reducible rfl)
  try simp only [List.getElem_toArray, List.getElem_cons_zero, List.getElem_cons_succ, Act.put, List.setIfInBounds_toArray, List.set_cons_zero, List.set_cons_succ]
  refine wpAnyH_take (i := 3) (v := ?_) rfl (by kernel_rfl) (by kernel_rfl) (by kernel_rfl) (fun _ _ _ h => h) (Or.inl ⟨by rfl, ?_⟩) (by assumption) ?_
  case refine_2 => (intro w1 hS1; (try dsimp only at hS1); go_simp; try with_reducible rfl)
  try simp only [List.getElem_toArray, List.getElem_cons_zero, List.getElem_cons_succ, Act.put, List.setIfInBounds_toArray, List.set_cons_zero, List.set_cons_succ]
  refine wpAnyH_take (i := 5) (v := ?_) rfl (by kernel_rfl) (by kernel_rfl) (by kernel_rfl) (fun _ _ _ h => h) (Or.inl ⟨by rfl, ?_⟩) (by assumption) ?_
  case refine_2 => (intro w1 hS1; (try dsimp only at hS1); go_simp; try with_reducible rfl)
  try simp only [List.getElem_toArray, List.getElem_cons_zero, List.getElem_cons_succ, Act.put, List.setIfInBounds_toArray, List.set_cons_zero, List.set_cons_succ]
  refine wpAnyH_take (i := 6) (v := ?_) rfl (by kernel_rfl) (by kernel_rfl) (by kernel_rfl) (fun _ _ _ h => h) (Or.inl ⟨by rfl, ?_⟩) (by assumption) ?_
  case refine_2 => (intro w1 hS1; (try dsimp only at hS1); go_simp; try with_reducible rfl)
  try simp only [List.getElem_toArray, List.getElem_cons_zero, List.getElem_cons_succ, Act.put, List.setIfInBounds_toArray, List.set_cons_zero, List.set_cons_succ]
  refine wpAnyH_take (i := 7) (v := ?_) rfl (by kernel_rfl) (by kernel_rfl) (by kernel_rfl) (fun _ _ _ h => h) (Or.inl ⟨by rfl, ?_⟩) (by assumption) ?_
  case refine_2 => (intro w1 hS1; (try dsimp only at hS1); go_simp; try with_reducible rfl)
  try simp only [List.getElem_toArray, List.getElem_cons_zero, List.getElem_cons_succ, Act.put, List.setIfInBounds_toArray, List.set_cons_zero, List.set_cons_succ]
  refine wpAnyH_take (i := 8) (v := ?_) rfl (by kernel_rfl) (by kernel_rfl) (by kernel_rfl) (fun _ _ _ h => h) (Or.inl ⟨by rfl, ?_⟩) (by assumption) ?_
  case refine_2 => (intro w1 hS1; (try dsimp only at hS1); go_simp; try with_reducible rfl)
  try simp only [List.getElem_toArray, List.getElem_cons_zero, List.getElem_cons_succ, Act.put, List.setIfInBounds_toArray, List.set_cons_zero, List.set_cons_succ]
  refine wpAnyH_take (i := 9) (v := ?_) rfl (by kernel_rfl) (by kernel_rfl) (by kernel_rfl) (fun _ _ _ h => h) (Or.inl ⟨by rfl, ?_⟩) (by assumption) ?_
  case refine_2 => (intro w1 hS1; (try dsimp only at hS1); go_simp; try with_reducible rfl)
  try simp only [List.getElem_toArray, List.getElem_cons_zero, List.getElem_cons_succ, Act.put, List.setIfInBounds_toArray, List.set_cons_zero, List.set_cons_succ]
  refine wpAnyH_ready (rs := [4]) (by kernel_rfl) (by simp) ?_
  refine AllReadyH.cons rfl (fun K hK => ?_) AllReadyH.nil
  go_simp
  refine HG.out.mono ?_; rintro e w8 ⟨⟨g, vc, rfl, hk8, hP8, hO8⟩, hA8⟩; have HA8 := Lib.hid hA8; clear hA8; have hS8 := And.intro hP8.bef hP8.row; have hkn := hk8 n (Nat.le_refl _); have HP8 := Lib.hid hP8; have HO8 := Lib.hid hO8; clear hk8 hP8 hO8
  refine hK.out _ _ (hS8) (fun hHeld => ?_)
  clear hK K
  try simp only [List.getElem_toArray, List.getElem_cons_zero, List.getElem_cons_succ, Act.put, List.setIfInBounds_toArray, List.set_cons_zero, List.set_cons_succ]
  refine wpAnyH_take (i := 10) (v := ?_) rfl (by kernel_rfl) (by kernel_rfl) (by kernel_rfl) (fun _ _ _ h => h) (Or.inl ⟨by rfl, ?_⟩) (by assumption) ?_
  case refine_2 => (intro w1 hS1; (try dsimp only at hS1); go_simp; try with_reducible rfl)
  try simp only [List.getElem_toArray, List.getElem_cons_zero, List.getElem_cons_succ, Act.put, List.setIfInBounds_toArray, List.set_cons_zero, List.set_cons_succ]
  refine wpAnyH_ready (rs := [11]) (by kernel_rfl) (by simp) ?_
  refine AllReadyH.cons rfl (fun K hK => ?_) AllReadyH.nil
  go_simp
  refine hK.out _ _ (by assumption) (fun hHeld => ?_)
  clear hK K
  try simp only [List.getElem_toArray, List.getElem_cons_zero, List.getElem_cons_succ, Act.put, List.setIfInBounds_toArray, List.set_cons_zero, List.set_cons_succ]
  refine wpAnyH_take (i := 12) (v := ?_) rfl (by kernel_rfl) (by kernel_rfl) (by kernel_rfl) (fun _ _ _ h => h) (Or.inl ⟨by rfl, ?_⟩) (by assumption) ?_
  case refine_2 => (intro w1 hS1; (try dsimp only at hS1); go_simp; try with_reducible rfl)
  try simp only [List.getElem_toArray, List.getElem_cons_zero, List.getElem_cons_succ, Act.put, List.setIfInBounds_toArray, List.set_cons_zero, List.set_cons_succ]
  refine wpAnyH_done (by kernel_rfl) ?_ _
  all_goals
    go_wp2_with fail
    go_ret
    exact ⟨⟨rfl, HP8.out, (Only.refl _ _).drew.trans HO8.out⟩, HA8.out⟩

end Go.Proofs.Ytfeegohjgecjgaa

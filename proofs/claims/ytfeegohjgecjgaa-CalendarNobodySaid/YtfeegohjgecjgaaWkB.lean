/- A plan in memory; its cell asked; created, Total. -/
import Derived.Test.YtfeegohjgecjgaaWkA
import Derived.Test.YtfeegohjgecjgaaSpI
import Derived.Deep.RegionHeld3
namespace Go.Proofs.Ytfeegohjgecjgaa
open Go.RowKit

/-- A plan that New made: its block P, its cell's C. -/
structure Pl (base P C : Nat) (a : Option Addr) (n c : Nat) (F T : Nat → Int) (w : World) : Prop where
  hP : base ≤ P
  hC : base ≤ C
  ne : P ≠ C
  lt : C < w.heap.size
  row : w.cell? ⟨P, 0, none⟩ = some (.slice a n c)
  bef : w.cell? ⟨P, 1, none⟩ = some (.pointer (some ⟨C, 0, none⟩))
  sps : Sps w a n F T
  far : ∀ x, 0 < n → a = some x → x.block ≠ C
  cel : (∃ k, Cel C (.func (.func 79) #[.pointer (some ⟨P, 0, none⟩)] #[]) 0 (.slice none 0 0) 0 k w) ∨
    (∃ g vc k, Cel C .nilFunc 1 (.slice (some ⟨g, 0, none⟩) (n + 1) vc) 1 k w ∧ g ≠ C ∧ g < w.heap.size ∧ ∀ j, j ≤ n → w.cell? ⟨g, j, none⟩ = some (.int .i64 (tsum F T j)))
theorem Pl.ltP {base P C : Nat} {a : Option Addr} {n c : Nat} {F T : Nat → Int} {w : World} (h : Pl base P C a n c F T w) : P < w.heap.size := (cell_spot h.row).2
theorem Sps.only {X : Nat → Prop} {w w' : World} {a : Option Addr} {n : Nat} {F T : Nat → Int} (h : Sps w a n F T) (o : Only X w w') (hx : ∀ x, 0 < n → a = some x → ¬ X x.block) : Sps w' a n F T := by
  refine ⟨h.1, fun hp => ?_⟩
  obtain ⟨ab, ao, e, hl, hc⟩ := h.2 hp
  have hn : ¬ X ab := hx _ hp e
  exact ⟨ab, ao, e, Nat.lt_of_lt_of_le hl o.size, fun k hk => ⟨(o.cell (p := ⟨ab, ao + k * 2, none⟩) hl hn).trans (hc k hk).1, (o.cell (p := ⟨ab, ao + k * 2 + 1, none⟩) hl hn).trans (hc k hk).2.1, (hc k hk).2.2⟩⟩
theorem Pl.kept {base P C : Nat} {a : Option Addr} {n c : Nat} {F T : Nat → Int} {w w' : World} (h : Pl base P C a n c F T w) (hb : Below w.heap.size w w') : Pl base P C a n c F T w' := by
  refine ⟨h.hP, h.hC, h.ne, Nat.lt_of_lt_of_le h.lt hb.size, (hb.cell (p := ⟨P, 0, none⟩) h.ltP).trans h.row, (hb.cell (p := ⟨P, 1, none⟩) h.ltP).trans h.bef, h.sps.kept hb, h.far, ?_⟩
  rcases h.cel with ⟨k, hc⟩ | ⟨g, vc, k, hc, hg, hl, hk⟩
  · exact .inl ⟨k, hc.of_block (hb.block C h.lt)⟩
  · exact .inr ⟨g, vc, k, hc.of_block (hb.block C h.lt), hg, Nat.lt_of_lt_of_le hl hb.size, fun j hj => (hb.cell (p := ⟨g, j, none⟩) hl).trans (hk j hj)⟩
theorem Pl.drewN {base P C : Nat} {a : Option Addr} {n c : Nat} {F T : Nat → Int} {w : World} (h : Pl base P C a n c F T w) (q : Nat) : Pl base P C a n c F T (w.drewN q) :=
  h.kept ⟨rfl, rfl, rfl, Nat.le_refl _, fun _ _ => rfl⟩

/-- What a question to the plan's cell hands back: the sums. -/
def Asked (base P C : Nat) (a : Option Addr) (n c : Nat) (F T : Nat → Int) (w : World) (e : Ending) (w' : World) : Prop :=
  ∃ g vc, e = .returned (.slice (some ⟨g, 0, none⟩) (n + 1) vc) ∧ (∀ j, j ≤ n → w'.cell? ⟨g, j, none⟩ = some (.int .i64 (tsum F T j))) ∧ Pl base P C a n c F T w' ∧ Only (· = C) w w'
set_option maxRecDepth 100000 in
theorem get_plan {base P C : Nat} {a : Option Addr} {n c : Nat} {F T : Nat → Int} {w : World} (h : Pl base P C a n c F T w) (hn : n ≤ 32) (hg : good F T n = true) :
    Calls Try.prog 84 #[.pointer (some ⟨C, 0, none⟩)] w (Asked base P C a n c F T w) := by
  rcases h.cel with ⟨k, hc⟩ | ⟨g, vc, k, hc, hgc, hgl, hk⟩
  · have oB := atBuild_only C (wrap64 (k + 1)) w
    have szB := atBuild_size C (wrap64 (k + 1)) w
    have hrow : (atBuild C (wrap64 (k + 1)) w).cell? ⟨P, 0, none⟩ = some (.slice a n c) := (oB.cell (p := ⟨P, 0, none⟩) h.ltP h.ne).trans h.row
    have hsum := sums_any P a n c F T _ hrow (h.sps.only oB h.far) hn hg
    have hgf := get_fn 79 ⟨P, 0, none⟩ C (.slice none 0 0) (n + 1) 0 k (wrap64 (k + 1)) w
      (fun va vc w' => ∃ g, va = some ⟨g, 0, none⟩ ∧ w.heap.size ≤ g ∧ g < w'.heap.size ∧ (∀ j, j ≤ n → w'.cell? ⟨g, j, none⟩ = some (.int .i64 (tsum F T j))) ∧ Below w.heap.size (atBuild C (wrap64 (k + 1)) w) w') rfl
      (fun _ => rfl) hc
      (hsum.mono (by
        rintro e w' ⟨g, vc, rfl, h1, h2, h3, h4⟩
        rw [szB] at h1 h4
        exact ⟨_, _, rfl, h4.block C h.lt, g, rfl, h1, h2, h3, h4⟩))
    refine hgf.mono ?_
    rintro e w' ⟨va, vc, rfl, hC', w2, ⟨g, rfl, h1, h2, h3, h4⟩, o2, sz2⟩
    have o3 : Only (· = C) w w' := oB.trans ((Only.below (szB ▸ h4)).trans o2)
    have hgC : g ≠ C := by have := h.lt; omega
    have hk' : ∀ j, j ≤ n → w'.cell? ⟨g, j, none⟩ = some (.int .i64 (tsum F T j)) := fun j hj => (o2.cell (p := ⟨g, j, none⟩) h2 hgC).trans (h3 j hj)
    refine ⟨g, vc, rfl, hk', ⟨h.hP, h.hC, h.ne, Nat.lt_of_lt_of_le h.lt o3.size, (o3.cell (p := ⟨P, 0, none⟩) h.ltP h.ne).trans h.row, (o3.cell (p := ⟨P, 1, none⟩) h.ltP h.ne).trans h.bef, h.sps.only o3 h.far, h.far, .inr ⟨g, vc, _, hC', hgC, by omega, hk'⟩⟩, o3⟩
  · refine (get_again C .nilFunc (some ⟨g, 0, none⟩) (n + 1) vc 1 k (wrap64 (k + 1)) w rfl hc).mono ?_
    rintro e w' ⟨rfl, hC', o3, sz⟩
    have hk' : ∀ j, j ≤ n → w'.cell? ⟨g, j, none⟩ = some (.int .i64 (tsum F T j)) := fun j hj => (o3.cell (p := ⟨g, j, none⟩) hgl hgc).trans (hk j hj)
    exact ⟨g, vc, rfl, hk', ⟨h.hP, h.hC, h.ne, Nat.lt_of_lt_of_le h.lt o3.size, (o3.cell (p := ⟨P, 0, none⟩) h.ltP h.ne).trans h.row, (o3.cell (p := ⟨P, 1, none⟩) h.ltP h.ne).trans h.bef, h.sps.only o3 h.far, h.far, .inr ⟨g, vc, _, hC', hgc, by omega, hk'⟩⟩, o3⟩

theorem created_yes (P C : Nat) (w : World) (h : w.cell? ⟨P, 1, none⟩ = some (.pointer (some ⟨C, 0, none⟩))) : Calls Try.prog 80 #[.pointer (some ⟨P, 0, none⟩)] w fun e w' => e = .returned (.bool true) ∧ w = w' := by
  go_enter Try.func80, Try.ntmps80
  go_wp2
  go_ret
  exact ⟨rfl, rfl⟩
theorem created_nil (w : World) : Calls Try.prog 80 #[.pointer none] w fun e w' => e = .returned (.bool false) ∧ w = w' := by
  go_enter Try.func80, Try.ntmps80
  go_wp2
  go_ret
  exact ⟨rfl, rfl⟩
theorem created_no (P : Nat) (w : World) (h : w.cell? ⟨P, 1, none⟩ = some (.pointer none)) : Calls Try.prog 80 #[.pointer (some ⟨P, 0, none⟩)] w fun e w' => e = .returned (.bool false) ∧ w = w' := by
  go_enter Try.func80, Try.ntmps80
  go_wp2
  go_ret
  exact ⟨rfl, rfl⟩

/-- What a method of the plan leaves behind. -/
def Told (base P C : Nat) (a : Option Addr) (n c : Nat) (F T : Nat → Int) (v : Value) (w : World) (e : Ending) (w' : World) : Prop :=
  e = .returned v ∧ Pl base P C a n c F T w' ∧ Only (· = C) w w'
set_option maxRecDepth 100000 in
set_option maxHeartbeats 4000000 in
theorem total_any {base P C : Nat} {a : Option Addr} {n c : Nat} {F T : Nat → Int} {w : World} (h : Pl base P C a n c F T w) (hn : n ≤ 32) (hg : good F T n = true) :
    Calls Try.prog 66 #[.pointer (some ⟨P, 0, none⟩)] w (Told base P C a n c F T (.int .i64 (tsum F T n)) w) := by
  have hcr := created_yes P C w h.bef
  have e1 := h.bef
  have e2 := h.row
  have HG := Lib.hid (get_plan (h.kept (Below.refl _ _).drew) hn hg)
  have n0 : (0 : Int) ≤ (n : Int) := by omega
  have n1 : (n : Int) < (n : Int) + 1 := by omega
  have n2 : n < n + 1 := by omega
  clear h
  go_enter Try.func66, Try.ntmps66
  go_wp2_with fail
  refine hcr.mono ?_
  rintro e w' ⟨rfl, rfl⟩
  clear hcr
  go_wp2_with fail
  -- REGION
  have h0 : w.drew.cell? ⟨P, 1, none⟩ = some (.pointer (some ⟨C, 0, none⟩)) ∧ w.drew.cell? ⟨P, 0, none⟩ = some (.slice a n c) := ⟨e1, e2⟩
  refine wp_region_held_drew (S := (fun w' => w'.cell? ⟨P, 1, none⟩ = some (.pointer (some ⟨C, 0, none⟩)) ∧ w'.cell? ⟨P, 0, none⟩ = some (.slice a n c))) (by kernel_rfl) h0 (fun hHeld => ?_)
  refine wpAnyH_take (i := 0) (v := ?_) rfl (by kernel_rfl) (by kernel_rfl) (by kernel_rfl) (fun _ _ _ h => h) (Or.inl ⟨by rfl, ?_⟩) (by assumption) ?_
  case refine_2 => (intro w1 hS1; (try dsimp only at hS1); go_simp; try with_reducible rfl)
  try simp only [List.getElem_toArray, List.getElem_cons_zero, List.getElem_cons_succ, Act.put, List.setIfInBounds_toArray, List.set_cons_zero, List.set_cons_succ]
  refine wpAnyH_take (i := 1) (v := ?_) rfl (by kernel_rfl) (by kernel_rfl) (by kernel_rfl) (fun _ _ _ h => h) (Or.inl ⟨by rfl, ?_⟩) (by assumption) ?_
  case refine_2 => (intro w1 hS1; (try dsimp only at hS1); go_simp; try with_reducible rfl)
  try simp only [List.getElem_toArray, List.getElem_cons_zero, List.getElem_cons_succ, Act.put, List.setIfInBounds_toArray, List.set_cons_zero, List.set_cons_succ]
  refine wpAnyH_take (i := 2) (v := ?_) rfl (by kernel_rfl) (by kernel_rfl) (by kernel_rfl) (fun _ _ _ h => h) (Or.inl ⟨by rfl, ?_⟩) (by assumption) ?_
  case refine_2 => (intro w1 hS1; (try dsimp only at hS1); go_simp; try with_reducible rfl)
  try simp only [List.getElem_toArray, List.getElem_cons_zero, List.getElem_cons_succ, Act.put, List.setIfInBounds_toArray, List.set_cons_zero, List.set_cons_succ]
  refine wpAnyH_take (i := 3) (v := ?_) rfl (by kernel_rfl) (by kernel_rfl) (by kernel_rfl) (fun _ _ _ h => h) (Or.inl ⟨by rfl, ?_⟩) (by assumption) ?_
  case refine_2 => (intro w1 hS1; (try dsimp only at hS1); go_simp; try with_reducible rfl)
  try simp only [List.getElem_toArray, List.getElem_cons_zero, List.getElem_cons_succ, Act.put, List.setIfInBounds_toArray, List.set_cons_zero, List.set_cons_succ]
  refine wpAnyH_take (i := 5) (v := ?_) rfl (by kernel_rfl) (by kernel_rfl) (by kernel_rfl) (fun _ _ _ h => h) (Or.inl ⟨by rfl, ?_⟩) (by assumption) ?_
  case refine_2 => (intro w1 hS1; (try dsimp only at hS1); go_simp; try with_reducible rfl)
  try simp only [List.getElem_toArray, List.getElem_cons_zero, List.getElem_cons_succ, Act.put, List.setIfInBounds_toArray, List.set_cons_zero, List.set_cons_succ]
  refine wpAnyH_take (i := 6) (v := ?_) rfl (by kernel_rfl) (by kernel_rfl) (by kernel_rfl) (fun _ _ _ h => h) (Or.inl ⟨by rfl, ?_⟩) (by assumption) ?_
  case refine_2 => (intro w1 hS1; (try dsimp only at hS1); go_simp; try with_reducible rfl)
  try simp only [List.getElem_toArray, List.getElem_cons_zero, List.getElem_cons_succ, Act.put, List.setIfInBounds_toArray, List.set_cons_zero, List.set_cons_succ]
  refine wpAnyH_take (i := 7) (v := ?_) rfl (by kernel_rfl) (by kernel_rfl) (by kernel_rfl) (fun _ _ _ h => h) (Or.inl ⟨by rfl, ?_⟩) (by assumption) ?_
  case refine_2 => (intro w1 hS1; (try dsimp only at hS1); go_simp; try with_reducible rfl)
  try simp only [List.getElem_toArray, List.getElem_cons_zero, List.getElem_cons_succ, Act.put, List.setIfInBounds_toArray, List.set_cons_zero, List.set_cons_succ]
  refine wpAnyH_take (i := 8) (v := ?_) rfl (by kernel_rfl) (by kernel_rfl) (by kernel_rfl) (fun _ _ _ h => h) (Or.inl ⟨by rfl, ?_⟩) (by assumption) ?_
  case refine_2 => (intro w1 hS1; (try dsimp only at hS1); go_simp; try with_reducible rfl)
  try simp only [List.getElem_toArray, List.getElem_cons_zero, List.getElem_cons_succ, Act.put, List.setIfInBounds_toArray, List.set_cons_zero, List.set_cons_succ]
  refine wpAnyH_take (i := 9) (v := ?_) rfl (by kernel_rfl) (by kernel_rfl) (by kernel_rfl) (fun _ _ _ h => h) (Or.inl ⟨by rfl, ?_⟩) (by assumption) ?_
  case refine_2 => (intro w1 hS1; (try dsimp only at hS1); go_simp; try with_reducible rfl)
  try simp only [List.getElem_toArray, List.getElem_cons_zero, List.getElem_cons_succ, Act.put, List.setIfInBounds_toArray, List.set_cons_zero, List.set_cons_succ]
  refine wpAnyH_ready (rs := [4]) (by kernel_rfl) (by simp) ?_
  refine AllReadyH.cons rfl (fun K hK => ?_) AllReadyH.nil
  go_simp
  refine HG.out.mono ?_; rintro e w8 ⟨g, vc, rfl, hk8, hP8, hO8⟩; have hS8 := And.intro hP8.bef hP8.row; have hkn := hk8 n (Nat.le_refl _); have HP8 := Lib.hid hP8; have HO8 := Lib.hid hO8; clear hk8 hP8 hO8
  refine hK.out _ _ (hS8) (fun hHeld => ?_)
  clear hK K
  try simp only [List.getElem_toArray, List.getElem_cons_zero, List.getElem_cons_succ, Act.put, List.setIfInBounds_toArray, List.set_cons_zero, List.set_cons_succ]
  refine wpAnyH_take (i := 10) (v := ?_) rfl (by kernel_rfl) (by kernel_rfl) (by kernel_rfl) (fun _ _ _ h => h) (Or.inl ⟨by rfl, ?_⟩) (by assumption) ?_
  case refine_2 => (intro w1 hS1; (try dsimp only at hS1); go_simp; try with_reducible rfl)
  try simp only [List.getElem_toArray, List.getElem_cons_zero, List.getElem_cons_succ, Act.put, List.setIfInBounds_toArray, List.set_cons_zero, List.set_cons_succ]
  refine wpAnyH_ready (rs := [11]) (by kernel_rfl) (by simp) ?_
  refine AllReadyH.cons rfl (fun K hK => ?_) AllReadyH.nil
  go_simp
  refine hK.out _ _ (by assumption) (fun hHeld => ?_)
  clear hK K
  try simp only [List.getElem_toArray, List.getElem_cons_zero, List.getElem_cons_succ, Act.put, List.setIfInBounds_toArray, List.set_cons_zero, List.set_cons_succ]
  refine wpAnyH_take (i := 12) (v := ?_) rfl (by kernel_rfl) (by kernel_rfl) (by kernel_rfl) (fun _ _ _ h => h) (Or.inl ⟨by rfl, ?_⟩) (by assumption) ?_
  case refine_2 => (intro w1 hS1; (try dsimp only at hS1); go_simp; try with_reducible rfl)
  try simp only [List.getElem_toArray, List.getElem_cons_zero, List.getElem_cons_succ, Act.put, List.setIfInBounds_toArray, List.set_cons_zero, List.set_cons_succ]
  refine wpAnyH_done (by kernel_rfl) ?_ _
  all_goals
    go_wp2_with fail
    go_ret
    exact ⟨rfl, HP8.out, (Only.refl _ _).drew.trans HO8.out⟩
theorem total_nil (w : World) : Calls Try.prog 66 #[.pointer none] w fun e w' => e = .returned (.int .i64 0) ∧ w = w' := by
  have hcr := created_nil w
  go_enter Try.func66, Try.ntmps66
  go_wp2_with fail
  refine hcr.mono ?_
  rintro e w' ⟨rfl, rfl⟩
  go_wp2_with fail
  go_ret
  exact ⟨rfl, rfl⟩
theorem total_no (P : Nat) (w : World) (h : w.cell? ⟨P, 1, none⟩ = some (.pointer none)) : Calls Try.prog 66 #[.pointer (some ⟨P, 0, none⟩)] w fun e w' => e = .returned (.int .i64 0) ∧ w = w' := by
  have hcr := created_no P w h
  go_enter Try.func66, Try.ntmps66
  go_wp2_with fail
  refine hcr.mono ?_
  rintro e w' ⟨rfl, rfl⟩
  go_wp2_with fail
  go_ret
  exact ⟨rfl, rfl⟩
end Go.Proofs.Ytfeegohjgecjgaa

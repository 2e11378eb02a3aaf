/- Check, Open, Same, Plain, both ways. -/
import Derived.Test.YtibjboacjobaoaaGreatMgBC
import Derived.Deep.RegionHeld3
namespace Go.Proofs.YtibjboacjobaoaaGreat
open Go.RowKit
set_option maxRecDepth 100000 in
set_option maxHeartbeats 4000000 in
theorem pcheck (off : Int) (a : Option Addr) (n ca : Nat) (F T : Nat → Int) (b : Option Addr) (m cb : Nat) (G U : Nat → Int) (w : World) (hS : Sps w a n F T) (hR : Sps w b m G U) :
    Calls Tryz.prog 56 #[calV off a n ca b m cb] w fun e w' => e = .returned (.int .i64 (checkE off F T n G U m)) ∧ Below w.heap.size w w' := by
  have B1 : Below w.heap.size w (w.alloc (.cells #[.int .i64 off, .slice a n ca, .slice b m cb] 24)) := (Below.refl _ _).alloc (Nat.le_refl _) _
  have c0 : (w.alloc (.cells #[.int .i64 off, .slice a n ca, .slice b m cb] 24)).cell? ⟨w.heap.size, 0, none⟩ = some (.int .i64 off) := by simp
  have c1 : (w.alloc (.cells #[.int .i64 off, .slice a n ca, .slice b m cb] 24)).cell? ⟨w.heap.size, 1, none⟩ = some (.slice a n ca) := by simp
  have c2 : (w.alloc (.cells #[.int .i64 off, .slice a n ca, .slice b m cb] 24)).cell? ⟨w.heap.size, 2, none⟩ = some (.slice b m cb) := by simp
  have HB1 := Lib.hid B1
  have hnw : Calls Tryz.prog 46 #[calV off a n ca b m cb] (w.alloc (.cells #[.int .i64 off, .slice a n ca, .slice b m cb] 24)) fun e w' => (∃ p, e = .returned (.tuple #[.pointer p, .int .i64 (checkE off F T n G U m)])) ∧ Below (w.alloc (.cells #[.int .i64 off, .slice a n ca, .slice b m cb] 24)).heap.size (w.alloc (.cells #[.int .i64 off, .slice a n ca, .slice b m cb] 24)) w' := by
    by_cases hz : checkE off F T n G U m = 0
    · rw [hz]
      refine (clock_in off a n ca b m cb F T G U _ (hS.kept B1) (hR.kept B1) hz).mono ?_
      rintro e w' ⟨L, rfl, _, _, hb⟩
      exact ⟨⟨_, rfl⟩, hb⟩
    · refine (clock_bad off a n ca F T b m cb G U _ (hS.kept B1) (hR.kept B1) hz).mono ?_
      rintro e w' ⟨rfl, hb⟩
      exact ⟨⟨_, rfl⟩, hb⟩
  generalize checkE off F T n G U m = z at *
  unfold calV at *
  clear hS hR B1
  go_enter Tryz.func56, Tryz.ntmps56
  go_wp2_with fail
  refine hnw.mono ?_
  rintro e w2 ⟨⟨p, rfl⟩, hb⟩
  have HB2 := Lib.hid (HB1.out.trans (hb.mono HB1.out.size))
  clear hnw hb
  go_wp2_with fail
  go_ret
  exact ⟨rfl, HB2.out⟩

/-- The plain calendar of a clock. -/
def PlainOf (L : Loc) (D : Cal) (w : World) (e : Ending) (w' : World) : Prop := ∃ v1 v2, e = .returned (.agg #[.int .i64 D.off, v1, v2]) ∧ OS w' w.heap.size v1 (pairs D.F D.T D.n) ∧ OS w' w.heap.size v2 (pairs D.G D.U D.m) ∧ Ck L D w' ∧ Below w.heap.size w w'
set_option maxRecDepth 100000 in
set_option maxHeartbeats 4000000 in
theorem kept_set3 (W : World) (b : Nat) (v0 v1 v2 : Value) : Kept (fun k => k = b) W (((W.setCell ⟨b, 0, none⟩ v0).setCell ⟨b, 1, none⟩ v1).setCell ⟨b, 2, none⟩ v2) := by
  have h1 : Kept (fun k => k = b) W (W.setCell ⟨b, 0, none⟩ v0) := Kept.setCell _ _ _ rfl
  have h2 : Kept (fun k => k = b) (W.setCell ⟨b, 0, none⟩ v0) ((W.setCell ⟨b, 0, none⟩ v0).setCell ⟨b, 1, none⟩ v1) := Kept.setCell _ _ _ rfl
  have h3 : Kept (fun k => k = b) ((W.setCell ⟨b, 0, none⟩ v0).setCell ⟨b, 1, none⟩ v1) (((W.setCell ⟨b, 0, none⟩ v0).setCell ⟨b, 1, none⟩ v1).setCell ⟨b, 2, none⟩ v2) := Kept.setCell _ _ _ rfl
  exact (h1.trans h2).trans h3
theorem below_set3 (W : World) (b : Nat) (v0 v1 v2 : Value) : Below b W (((W.setCell ⟨b, 0, none⟩ v0).setCell ⟨b, 1, none⟩ v1).setCell ⟨b, 2, none⟩ v2) :=
  (((Below.refl _ _).setCell (p := ⟨b, 0, none⟩) (Nat.le_refl _) _).setCell (p := ⟨b, 1, none⟩) (Nat.le_refl _) _).setCell (p := ⟨b, 2, none⟩) (Nat.le_refl _) _
theorem OS.blocks {w w' : World} {base : Nat} {v : Value} {l : List (Int × Int)} (h : OS w base v l) (hb : ∀ g, base ≤ g → g < w.heap.size → w'.heap[g]? = w.heap[g]?) : OS w' base v l := by
  obtain ⟨h1, h2⟩ := h
  refine ⟨h1, ?_⟩
  rcases h2 with h2 | ⟨g, cap, cur, hv, hg, hh, r⟩
  · exact .inl h2
  · exact .inr ⟨g, cap, cur, hv, hg, by rw [hb g hg (Array.getElem?_eq_some_iff.mp hh).1]; exact hh, r⟩
set_option maxRecDepth 100000 in
set_option maxHeartbeats 4000000 in
theorem cplain {L : Loc} {D : Cal} {w : World} (h : Ck L D w) (hd : D.ok) : Calls Tryz.prog 77 #[.pointer (some ⟨L.K, 0, none⟩)] w (PlainOf L D w) := by
  have B1 : Below w.heap.size w (w.alloc (.cells #[.int .i64 0, .slice none 0 0, .slice none 0 0] 24)) := (Below.refl _ _).alloc (Nat.le_refl _) _
  have hcr := ccreated_yes (h.kept B1)
  have hck := h.kept (B1.drew)
  obtain ⟨off, ho⟩ : ∃ o, D.off = o := ⟨_, rfl⟩
  have HOF := Lib.hid ho
  have h0 : (w.alloc (.cells #[.int .i64 0, .slice none 0 0, .slice none 0 0] 24)).drew.cell? ⟨L.K, 0, none⟩ = some (.pointer (some ⟨L.A, 0, none⟩)) ∧ (w.alloc (.cells #[.int .i64 0, .slice none 0 0, .slice none 0 0] 24)).drew.cell? ⟨L.K, 1, none⟩ = some (.pointer (some ⟨L.P, 0, none⟩)) ∧ (w.alloc (.cells #[.int .i64 0, .slice none 0 0, .slice none 0 0] 24)).drew.cell? ⟨L.K, 2, none⟩ = some (.int .i64 off) := ⟨hck.k0, hck.k1, by rw [hck.k2, ho]⟩
  have HR1 := Lib.hid (row_plan hck.pl hd.wk)
  have HCK := Lib.hid hck
  have HD := Lib.hid hd
  have HB1 := Lib.hid B1
  have HLT := Lib.hid (And.intro h.ltK (show w.heap.size < (w.alloc (.cells #[.int .i64 0, .slice none 0 0, .slice none 0 0] 24)).heap.size by simp))
  have HK0 := Lib.hid h
  have HY : Hid ((w.alloc (.cells #[.int .i64 0, .slice none 0 0, .slice none 0 0] 24)).drew.cell? ⟨w.heap.size, 0, none⟩ = some (.int .i64 0) ∧ (w.alloc (.cells #[.int .i64 0, .slice none 0 0, .slice none 0 0] 24)).drew.cell? ⟨w.heap.size, 1, none⟩ = some (.slice none 0 0) ∧ (w.alloc (.cells #[.int .i64 0, .slice none 0 0, .slice none 0 0] 24)).drew.cell? ⟨w.heap.size, 2, none⟩ = some (.slice none 0 0) ∧
      (w.alloc (.cells #[.int .i64 0, .slice none 0 0, .slice none 0 0] 24)).drew.frozen? ⟨w.heap.size, 0, none⟩ = false ∧ (w.alloc (.cells #[.int .i64 0, .slice none 0 0, .slice none 0 0] 24)).drew.frozen? ⟨w.heap.size, 1, none⟩ = false ∧ (w.alloc (.cells #[.int .i64 0, .slice none 0 0, .slice none 0 0] 24)).drew.frozen? ⟨w.heap.size, 2, none⟩ = false) := Lib.hid ⟨(by simp : (w.alloc (.cells #[.int .i64 0, .slice none 0 0, .slice none 0 0] 24)).cell? ⟨w.heap.size, 0, none⟩ = some (.int .i64 0)), (by simp : (w.alloc (.cells #[.int .i64 0, .slice none 0 0, .slice none 0 0] 24)).cell? ⟨w.heap.size, 1, none⟩ = some (.slice none 0 0)), (by simp : (w.alloc (.cells #[.int .i64 0, .slice none 0 0, .slice none 0 0] 24)).cell? ⟨w.heap.size, 2, none⟩ = some (.slice none 0 0)),
    (by simp : (w.alloc (.cells #[.int .i64 0, .slice none 0 0, .slice none 0 0] 24)).frozen? ⟨w.heap.size, 0, none⟩ = false), (by simp : (w.alloc (.cells #[.int .i64 0, .slice none 0 0, .slice none 0 0] 24)).frozen? ⟨w.heap.size, 1, none⟩ = false), (by simp : (w.alloc (.cells #[.int .i64 0, .slice none 0 0, .slice none 0 0] 24)).frozen? ⟨w.heap.size, 2, none⟩ = false)⟩
  clear h hd ho hck B1
  go_enter Tryz.func77, Tryz.ntmps77
  go_wp2_with fail
  refine hcr.mono ?_
  rintro e w2 ⟨rfl, rfl⟩
  clear hcr
  go_wp2_with fail
  refine wp_region_held_drew (S := (fun w' => w'.cell? ⟨L.K, 0, none⟩ = some (.pointer (some ⟨L.A, 0, none⟩)) ∧ w'.cell? ⟨L.K, 1, none⟩ = some (.pointer (some ⟨L.P, 0, none⟩)) ∧ w'.cell? ⟨L.K, 2, none⟩ = some (.int .i64 off))) (by kernel_rfl) h0 (fun hHeld => ?_)
  refine wpAnyH_take (i := 0) (v := ?_) rfl (by kernel_rfl) (by kernel_rfl) (by kernel_rfl) (fun _ _ _ h => h) (Or.inl ⟨by rfl, ?_⟩) (by assumption) ?_
  case refine_2 => (intro w1 hS1; (try dsimp only at hS1); go_simp; try with_reducible rfl)
  try simp only [List.getElem_toArray, List.getElem_cons_zero, List.getElem_cons_succ, Act.put, List.setIfInBounds_toArray, List.set_cons_zero, List.set_cons_succ]
  refine wpAnyH_take (i := 1) (v := ?_) rfl (by kernel_rfl) (by kernel_rfl) (by kernel_rfl) (fun _ _ _ h => h) (Or.inl ⟨by rfl, ?_⟩) (by assumption) ?_
  case refine_2 => (intro w1 hS1; (try dsimp only at hS1); go_simp; try with_reducible rfl)
  try simp only [List.getElem_toArray, List.getElem_cons_zero, List.getElem_cons_succ, Act.put, List.setIfInBounds_toArray, List.set_cons_zero, List.set_cons_succ]
  refine wpAnyH_take (i := 2) (v := ?_) rfl (by kernel_rfl) (by kernel_rfl) (by kernel_rfl) (fun _ _ _ h => h) (Or.inl ⟨by rfl, ?_⟩) (by assumption) ?_
  case refine_2 => (intro w1 hS1; (try dsimp only at hS1); go_simp; try with_reducible rfl)
  try simp only [List.getElem_toArray, List.getElem_cons_zero, List.getElem_cons_succ, Act.put, List.setIfInBounds_toArray, List.set_cons_zero, List.set_cons_succ]
  refine wpAnyH_take (i := 3) (v := ?_) rfl (by kernel_rfl) (by kernel_rfl) (by kernel_rfl) (fun _ _ _ h => h) (Or.inl ⟨by rfl, ?_⟩) (by assumption) ?_
  case refine_2 => (intro w1 hS1; (try dsimp only at hS1); go_simp; try with_reducible rfl)
  try simp only [List.getElem_toArray, List.getElem_cons_zero, List.getElem_cons_succ, Act.put, List.setIfInBounds_toArray, List.set_cons_zero, List.set_cons_succ]
  refine wpAnyH_take (i := 4) (v := ?_) rfl (by kernel_rfl) (by kernel_rfl) (by kernel_rfl) (fun _ _ _ h => h) (Or.inl ⟨by rfl, ?_⟩) (by assumption) ?_
  case refine_2 => (intro w1 hS1; (try dsimp only at hS1); go_simp; try with_reducible rfl)
  try simp only [List.getElem_toArray, List.getElem_cons_zero, List.getElem_cons_succ, Act.put, List.setIfInBounds_toArray, List.set_cons_zero, List.set_cons_succ]
  refine wpAnyH_take (i := 5) (v := ?_) rfl (by kernel_rfl) (by kernel_rfl) (by kernel_rfl) (fun _ _ _ h => h) (Or.inl ⟨by rfl, ?_⟩) (by assumption) ?_
  case refine_2 => (intro w1 hS1; (try dsimp only at hS1); go_simp; try with_reducible rfl)
  try simp only [List.getElem_toArray, List.getElem_cons_zero, List.getElem_cons_succ, Act.put, List.setIfInBounds_toArray, List.set_cons_zero, List.set_cons_succ]
  refine wpAnyH_take (i := 6) (v := ?_) rfl (by kernel_rfl) (by kernel_rfl) (by kernel_rfl) (fun _ _ _ h => h) (Or.inl ⟨by rfl, ?_⟩) (by assumption) ?_
  case refine_2 => (intro w1 hS1; (try dsimp only at hS1); go_simp; try with_reducible rfl)
  try simp only [List.getElem_toArray, List.getElem_cons_zero, List.getElem_cons_succ, Act.put, List.setIfInBounds_toArray, List.set_cons_zero, List.set_cons_succ]
  refine wpAnyH_take (i := 7) (v := ?_) rfl (by kernel_rfl) (by kernel_rfl) (by kernel_rfl) (fun _ _ _ h => h) (Or.inl ⟨by rfl, ?_⟩) (by assumption) ?_
  case refine_2 => (intro w1 hS1; (try dsimp only at hS1); go_simp; try with_reducible rfl)
  try simp only [List.getElem_toArray, List.getElem_cons_zero, List.getElem_cons_succ, Act.put, List.setIfInBounds_toArray, List.set_cons_zero, List.set_cons_succ]
  refine wpAnyH_take (i := 9) (v := ?_) rfl (by kernel_rfl) (by kernel_rfl) (by kernel_rfl) (fun _ _ _ h => h) (Or.inl ⟨by rfl, ?_⟩) (by assumption) ?_
  case refine_2 => (intro w1 hS1; (try dsimp only at hS1); go_simp; try with_reducible rfl)
  try simp only [List.getElem_toArray, List.getElem_cons_zero, List.getElem_cons_succ, Act.put, List.setIfInBounds_toArray, List.set_cons_zero, List.set_cons_succ]
  refine wpAnyH_take (i := 10) (v := ?_) rfl (by kernel_rfl) (by kernel_rfl) (by kernel_rfl) (fun _ _ _ h => h) (Or.inl ⟨by rfl, ?_⟩) (by assumption) ?_
  case refine_2 => (intro w1 hS1; (try dsimp only at hS1); go_simp; try with_reducible rfl)
  try simp only [List.getElem_toArray, List.getElem_cons_zero, List.getElem_cons_succ, Act.put, List.setIfInBounds_toArray, List.set_cons_zero, List.set_cons_succ]
  refine wpAnyH_take (i := 11) (v := ?_) rfl (by kernel_rfl) (by kernel_rfl) (by kernel_rfl) (fun _ _ _ h => h) (Or.inl ⟨by rfl, ?_⟩) (by assumption) ?_
  case refine_2 => (intro w1 hS1; (try dsimp only at hS1); go_simp; try with_reducible rfl)
  try simp only [List.getElem_toArray, List.getElem_cons_zero, List.getElem_cons_succ, Act.put, List.setIfInBounds_toArray, List.set_cons_zero, List.set_cons_succ]
  refine wpAnyH_take (i := 12) (v := ?_) rfl (by kernel_rfl) (by kernel_rfl) (by kernel_rfl) (fun _ _ _ h => h) (Or.inl ⟨by rfl, ?_⟩) (by assumption) ?_
  case refine_2 => (intro w1 hS1; (try dsimp only at hS1); go_simp; try with_reducible rfl)
  try simp only [List.getElem_toArray, List.getElem_cons_zero, List.getElem_cons_succ, Act.put, List.setIfInBounds_toArray, List.set_cons_zero, List.set_cons_succ]
  refine wpAnyH_ready (rs := [8]) (by kernel_rfl) (by simp) ?_
  refine AllReadyH.cons rfl (fun K hK => ?_) AllReadyH.nil
  go_simp
  refine HR1.out.mono ?_
  rintro e w8 ⟨v1, rfl, hO1, hP1, hb1⟩
  obtain ⟨va1, vc1, rfl, _, _⟩ := hO1.shape
  have hck8 := HCK.out.kept hb1
  have HO1 := Lib.hid hO1
  have HB8 := Lib.hid hb1
  have HCK8 := Lib.hid hck8
  have HR2 := Lib.hid (row_alm (hck8.alm HD.out))
  have hS8 : w8.cell? ⟨L.K, 0, none⟩ = some (.pointer (some ⟨L.A, 0, none⟩)) ∧ w8.cell? ⟨L.K, 1, none⟩ = some (.pointer (some ⟨L.P, 0, none⟩)) ∧ w8.cell? ⟨L.K, 2, none⟩ = some (.int .i64 off) := ⟨hck8.k0, hck8.k1, by rw [hck8.k2, HOF.out]⟩
  clear hO1 hP1 hb1 hck8
  refine hK.out _ _ (by assumption) (fun hHeld => ?_)
  clear hK K
  try simp only [List.getElem_toArray, List.getElem_cons_zero, List.getElem_cons_succ, Act.put, List.setIfInBounds_toArray, List.set_cons_zero, List.set_cons_succ]
  refine wpAnyH_ready (rs := [13]) (by kernel_rfl) (by simp) ?_
  refine AllReadyH.cons rfl (fun K hK => ?_) AllReadyH.nil
  go_simp
  refine HR2.out.mono ?_
  rintro e w9 ⟨v2, rfl, hO2, hb2⟩
  obtain ⟨va2, vc2, rfl, _, _⟩ := hO2.shape
  have hck9 := HCK8.out.kept hb2
  have HO2 := Lib.hid hO2
  have HB9 := Lib.hid hb2
  have HCK9 := Lib.hid hck9
  have hS9 : w9.cell? ⟨L.K, 0, none⟩ = some (.pointer (some ⟨L.A, 0, none⟩)) ∧ w9.cell? ⟨L.K, 1, none⟩ = some (.pointer (some ⟨L.P, 0, none⟩)) ∧ w9.cell? ⟨L.K, 2, none⟩ = some (.int .i64 off) := ⟨hck9.k0, hck9.k1, by rw [hck9.k2, HOF.out]⟩
  clear hO2 hb2 hck9
  refine hK.out _ _ (by assumption) (fun hHeld => ?_)
  clear hK K
  try simp only [List.getElem_toArray, List.getElem_cons_zero, List.getElem_cons_succ, Act.put, List.setIfInBounds_toArray, List.set_cons_zero, List.set_cons_succ]
  refine wpAnyH_take (i := 14) (v := ?_) rfl (by kernel_rfl) (by kernel_rfl) (by kernel_rfl) (fun _ _ _ h => h) (Or.inl ⟨by rfl, ?_⟩) (by assumption) ?_
  case refine_2 => (intro w1 hS1; (try dsimp only at hS1); go_simp; try with_reducible rfl)
  try simp only [List.getElem_toArray, List.getElem_cons_zero, List.getElem_cons_succ, Act.put, List.setIfInBounds_toArray, List.set_cons_zero, List.set_cons_succ]
  have HB89 := Lib.hid (HB8.out.trans (HB9.out.mono HB8.out.size))
  have y0 : w9.cell? ⟨w.heap.size, 0, none⟩ = some (.int .i64 0) := (HB89.out.cell (p := ⟨w.heap.size, 0, none⟩) HLT.out.2).trans HY.out.1
  have y1 : w9.cell? ⟨w.heap.size, 1, none⟩ = some (.slice none 0 0) := (HB89.out.cell (p := ⟨w.heap.size, 1, none⟩) HLT.out.2).trans HY.out.2.1
  have y2 : w9.cell? ⟨w.heap.size, 2, none⟩ = some (.slice none 0 0) := (HB89.out.cell (p := ⟨w.heap.size, 2, none⟩) HLT.out.2).trans HY.out.2.2.1
  have z0 : w9.frozen? ⟨w.heap.size, 0, none⟩ = false := (HB89.out.frozen (p := ⟨w.heap.size, 0, none⟩) HLT.out.2).trans HY.out.2.2.2.1
  have z1 : w9.frozen? ⟨w.heap.size, 1, none⟩ = false := (HB89.out.frozen (p := ⟨w.heap.size, 1, none⟩) HLT.out.2).trans HY.out.2.2.2.2.1
  have z2 : w9.frozen? ⟨w.heap.size, 2, none⟩ = false := (HB89.out.frozen (p := ⟨w.heap.size, 2, none⟩) HLT.out.2).trans HY.out.2.2.2.2.2
  have HKP : Hid (Kept (· = w.heap.size) w9 (((w9.setCell ⟨w.heap.size, 0, none⟩ (.int .i64 off)).setCell ⟨w.heap.size, 1, none⟩ (.slice va1 (pairs D.F D.T D.n).length vc1)).setCell ⟨w.heap.size, 2, none⟩ (.slice va2 (pairs D.G D.U D.m).length vc2))) := Lib.hid (kept_set3 _ _ _ _ _)
  have HBX : Hid (Below w.heap.size w9 (((w9.setCell ⟨w.heap.size, 0, none⟩ (.int .i64 off)).setCell ⟨w.heap.size, 1, none⟩ (.slice va1 (pairs D.F D.T D.n).length vc1)).setCell ⟨w.heap.size, 2, none⟩ (.slice va2 (pairs D.G D.U D.m).length vc2))) := Lib.hid (below_set3 _ _ _ _ _)
  have hSX : (((w9.setCell ⟨w.heap.size, 0, none⟩ (.int .i64 off)).setCell ⟨w.heap.size, 1, none⟩ (.slice va1 (pairs D.F D.T D.n).length vc1)).setCell ⟨w.heap.size, 2, none⟩ (.slice va2 (pairs D.G D.U D.m).length vc2)).cell? ⟨L.K, 0, none⟩ = some (.pointer (some ⟨L.A, 0, none⟩)) ∧ (((w9.setCell ⟨w.heap.size, 0, none⟩ (.int .i64 off)).setCell ⟨w.heap.size, 1, none⟩ (.slice va1 (pairs D.F D.T D.n).length vc1)).setCell ⟨w.heap.size, 2, none⟩ (.slice va2 (pairs D.G D.U D.m).length vc2)).cell? ⟨L.K, 1, none⟩ = some (.pointer (some ⟨L.P, 0, none⟩)) ∧ (((w9.setCell ⟨w.heap.size, 0, none⟩ (.int .i64 off)).setCell ⟨w.heap.size, 1, none⟩ (.slice va1 (pairs D.F D.T D.n).length vc1)).setCell ⟨w.heap.size, 2, none⟩ (.slice va2 (pairs D.G D.U D.m).length vc2)).cell? ⟨L.K, 2, none⟩ = some (.int .i64 off) := ⟨(HBX.out.cell (p := ⟨L.K, 0, none⟩) HLT.out.1).trans hS9.1, (HBX.out.cell (p := ⟨L.K, 1, none⟩) HLT.out.1).trans hS9.2.1, (HBX.out.cell (p := ⟨L.K, 2, none⟩) HLT.out.1).trans hS9.2.2⟩
  have HSX := Lib.hid hSX
  clear hS8 hS9 h0 hSX
  refine wpAnyH_ready (rs := [15]) (by kernel_rfl) (by simp) ?_
  refine AllReadyH.cons rfl (fun K hK => ?_) AllReadyH.nil
  set_option maxHeartbeats 200000 in go_simp
  refine hK.out _ _ HSX.out (fun hHeld => ?_)
  clear hK K
  refine wpAnyH_done (by kernel_rfl) ?_ _
  go_wp2_with fail
  have q0 : (((w9.setCell ⟨w.heap.size, 0, none⟩ (.int .i64 off)).setCell ⟨w.heap.size, 1, none⟩ (.slice va1 (pairs D.F D.T D.n).length vc1)).setCell ⟨w.heap.size, 2, none⟩ (.slice va2 (pairs D.G D.U D.m).length vc2)).cell? ⟨w.heap.size, 0, none⟩ = some (.int .i64 off) := by go_simp
  have q1 : (((w9.setCell ⟨w.heap.size, 0, none⟩ (.int .i64 off)).setCell ⟨w.heap.size, 1, none⟩ (.slice va1 (pairs D.F D.T D.n).length vc1)).setCell ⟨w.heap.size, 2, none⟩ (.slice va2 (pairs D.G D.U D.m).length vc2)).cell? ⟨w.heap.size, 1, none⟩ = some (.slice va1 (pairs D.F D.T D.n).length vc1) := by go_simp
  have q2 : (((w9.setCell ⟨w.heap.size, 0, none⟩ (.int .i64 off)).setCell ⟨w.heap.size, 1, none⟩ (.slice va1 (pairs D.F D.T D.n).length vc1)).setCell ⟨w.heap.size, 2, none⟩ (.slice va2 (pairs D.G D.U D.m).length vc2)).cell? ⟨w.heap.size, 2, none⟩ = some (.slice va2 (pairs D.G D.U D.m).length vc2) := by go_simp
  have hBE : Below w.heap.size w (((w9.setCell ⟨w.heap.size, 0, none⟩ (.int .i64 off)).setCell ⟨w.heap.size, 1, none⟩ (.slice va1 (pairs D.F D.T D.n).length vc1)).setCell ⟨w.heap.size, 2, none⟩ (.slice va2 (pairs D.G D.U D.m).length vc2)) := (HB1.out.drew.trans (HB89.out.mono (Nat.le_of_lt HLT.out.2))).trans HBX.out
  refine bodyPost_ret (v := .agg #[.int .i64 off, .slice va1 (pairs D.F D.T D.n).length vc1, .slice va2 (pairs D.G D.U D.m).length vc2]) (by simp [results, Tryz.results77, go_sem, q0, q1, q2]) rfl ⟨_, _, by rw [HOF.out], ?_, ?_, HK0.out.kept hBE, hBE⟩
  · exact ((HO1.out.kept HB9.out).blocks (fun g h1 h2 => HKP.out.block g h2 (Nat.ne_of_gt (Nat.lt_of_lt_of_le HLT.out.2 h1)))).mono (Nat.le_of_lt HLT.out.2)
  · exact (HO2.out.blocks (fun g h1 h2 => HKP.out.block g h2 (Nat.ne_of_gt (Nat.lt_of_lt_of_le HLT.out.2 (Nat.le_trans HB8.out.size h1))))).mono (Nat.le_trans (Nat.le_of_lt HLT.out.2) HB8.out.size)
end Go.Proofs.YtibjboacjobaoaaGreat

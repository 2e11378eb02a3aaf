import Derived.Test.YtfclmbneimbmnaaDoorWfA
import Derived.Laws.OwnMore
import Derived.Laws.IdiomCopy
import Derived.Deep.RegionHeld3
import Derived.Test.YtfclmbneimbmnaaDoorWfB
namespace Go.Proofs.YtfclmbneimbmnaaDoor
open Go.RowKit
/- slices.Delete of one thing out of a row of one's own. -/
open Go.RowKit
theorem OT.past {w : World} {base g cap k : Nat} {l : List Th} {y : Value} (h : OT w base (.slice (some ⟨g, 0, none⟩) l.length cap) l) (hk : l.length * 3 ≤ k) : OT (w.setCell ⟨g, k, none⟩ y) base (.slice (some ⟨g, 0, none⟩) l.length cap) l := by
  rcases h.2 with ⟨hv, _⟩ | ⟨g', cap', cur, hv, hg, hh, hc, hm, hcs, ht⟩
  · cases hv
  · injection hv with hv1 _ hv3
    injection hv1 with hv1
    injection hv1 with hv1
    subst hv1 hv3
    have e1 := heap_setCell_same w g k cur 27 y hh
    refine ⟨by rw [thc_len], .inr ⟨g, cap, _, rfl, hg, e1, hc, hm, by simpa using hcs, ?_⟩⟩
    rw [← ht]
    refine List.ext_getElem? fun j => ?_
    rw [List.getElem?_take, List.getElem?_take]
    split
    · simp only [Array.getElem?_toList, Array.getElem?_setIfInBounds]
      rw [if_neg (by omega)]
    · rfl
theorem OT.room {w : World} {base g n cap : Nat} {l : List Th} (h : OT w base (.slice (some ⟨g, 0, none⟩) n cap) l) : l.length ≤ cap ∧ base ≤ g ∧ g < w.heap.size ∧ (∀ j, j < cap * 3 → (w.cell? ⟨g, j, none⟩).isSome = true) ∧ ∀ j, w.frozen? ⟨g, j, none⟩ = false := by
  rcases h.2 with ⟨hv, _⟩ | ⟨g', cap', cur, hv, hg, hh, hc, hm, hcs, ht⟩
  · cases hv
  · injection hv with hv1 _ hv3
    injection hv1 with hv1
    injection hv1 with hv1
    subst hv1 hv3
    refine ⟨hc, hg, (Array.getElem?_eq_some_iff.1 hh).1, fun j hj => ?_, fun j => by simp [World.frozen?, hh]⟩
    have : j < cur.size := by omega
    simp [World.cell?, hh, this]
theorem zero_th (w : World) : (zeroValue 27).run Tryd.prog w = .ok (.agg #[.int .u64 0, .int .u64 0, .int .i64 0]) w := Tryd.zeroValue27 w
theorem run_clear_th (w : World) (ty : TypeId) (g o c : Nat) (hc : ∀ j, j < 3 → (w.cell? ⟨g, o + j, none⟩).isSome = true) (hf : ∀ j, j < 3 → w.frozen? ⟨g, o + j, none⟩ = false) :
    (Builtin.clear_ #[22] ty #[.slice (some ⟨g, o, none⟩) 1 c]).run Tryd.prog w = .ok (.tuple #[]) (((w.setCell ⟨g, o, none⟩ (.int .u64 0)).setCell ⟨g, o + 1, none⟩ (.int .u64 0)).setCell ⟨g, o + 2, none⟩ (.int .i64 0)) := by
  have hst := run_storeCells_cells (P := Tryd.prog) g o [.int .u64 0, .int .u64 0, .int .i64 0] 0 w (by simpa using hc) (by simpa using hf) (by intro v hv'; simp at hv'; rcases hv' with rfl | rfl | rfl <;> rfl)
  simp only [Nat.add_zero, World.setCells] at hst
  have hz : (Builtin.zeroCells (Value.agg #[.int .u64 0, .int .u64 0, .int .i64 0]).cells 1).toList = [.int .u64 0, .int .u64 0, .int .i64 0] := by
    first | kernel_rfl | simp [Builtin.zeroCells, Value.cells, List.range_succ]
  simp [Builtin.clear_, run_underlying Tryd.underlying22, zero_th, hz, hst]
/-- The row without its i-th thing. -/
def cutT (l : List Th) (i : Nat) : List Th := l.take i ++ l.drop (i + 1)
theorem cutT_len (l : List Th) (i : Nat) (hi : i < l.length) : (cutT l i).length = l.length - 1 := by unfold cutT; simp; omega

theorem thc_drop (l : List Th) (k : Nat) : thc (l.drop k) = (thc l).drop (k * 3) := by
  have h := List.take_append_drop k l
  have h2 : thc (l.take k) ++ thc (l.drop k) = thc l := by rw [← thc_append, h]
  rw [thc_take] at h2
  have h3 := List.take_append_drop (k * 3) (thc l)
  exact List.append_cancel_left (h2.trans h3.symm)
set_option maxRecDepth 100000 in
/-- The append in Delete. -/
theorem del_append {w : World} {base g n cap i : Nat} {l : List Th} (h : OT w base (.slice (some ⟨g, 0, none⟩) n cap) l) (hn : l.length = n) (hi : i < n) (ad : Addr) (ha : i + 1 < n → ad = ⟨g, (i + 1) * 3, none⟩) (c : Nat) (ty : TypeId) :
    ∃ w', (Builtin.append_ #[22, 22] ty #[.slice (some ⟨g, 0, none⟩) i cap, .slice (some ad) (n - (i + 1)) c]).run Tryd.prog w = .ok (.slice (some ⟨g, 0, none⟩) (n - 1) cap) w' ∧ OT w' base (.slice (some ⟨g, 0, none⟩) (n - 1) cap) (cutT l i) ∧ w.grownBy w' (some g) := by
  obtain ⟨ii, hii, hz0, hz1, hz2⟩ := info_parts th_info
  subst hn
  have hr := h.room
  have htk := h.take i (by omega)
  have hown : w.ownsRow base 27 3 (.slice (some ⟨g, 0, none⟩) i cap) i (thc (l.take i)) := by
    have e : (l.take i).length = i := by simp; omega
    unfold OT at htk
    rw [e] at htk
    exact htk
  obtain ⟨w', h1, h2, h3⟩ := run_append_fits (P := Tryd.prog) w base 22 ty 27 ii 3 Tryd.underlying22 hii hz1 g i cap (thc (l.take i)) hown ad (l.length - (i + 1)) c (thc (l.drop (i + 1))) (by rw [thc_len]; simp) (fun j u hj => by
    have hjl : j < (thc (l.drop (i + 1))).length := (List.getElem?_eq_some_iff.1 hj).1
    rw [thc_len, List.length_drop] at hjl
    rw [ha (by omega), add_at3]
    rw [thc_drop, List.getElem?_drop] at hj
    rcases h.2 with ⟨hv, _⟩ | ⟨g', cap', cur, hv, hg, hh, hc, hm, hcs, ht⟩
    · cases hv
    · injection hv with hv1 _ hv3
      injection hv1 with hv1
      injection hv1 with hv1
      subst hv1 hv3
      rw [← ht, List.getElem?_take, if_pos (by omega)] at hj
      simp only [World.cell?, hh]
      simpa using hj) (fun u hu => by
    obtain ⟨x, hx, hu⟩ := List.mem_flatMap.1 hu
    exact enT_one x u hu) (by omega)
  have e : i + (l.length - (i + 1)) = l.length - 1 := by omega
  rw [e] at h1 h2
  refine ⟨w', h1, ?_, h3⟩
  unfold OT
  rw [cutT_len l i hi]
  unfold cutT
  rw [thc_append]
  exact h2
/- slices.Delete: the walk. -/
open Go.RowKit
theorem grown_onlyD {w w1 : World} {g : Nat} (h : w.grownBy w1 (some g)) : Only (fun k => k = g) w w1 := grown_only h _ (fun k hk => by cases hk; rfl)
set_option maxRecDepth 100000 in
set_option maxHeartbeats 4000000 in
theorem del_any {w : World} {base g n cap i : Nat} {l : List Th} (h : OT w base (.slice (some ⟨g, 0, none⟩) n cap) l) (hn : l.length = n) (hi : i < n) (hm : n ≤ 1000000) :
    Calls Tryd.prog 89 #[(.slice (some ⟨g, 0, none⟩) n cap), .int .i64 (i : Int), .int .i64 ((i : Int) + 1)] w fun e w' => e = .returned (.slice (some ⟨g, 0, none⟩) (n - 1) cap) ∧ OT w' base (.slice (some ⟨g, 0, none⟩) (n - 1) cap) (cutT l i) ∧ Only (fun k => k = g) w w' := by
  have mixed := insTh.mixed
  have hr := h.room
  have hnc : n ≤ cap := by have := hr.1; omega
  have HO := Lib.hid h
  have HN := Lib.hid hn
  have i0 : (0 : Int) ≤ (i : Int) := by omega
  have i1 : (0 : Int) ≤ (i : Int) + 1 := by omega
  have i2 : (i : Int) ≤ (i : Int) + 1 := by omega
  have i3 : (i : Int) + 1 ≤ (n : Int) := by omega
  have i4 : (n : Int) ≤ (cap : Int) := by omega
  have i5 : (i : Int) ≤ (cap : Int) := by omega
  have i6 : (i : Int) ≤ (n : Int) := by omega
  have i7 : ¬ (i : Int) = (i : Int) + 1 := by omega
  have e1 : ((i : Int) + 1).toNat = i + 1 := by omega
  have HH : Hid (∀ ad, (i + 1 < n → ad = ⟨g, (i + 1) * 3, none⟩) → ∃ w1, (Builtin.append_ #[22, 22] 22 #[.slice (some ⟨g, 0, none⟩) i cap, .slice (some ad) (n - (i + 1)) (cap - (i + 1))]).run Tryd.prog w.drew = .ok (.slice (some ⟨g, 0, none⟩) (n - 1) cap) w1 ∧ OT w1 base (.slice (some ⟨g, 0, none⟩) (n - 1) cap) (cutT l i) ∧ Only (fun k => k = g) w w1 ∧
      ∀ ty, (Builtin.clear_ #[22] ty #[.slice (some ⟨g, (n - 1) * 3, none⟩) 1 (cap - (n - 1))]).run Tryd.prog w1 = .ok (.tuple #[]) (((w1.setCell ⟨g, (n - 1) * 3, none⟩ (.int .u64 0)).setCell ⟨g, (n - 1) * 3 + 1, none⟩ (.int .u64 0)).setCell ⟨g, (n - 1) * 3 + 2, none⟩ (.int .i64 0))) := Lib.hid (fun ad ha => by
    obtain ⟨w1, h1, h2, h3⟩ := del_append (h.below (Below.refl _ _).drew) hn hi ad ha (cap - (i + 1)) 22
    have hrm := h2.room
    refine ⟨w1, h1, h2, (Only.below (Below.refl w.heap.size w).drew).trans (grown_onlyD h3), fun ty => run_clear_th w1 ty g _ _ (fun j hj => hrm.2.2.2.1 _ (by omega)) (fun j _ => hrm.2.2.2.2 _)⟩)
  have HF : Hid (∀ w1, OT w1 base (.slice (some ⟨g, 0, none⟩) (n - 1) cap) (cutT l i) → Only (fun k => k = g) w w1 → OT (((w1.setCell ⟨g, (n - 1) * 3, none⟩ (.int .u64 0)).setCell ⟨g, (n - 1) * 3 + 1, none⟩ (.int .u64 0)).setCell ⟨g, (n - 1) * 3 + 2, none⟩ (.int .i64 0)) base (.slice (some ⟨g, 0, none⟩) (n - 1) cap) (cutT l i) ∧ Only (fun k => k = g) w (((w1.setCell ⟨g, (n - 1) * 3, none⟩ (.int .u64 0)).setCell ⟨g, (n - 1) * 3 + 1, none⟩ (.int .u64 0)).setCell ⟨g, (n - 1) * 3 + 2, none⟩ (.int .i64 0))) := Lib.hid (fun w1 h1 h2 => by
    have el : (cutT l i).length = n - 1 := by rw [cutT_len l i (by omega)]; omega
    rw [← el] at h1 ⊢
    exact ⟨((h1.past (by omega)).past (by omega)).past (by omega), ((h2.setCell _ _ rfl).setCell _ _ rfl).setCell _ _ rfl⟩)
  have en : n - (n - 1) = 1 := by omega
  have n0 : (0 : Int) ≤ ((n - 1 : Nat) : Int) := by omega
  have n1 : ((n - 1 : Nat) : Int) ≤ (n : Int) := by omega
  have n2 : ¬ cap = n - 1 := by omega
  clear h hn hr
  by_cases hcap : cap = i + 1
  · obtain rfl : n = i + 1 := by omega
    subst hcap
    have ec : cutT l i = l.take i := by unfold cutT; rw [List.drop_eq_nil_of_le (by rw [HN.out]; omega), List.append_nil]
    have hT1 : OT w.drew base (.slice (some ⟨g, 0, none⟩) (i + 1) (i + 1)) l := HO.out.below (Below.refl _ _).drew
    have hT2 : OT w.drew base (.slice (some ⟨g, 0, none⟩) i (i + 1)) (l.take i) := by
      have := OT.take (l := l) (by rw [HN.out]; exact hT1) i (by rw [HN.out]; omega)
      exact this
    have hrm := hT2.room
    have hclr := fun ty => run_clear_th w.drew ty g (i * 3) 1 (fun j hj => hrm.2.2.2.1 _ (by omega)) (fun j _ => hrm.2.2.2.2 _)
    have HW := Lib.hid (HF.out w.drew (by rw [ec]; simpa using hT2) (Only.below (Below.refl w.heap.size w).drew))
    simp only [Nat.add_sub_cancel] at HW
    have eni : i + 1 - i = 1 := by omega
    have h0 : True := trivial
    clear hT1 hT2 hrm HH HF
    go_enter Tryd.func89, Tryd.ntmps89
    go_wp2_with fail
    refine wp_region_held_drew (S := fun _ => True) (by kernel_rfl) h0 (fun hHeld => ?_)
    refine wpAnyH_take (i := 0) (v := ?_) rfl (by kernel_rfl) (by kernel_rfl) (by kernel_rfl) (fun _ _ _ h => h) (Or.inl ⟨by rfl, ?_⟩) (by assumption) ?_
    case refine_2 => (intro w1 hS1; (try dsimp only at hS1); go_simp; try with_reducible rfl)
    try simp only [List.getElem_toArray, List.getElem_cons_zero, List.getElem_cons_succ, Act.put, List.setIfInBounds_toArray, List.set_cons_zero, List.set_cons_succ]
    refine wpAnyH_take (i := 1) (v := ?_) rfl (by kernel_rfl) (by kernel_rfl) (by kernel_rfl) (fun _ _ _ h => h) (Or.inl ⟨by rfl, ?_⟩) (by assumption) ?_
    case refine_2 => (intro w1 hS1; (try dsimp only at hS1); go_simp; try with_reducible rfl)
    try simp only [List.getElem_toArray, List.getElem_cons_zero, List.getElem_cons_succ, Act.put, List.setIfInBounds_toArray, List.set_cons_zero, List.set_cons_succ]
    refine wpAnyH_take (i := 2) (v := ?_) rfl (by kernel_rfl) (by kernel_rfl) (by kernel_rfl) (fun _ _ _ h => h) (Or.inl ⟨by rfl, ?_⟩) (by assumption) ?_
    case refine_2 => (intro w1 hS1; (try dsimp only at hS1); go_simp; try with_reducible rfl)
    try simp only [List.getElem_toArray, List.getElem_cons_zero, List.getElem_cons_succ, Act.put, List.setIfInBounds_toArray, List.set_cons_zero, List.set_cons_succ]
    refine wpAnyH_take (i := 3) (v := ?_) rfl (by kernel_rfl) (by kernel_rfl) (by kernel_rfl) (fun _ _ _ h => h) (Or.inl ⟨by rfl, ?_⟩) (by assumption) ?_
    case refine_2 => (intro w1 hS1; (try dsimp only at hS1); go_simp; try with_reducible rfl)
    try simp only [List.getElem_toArray, List.getElem_cons_zero, List.getElem_cons_succ, Act.put, List.setIfInBounds_toArray, List.set_cons_zero, List.set_cons_succ]
    refine wpAnyH_take (i := 4) (v := ?_) rfl (by kernel_rfl) (by kernel_rfl) (by kernel_rfl) (fun _ _ _ h => h) (Or.inl ⟨by rfl, ?_⟩) (by assumption) ?_
    case refine_2 => (intro w1 hS1; (try dsimp only at hS1); go_simp; try with_reducible rfl)
    try simp only [List.getElem_toArray, List.getElem_cons_zero, List.getElem_cons_succ, Act.put, List.setIfInBounds_toArray, List.set_cons_zero, List.set_cons_succ]
    refine wpAnyH_take (i := 5) (v := ?_) rfl (by kernel_rfl) (by kernel_rfl) (by kernel_rfl) (fun _ _ _ h => h) (Or.inl ⟨by rfl, ?_⟩) (by assumption) ?_
    case refine_2 => (intro w1 hS1; (try dsimp only at hS1); go_simp; try with_reducible rfl)
    try simp only [List.getElem_toArray, List.getElem_cons_zero, List.getElem_cons_succ, Act.put, List.setIfInBounds_toArray, List.set_cons_zero, List.set_cons_succ]
    refine wpAnyH_ready (rs := [6]) (by kernel_rfl) (by simp) ?_
    refine AllReadyH.cons rfl (fun K hK => ?_) AllReadyH.nil
    go_simp
    refine hK.out _ _ trivial (fun hHeld => ?_)
    clear hK K
    try simp only [List.getElem_toArray, List.getElem_cons_zero, List.getElem_cons_succ, Act.put, List.setIfInBounds_toArray, List.set_cons_zero, List.set_cons_succ]
    refine wpAnyH_take (i := 7) (v := ?_) rfl (by kernel_rfl) (by kernel_rfl) (by kernel_rfl) (fun _ _ _ h => h) (Or.inl ⟨by rfl, ?_⟩) (by assumption) ?_
    case refine_2 => (intro w1 hS1; (try dsimp only at hS1); go_simp; try with_reducible rfl)
    try simp only [List.getElem_toArray, List.getElem_cons_zero, List.getElem_cons_succ, Act.put, List.setIfInBounds_toArray, List.set_cons_zero, List.set_cons_succ]
    refine wpAnyH_done (by kernel_rfl) ?_ _
    go_wp2_with fail
    go_ret
    exact ⟨rfl, HW.out.1, HW.out.2⟩
  · obtain ⟨w1, hrun, h1, h2, hclr⟩ := HH.out ⟨g, (i + 1) * 3, none⟩ (fun _ => rfl)
    have HW := Lib.hid (HF.out w1 h1 h2)
    skip
    skip
    have h0 : True := trivial
    clear h1 h2
    go_enter Tryd.func89, Tryd.ntmps89
    go_wp2_with fail
    refine wp_region_held_drew (S := fun _ => True) (by kernel_rfl) h0 (fun hHeld => ?_)
    refine wpAnyH_take (i := 0) (v := ?_) rfl (by kernel_rfl) (by kernel_rfl) (by kernel_rfl) (fun _ _ _ h => h) (Or.inl ⟨by rfl, ?_⟩) (by assumption) ?_
    case refine_2 => (intro w1 hS1; (try dsimp only at hS1); go_simp; try with_reducible rfl)
    try simp only [List.getElem_toArray, List.getElem_cons_zero, List.getElem_cons_succ, Act.put, List.setIfInBounds_toArray, List.set_cons_zero, List.set_cons_succ]
    refine wpAnyH_take (i := 1) (v := ?_) rfl (by kernel_rfl) (by kernel_rfl) (by kernel_rfl) (fun _ _ _ h => h) (Or.inl ⟨by rfl, ?_⟩) (by assumption) ?_
    case refine_2 => (intro w1 hS1; (try dsimp only at hS1); go_simp; try with_reducible rfl)
    try simp only [List.getElem_toArray, List.getElem_cons_zero, List.getElem_cons_succ, Act.put, List.setIfInBounds_toArray, List.set_cons_zero, List.set_cons_succ]
    refine wpAnyH_take (i := 2) (v := ?_) rfl (by kernel_rfl) (by kernel_rfl) (by kernel_rfl) (fun _ _ _ h => h) (Or.inl ⟨by rfl, ?_⟩) (by assumption) ?_
    case refine_2 => (intro w1 hS1; (try dsimp only at hS1); go_simp; try with_reducible rfl)
    try simp only [List.getElem_toArray, List.getElem_cons_zero, List.getElem_cons_succ, Act.put, List.setIfInBounds_toArray, List.set_cons_zero, List.set_cons_succ]
    refine wpAnyH_take (i := 3) (v := ?_) rfl (by kernel_rfl) (by kernel_rfl) (by kernel_rfl) (fun _ _ _ h => h) (Or.inl ⟨by rfl, ?_⟩) (by assumption) ?_
    case refine_2 => (intro w1 hS1; (try dsimp only at hS1); go_simp; try with_reducible rfl)
    try simp only [List.getElem_toArray, List.getElem_cons_zero, List.getElem_cons_succ, Act.put, List.setIfInBounds_toArray, List.set_cons_zero, List.set_cons_succ]
    refine wpAnyH_take (i := 4) (v := ?_) rfl (by kernel_rfl) (by kernel_rfl) (by kernel_rfl) (fun _ _ _ h => h) (Or.inl ⟨by rfl, ?_⟩) (by assumption) ?_
    case refine_2 => (intro w1 hS1; (try dsimp only at hS1); go_simp; try with_reducible rfl)
    try simp only [List.getElem_toArray, List.getElem_cons_zero, List.getElem_cons_succ, Act.put, List.setIfInBounds_toArray, List.set_cons_zero, List.set_cons_succ]
    refine wpAnyH_take (i := 5) (v := ?_) rfl (by kernel_rfl) (by kernel_rfl) (by kernel_rfl) (fun _ _ _ h => h) (Or.inl ⟨by rfl, ?_⟩) (by assumption) ?_
    case refine_2 => (intro w1 hS1; (try dsimp only at hS1); go_simp; try with_reducible rfl)
    try simp only [List.getElem_toArray, List.getElem_cons_zero, List.getElem_cons_succ, Act.put, List.setIfInBounds_toArray, List.set_cons_zero, List.set_cons_succ]
    refine wpAnyH_ready (rs := [6]) (by kernel_rfl) (by simp) ?_
    refine AllReadyH.cons rfl (fun K hK => ?_) AllReadyH.nil
    refine step_append rfl (.tmp 22) (.tmp 25) 22 rfl _ _ _ _ rfl rfl hrun ?_
    refine hK.out _ _ trivial (fun hHeld => ?_)
    clear hK K
    try simp only [List.getElem_toArray, List.getElem_cons_zero, List.getElem_cons_succ, Act.put, List.setIfInBounds_toArray, List.set_cons_zero, List.set_cons_succ]
    refine wpAnyH_take (i := 7) (v := ?_) rfl (by kernel_rfl) (by kernel_rfl) (by kernel_rfl) (fun _ _ _ h => h) (Or.inl ⟨by rfl, ?_⟩) (by assumption) ?_
    case refine_2 => (intro w1 hS1; (try dsimp only at hS1); go_simp; try with_reducible rfl)
    try simp only [List.getElem_toArray, List.getElem_cons_zero, List.getElem_cons_succ, Act.put, List.setIfInBounds_toArray, List.set_cons_zero, List.set_cons_succ]
    refine wpAnyH_done (by kernel_rfl) ?_ _
    go_wp2_with fail
    go_ret
    exact ⟨rfl, HW.out.1, HW.out.2⟩
/- A wheel's Cancel. -/
open Go.RowKit
theorem Only.imp {X Y : Nat → Prop} {w w' : World} (h : Only X w w') (hx : ∀ k, X k → Y k) : Only Y w w' := ⟨h.os, h.tape, h.output, h.size, fun k hk hy => h.block k hk (fun hX => hy (hx k hX))⟩
theorem Only.setCell_new {X : Nat → Prop} {w w' : World} (h : Only X w w') {p : Addr} (hp : w.heap.size ≤ p.block) (v : Value) : Only X w (w'.setCell p v) :=
  ⟨h.os, h.tape, h.output, by have := h.size; simpa using this, fun k hk hx => (Below.heap_setCell _ _ _ _ (by omega)).trans (h.block k hk hx)⟩
set_option maxRecDepth 100000 in
set_option maxHeartbeats 8000000 in
theorem wcancel_none (D : WD) (x : Int) (w : World) (h : Wl w D) (hx : IdOk x) (hM : ∀ k, k < 4 → (D.R k).M x = none) (hBL : ∀ t ∈ D.BL, t.1 ≠ x) : Calls Tryd.prog 40 #[.pointer (some ⟨D.q, 0, none⟩), .int .u64 x] w fun e w' => e = .returned (.tuple #[.agg #[.int .u64 0, .int .u64 0, .int .i64 0], .bool false]) ∧ Below w.heap.size w w' := by
  have HX := Lib.hid hx
  have HM := Lib.hid hM
  have HBL := Lib.hid hBL
  clear hx hM hBL
  have mixed := insTh.mixed
  have hbA : Below w.heap.size w (w.alloc (.cells #[.int .u64 0, .int .u64 0, .int .i64 0] 27)) := (Below.refl _ _).alloc (Nat.le_refl _) _
  have hsA : (w.alloc (.cells #[.int .u64 0, .int .u64 0, .int .i64 0] 27)).heap.size = w.heap.size + 1 := by simp
  have hzA : ∀ o, (w.alloc (.cells #[.int .u64 0, .int .u64 0, .int .i64 0] 27)).frozen? ⟨w.heap.size, o, none⟩ = false := fun o => by simp
  have hqA := zero_three w
  have hA := h.below hbA
  have hc := wcreated D _ hA
  have r0 := hA.cr 0 (by omega)
  have r1 := hA.cr 1 (by omega)
  have r2 := hA.cr 2 (by omega)
  have r3 := hA.cr 3 (by omega)
  obtain ⟨T, hT⟩ : ∃ T, w.heap.size = T := ⟨_, rfl⟩
  have hqT : D.q < T := by have := h.qlt; omega
  have H0 := Lib.hid h
  obtain ⟨A, hAe⟩ : ∃ A : Array Value, #[Value.pointer (some ⟨(D.R 0).r, 0, none⟩), .pointer (some ⟨(D.R 1).r, 0, none⟩), .pointer (some ⟨(D.R 2).r, 0, none⟩), .pointer (some ⟨(D.R 3).r, 0, none⟩)] = A := ⟨_, rfl⟩
  have HIX : Hid (∀ k : Nat, k < 4 → ∀ w, Sem.run Tryd.prog (Instr.index 79 (.agg A) (.int .i64 k)) w = .ok (.pointer (some ⟨(D.R k).r, 0, none⟩)) w) := Lib.hid (fun k hk w => by
    subst hAe
    refine run_index_arr Tryd.underlying79 Tryd.sizeOf38 Tryd.isAgg38 k hk (by omega) ?_ w
    match k, hk with
    | 0, _ => rfl
    | 1, _ => rfl
    | 2, _ => rfl
    | 3, _ => rfl)
  go_enter Tryd.func40, Tryd.ntmps40
  go_wp2_with fail
  rw [hT] at hqA hzA hsA
  generalize w.alloc (.cells #[.int .u64 0, .int .u64 0, .int .i64 0] 27) = W1 at hbA hsA hzA hqA hc hA r0 r1 r2 r3 ⊢
  have HA := Lib.hid (And.intro hbA (And.intro hsA (And.intro hzA (And.intro hqA hA))))
  clear hA hzA hqA hbA h
  go_wp2_with (go_at_call 82; (with_reducible refine hc.mono ?_); rintro e w1 ⟨rfl, rfl⟩)
  try rw [hAe]
  clear r0 r1 r2 r3 hc hsA
  go_loopg [20] 4 (fun kx s20 wr => ∃ (j : Nat), s20 = .int .i64 j ∧ j ≤ 4 ∧ 4 - j ≤ kx ∧ Hid (Below w1.heap.size w1 wr))
  case atStart => exact ⟨0, rfl, by omega, by omega, Below.refl _ _⟩
  case round =>
    obtain ⟨j, rfl, hj, hjx, HB⟩ := hrel
    by_cases hlt : j < 4
    · have hj4 : j < 4 := by omega
      have hj4z : (j : Int) < 4 := by omega
      have hix := HIX.out j hj4
      have hg := drop_none x wr ((HA.out.2.2.2.2.below HB.out).rg j hj4) HX.out (HM.out j hj4)
      go_wp2_with (go_at_call 71; (with_reducible refine hg.mono ?_); rintro e w2 ⟨rfl, hb2⟩; have HB2 := Lib.hid (HB.out.trans ((hb2.trans ((Below.refl w2.heap.size w2).alloc (Nat.le_refl _) (.cells #[.int .u64 0, .int .u64 0, .int .i64 0] 27) |>.mono hb2.size)).mono HB.out.size)); clear hb2 hg)
      go_roundg (4 - (j + 1))
      case measure => omega
      case rel => exact ⟨j + 1, by go_num, by omega, by omega, HB2⟩
    · have hj4z : ¬ (j : Int) < 4 := by omega
      have hf := wfar D x wr (HA.out.2.2.2.2.below HB.out)
      obtain ⟨hbA, hsA, hzA, hqA, hA⟩ := HA.out
      have q0 := (HB.out.cell (p := ⟨T, 0, none⟩) (by show T < _; omega)).trans hqA.1
      have q1 := (HB.out.cell (p := ⟨T, 1, none⟩) (by show T < _; omega)).trans hqA.2.1
      have q2 := (HB.out.cell (p := ⟨T, 2, none⟩) (by show T < _; omega)).trans hqA.2.2
      have zf := fun o => (HB.out.frozen (p := ⟨T, o, none⟩) (by show T < _; omega)).trans (hzA o)
      have hTr : T < wr.heap.size := by have := HB.out.size; omega
      clear hbA hsA hzA hqA hA
      go_wp2_with (go_at_call 88; (with_reducible refine hf.mono ?_); rintro e w2 ⟨r, rfl, hF, hb2⟩; obtain rfl := hF.none HBL.out; have q0' := (hb2.cell (p := ⟨T, 0, none⟩) hTr).trans q0; have q1' := (hb2.cell (p := ⟨T, 1, none⟩) hTr).trans q1; have q2' := (hb2.cell (p := ⟨T, 2, none⟩) hTr).trans q2; have z0' := (hb2.frozen (p := ⟨T, 0, none⟩) hTr).trans (zf 0); have z1' := (hb2.frozen (p := ⟨T, 1, none⟩) hTr).trans (zf 1); have z2' := (hb2.frozen (p := ⟨T, 2, none⟩) hTr).trans (zf 2); have HB2 := Lib.hid (HB.out.trans (hb2.mono HB.out.size)); clear hb2 hf q0 q1 q2 zf)
      obtain ⟨k0, k1, k2⟩ := three_read (u := .int .u64 0) (v := .int .u64 0) (z := .int .i64 0) q0' q1' q2'
      have h3 := below_three (a := w) (w := w2) (HA.out.1.trans (HB2.out.mono HA.out.1.size)) (show w.heap.size ≤ T by omega) (.int .u64 0) (.int .u64 0) (.int .i64 0)
      generalize ((w2.setCell ⟨T, 0, none⟩ (.int .u64 0)).setCell ⟨T, 1, none⟩ (.int .u64 0)).setCell ⟨T, 2, none⟩ (.int .i64 0) = W3 at k0 k1 k2 h3 ⊢
      refine bodyPost_ret (v := .tuple #[.agg #[.int .u64 0, .int .u64 0, .int .i64 0], .bool false]) (by simp [results, Tryd.results40, go_sem, k0, k1, k2]) rfl ⟨rfl, h3⟩
theorem cancel_fin {D : WD} {w wr w2 : World} {T j s i : Nat} {V' : Nat → Value} {M' : Int → Option (Nat × Nat)} (hW : Wl wr D) (hkk : j < 4) (hRn : Rn w2 (D.R j).r (D.R j).b V' (upd (D.R j).S s (swr ((D.R j).S s) i zT)) M') (ho2 : Only (Fp (D.R j).V (D.R j).r (D.R j).b) wr w2) (hfp : ∀ k, Fp V' (D.R j).r (D.R j).b k → Fp (D.R j).V (D.R j).r (D.R j).b k) (hb : Below w.heap.size w wr) (hT : w.heap.size ≤ T) (hlt : ∀ g, D.fp g → g < w.heap.size) (a b c : Value) :
    ∃ E : RD, E.S = upd (D.R j).S s (swr ((D.R j).S s) i zT) ∧ Wl (((w2.setCell ⟨T, 0, none⟩ a).setCell ⟨T, 1, none⟩ b).setCell ⟨T, 2, none⟩ c) (D.ring j E) ∧ Only D.fp w (((w2.setCell ⟨T, 0, none⟩ a).setCell ⟨T, 1, none⟩ b).setCell ⟨T, 2, none⟩ c) ∧ ∀ g, (D.ring j E).fp g → D.fp g ∨ w.heap.size ≤ g := by
  obtain ⟨E, hE⟩ : ∃ E : RD, E = ⟨(D.R j).r, (D.R j).b, V', upd (D.R j).S s (swr ((D.R j).S s) i zT), M'⟩ := ⟨_, rfl⟩
  have e1 : E.r = (D.R j).r := by rw [hE]
  have e2 : E.has w2 := by rw [hE]; exact hRn
  have e3 : ∀ g, E.fp g → (D.R j).fp g := by rw [hE]; exact hfp
  have e4 : E.S = upd (D.R j).S s (swr ((D.R j).S s) i zT) := by rw [hE]
  clear hE hRn hfp
  have hf0 : ∀ g, (D.ring j E).fp g → D.fp g ∨ w.heap.size ≤ g := fun g hg => WD.ring_fp (w := w) hkk (fun g hg => .inl (e3 g hg)) hg
  have hf1 : ∀ g, (D.ring j E).fp g → g < w.heap.size := by
    intro g hg
    rcases WD.ring_fp (w := w2) hkk (fun g hg => .inl (e3 g hg)) hg with h1 | h1
    · exact hlt g h1
    · have h2 := (hW.ring hkk e2 e1 ho2 (fun g hg => .inl (e3 g hg))).lt hg
      omega
  refine ⟨E, e4, ?_, ?_, hf0⟩
  · have ho : Only (fun k => k = T) w2 (((w2.setCell ⟨T, 0, none⟩ a).setCell ⟨T, 1, none⟩ b).setCell ⟨T, 2, none⟩ c) := Only.setCell (Only.setCell (Only.setCell (Only.refl (fun k => k = T) w2) ⟨T, 0, none⟩ a (show T = T from rfl)) ⟨T, 1, none⟩ b (show T = T from rfl)) ⟨T, 2, none⟩ c (show T = T from rfl)
    exact (hW.ring hkk e2 e1 ho2 (fun g hg => .inl (e3 g hg))).only ho fun g hg e => by have := hf1 g hg; omega
  · have h1 : Only D.fp w wr := Only.below hb
    have h2 : Only D.fp w w2 := h1.trans (ho2.imp fun k hk => .inr (.inr ⟨j, hkk, hk⟩))
    exact ((h2.setCell_new (p := ⟨T, 0, none⟩) hT _).setCell_new (p := ⟨T, 1, none⟩) hT _).setCell_new (p := ⟨T, 2, none⟩) hT _
set_option maxRecDepth 100000 in
set_option maxHeartbeats 8000000 in
theorem wcancel_ring (D : WD) (t : Th) (w : World) (h : Wl w D) {kk s i : Nat} (hkk : kk < 4) (hs : s < 64) (ht : ((D.R kk).S s)[i]? = some t) (hM : ∀ k, k < kk → (D.R k).M t.1 = none) : Calls Tryd.prog 40 #[.pointer (some ⟨D.q, 0, none⟩), .int .u64 t.1] w fun e w' => e = .returned (.tuple #[.agg #[.int .u64 t.1, .int .u64 t.2.1, .int .i64 t.2.2], .bool true]) ∧ ∃ E : RD, E.S = upd (D.R kk).S s (swr ((D.R kk).S s) i zT) ∧ Wl w' (D.ring kk E) ∧ Only D.fp w w' ∧ ∀ g, (D.ring kk E).fp g → D.fp g ∨ w.heap.size ≤ g := by
  have hx : IdOk t.1 := (h.rg kk hkk).ok s hs t (List.mem_of_getElem? ht)
  have HX := Lib.hid hx
  have HM := Lib.hid hM
  have HT := Lib.hid ht
  obtain ⟨x, y, z⟩ := t
  simp only at HX HM
  clear hx hM ht
  have mixed := insTh.mixed
  have hbA : Below w.heap.size w (w.alloc (.cells #[.int .u64 0, .int .u64 0, .int .i64 0] 27)) := (Below.refl _ _).alloc (Nat.le_refl _) _
  have hsA : (w.alloc (.cells #[.int .u64 0, .int .u64 0, .int .i64 0] 27)).heap.size = w.heap.size + 1 := by simp
  have hzA : ∀ o, (w.alloc (.cells #[.int .u64 0, .int .u64 0, .int .i64 0] 27)).frozen? ⟨w.heap.size, o, none⟩ = false := fun o => by simp
  have hqA := zero_three w
  have hA := h.below hbA
  have hc := wcreated D _ hA
  have r0 := hA.cr 0 (by omega)
  have r1 := hA.cr 1 (by omega)
  have r2 := hA.cr 2 (by omega)
  have r3 := hA.cr 3 (by omega)
  obtain ⟨T, hT⟩ : ∃ T, w.heap.size = T := ⟨_, rfl⟩
  have hqT : D.q < T := by have := h.qlt; omega
  have H0 := Lib.hid h
  obtain ⟨A, hAe⟩ : ∃ A : Array Value, #[Value.pointer (some ⟨(D.R 0).r, 0, none⟩), .pointer (some ⟨(D.R 1).r, 0, none⟩), .pointer (some ⟨(D.R 2).r, 0, none⟩), .pointer (some ⟨(D.R 3).r, 0, none⟩)] = A := ⟨_, rfl⟩
  have HIX : Hid (∀ k : Nat, k < 4 → ∀ w, Sem.run Tryd.prog (Instr.index 79 (.agg A) (.int .i64 k)) w = .ok (.pointer (some ⟨(D.R k).r, 0, none⟩)) w) := Lib.hid (fun k hk w => by
    subst hAe
    refine run_index_arr Tryd.underlying79 Tryd.sizeOf38 Tryd.isAgg38 k hk (by omega) ?_ w
    match k, hk with
    | 0, _ => rfl
    | 1, _ => rfl
    | 2, _ => rfl
    | 3, _ => rfl)
  go_enter Tryd.func40, Tryd.ntmps40
  go_wp2_with fail
  rw [hT] at hqA hzA hsA
  generalize w.alloc (.cells #[.int .u64 0, .int .u64 0, .int .i64 0] 27) = W1 at hbA hsA hzA hqA hc hA r0 r1 r2 r3 ⊢
  have HA := Lib.hid (And.intro hbA (And.intro hsA (And.intro hzA (And.intro hqA hA))))
  clear hA hzA hqA hbA h
  go_wp2_with (go_at_call 82; (with_reducible refine hc.mono ?_); rintro e w1 ⟨rfl, rfl⟩)
  try rw [hAe]
  clear r0 r1 r2 r3 hc hsA
  go_loopg [20] 4 (fun kx s20 wr => ∃ (j : Nat), s20 = .int .i64 j ∧ j ≤ kk ∧ 4 - j ≤ kx ∧ Hid (Below w1.heap.size w1 wr))
  case atStart => exact ⟨0, rfl, by omega, by omega, Below.refl _ _⟩
  case round =>
    obtain ⟨j, rfl, hj, hjx, HB⟩ := hrel
    by_cases hlt : j < kk
    · have hj4 : j < 4 := by omega
      have hj4z : (j : Int) < 4 := by omega
      have hix := HIX.out j hj4
      have hg := drop_none x wr ((HA.out.2.2.2.2.below HB.out).rg j hj4) HX.out (HM.out j hlt)
      go_wp2_with (go_at_call 71; (with_reducible refine hg.mono ?_); rintro e w2 ⟨rfl, hb2⟩; have HB2 := Lib.hid (HB.out.trans ((hb2.trans ((Below.refl w2.heap.size w2).alloc (Nat.le_refl _) (.cells #[.int .u64 0, .int .u64 0, .int .i64 0] 27) |>.mono hb2.size)).mono HB.out.size)); clear hb2 hg)
      go_roundg (4 - (j + 1))
      case measure => omega
      case rel => exact ⟨j + 1, by go_num, by omega, by omega, HB2⟩
    · obtain rfl : j = kk := by omega
      have hj4z : (j : Int) < 4 := by omega
      have hix := HIX.out j hkk
      have hwr := HA.out.2.2.2.2.below HB.out
      have hg := drop_some (t := (x, y, z)) wr (hwr.rg j hkk) hs HT.out
      simp only at hg
      have HWR := Lib.hid hwr
      obtain ⟨hbA, hsA, hzA, hqA, hA⟩ := HA.out
      have q0 := (HB.out.cell (p := ⟨T, 0, none⟩) (by show T < _; omega)).trans hqA.1
      have q1 := (HB.out.cell (p := ⟨T, 1, none⟩) (by show T < _; omega)).trans hqA.2.1
      have q2 := (HB.out.cell (p := ⟨T, 2, none⟩) (by show T < _; omega)).trans hqA.2.2
      have zf := fun o => (HB.out.frozen (p := ⟨T, o, none⟩) (by show T < _; omega)).trans (hzA o)
      have hTr : T < wr.heap.size := by have := HB.out.size; omega
      have HFT : Hid (¬ (D.R j).fp T) := Lib.hid (fun hf => by have := H0.out.lt (.inr (.inr ⟨j, hkk, hf⟩)); omega)
      clear hbA hsA hzA hqA hA hwr
      go_wp2_with (go_at_call 71; (with_reducible refine hg.mono ?_); rintro e w2 ⟨rfl, V', M', hRn, ho2, hfp⟩; have q0' := (ho2.cell (p := ⟨T, 0, none⟩) hTr HFT.out).trans q0; have q1' := (ho2.cell (p := ⟨T, 1, none⟩) hTr HFT.out).trans q1; have q2' := (ho2.cell (p := ⟨T, 2, none⟩) hTr HFT.out).trans q2; have z0' := (ho2.frozen (p := ⟨T, 0, none⟩) hTr HFT.out).trans (zf 0); have z1' := (ho2.frozen (p := ⟨T, 1, none⟩) hTr HFT.out).trans (zf 1); have z2' := (ho2.frozen (p := ⟨T, 2, none⟩) hTr HFT.out).trans (zf 2); have HD2 := Lib.hid (And.intro hRn (And.intro ho2 hfp)); have hT2 : T < w2.heap.size := Nat.lt_of_lt_of_le hTr ho2.size; clear hRn ho2 hfp hg q0 q1 q2 zf)
      obtain ⟨k0, k1, k2⟩ := three_read (u := .int .u64 x) (v := .int .u64 y) (z := .int .i64 z) q0' q1' q2'
      have hfin := cancel_fin (T := T) (s := s) (i := i) HWR.out hkk HD2.out.1 HD2.out.2.1 HD2.out.2.2 (HA.out.1.trans (HB.out.mono HA.out.1.size)) (by omega) (fun g hg => H0.out.lt hg) (.int .u64 x) (.int .u64 y) (.int .i64 z)
      have h3s : T < (((w2.setCell ⟨T, 0, none⟩ (.int .u64 x)).setCell ⟨T, 1, none⟩ (.int .u64 y)).setCell ⟨T, 2, none⟩ (.int .i64 z)).heap.size := by simpa using hT2
      generalize ((w2.setCell ⟨T, 0, none⟩ (.int .u64 x)).setCell ⟨T, 1, none⟩ (.int .u64 y)).setCell ⟨T, 2, none⟩ (.int .i64 z) = W3 at k0 k1 k2 hfin h3s ⊢
      have m0 := (World.cell?_alloc_lt (w := W3) (a := ⟨T, 0, none⟩) (o := .cells #[.int .u64 x, .int .u64 y, .int .i64 z] 27) h3s).trans k0
      have m1 := (World.cell?_alloc_lt (w := W3) (a := ⟨T, 1, none⟩) (o := .cells #[.int .u64 x, .int .u64 y, .int .i64 z] 27) h3s).trans k1
      have m2 := (World.cell?_alloc_lt (w := W3) (a := ⟨T, 2, none⟩) (o := .cells #[.int .u64 x, .int .u64 y, .int .i64 z] 27) h3s).trans k2
      have hbx : Below W3.heap.size W3 (W3.alloc (.cells #[.int .u64 x, .int .u64 y, .int .i64 z] 27)) := (Below.refl _ _).alloc (Nat.le_refl _) _
      obtain ⟨E, f1, f2, f3, f4⟩ := hfin
      refine bodyPost_ret (v := .tuple #[.agg #[.int .u64 x, .int .u64 y, .int .i64 z], .bool true]) (by simp [results, Tryd.results40, go_sem, m0, m1, m2]) rfl ⟨rfl, E, f1, f2.below hbx, f3.trans (Only.below hbx), f4⟩
/- A wheel's Cancel of what waits beyond; Cancel in general. -/
open Go.RowKit
theorem cancel_far_fin {D : WD} {w wB w3 : World} {T n cap : Nat} {g i : Nat} (hW : Wl wB D) (hbv : D.bv = .slice (some ⟨g, 0, none⟩) n cap) (hO : OT w3 0 (.slice (some ⟨g, 0, none⟩) (n - 1) cap) (cutT D.BL i)) (ho : Only (fun k => k = g) wB w3) (hb : Below w.heap.size w wB) (hT : w.heap.size ≤ T) (hlt : ∀ g, D.fp g → g < w.heap.size) (hi : i < D.BL.length) (a b c : Value) :
    Wl ((((w3.setCell ⟨D.q, 5, none⟩ (.slice (some ⟨g, 0, none⟩) (n - 1) cap)).setCell ⟨T, 0, none⟩ a).setCell ⟨T, 1, none⟩ b).setCell ⟨T, 2, none⟩ c) { D with bv := .slice (some ⟨g, 0, none⟩) (n - 1) cap, BL := cutT D.BL i } ∧ Only D.fp w ((((w3.setCell ⟨D.q, 5, none⟩ (.slice (some ⟨g, 0, none⟩) (n - 1) cap)).setCell ⟨T, 0, none⟩ a).setCell ⟨T, 1, none⟩ b).setCell ⟨T, 2, none⟩ c) := by
  have hob : D.bv.ownBlock = some g := by rw [hbv]; rfl
  have ho' : Only (fun g => D.bv.ownBlock = some g) wB w3 := ho.imp fun k hk => by rw [hk]; exact hob
  have hl : (cutT D.BL i).length < 1000000 := by rw [cutT_len _ _ hi]; have := hW.few; omega
  have h1 := hW.beyond ho' hO (.inl (by rw [hob]; rfl)) hl
  obtain ⟨D', hD'⟩ : ∃ D' : WD, D' = { D with bv := .slice (some ⟨g, 0, none⟩) (n - 1) cap, BL := cutT D.BL i } := ⟨_, rfl⟩
  rw [← hD'] at h1 ⊢
  have hf : ∀ k, D'.fp k → D.fp k := by
    intro k hk
    rw [hD'] at hk
    rcases hk with h | h | h
    · exact .inl h
    · exact .inr (.inl (by rw [hob]; exact h))
    · exact .inr (.inr h)
  have hq : D.fp D.q := .inl rfl
  have hg : D.fp g := .inr (.inl hob)
  constructor
  · have ho2 : Only (fun k => k = T) (w3.setCell ⟨D.q, 5, none⟩ (.slice (some ⟨g, 0, none⟩) (n - 1) cap)) ((((w3.setCell ⟨D.q, 5, none⟩ (.slice (some ⟨g, 0, none⟩) (n - 1) cap)).setCell ⟨T, 0, none⟩ a).setCell ⟨T, 1, none⟩ b).setCell ⟨T, 2, none⟩ c) := Only.setCell (Only.setCell (Only.setCell (Only.refl (fun k => k = T) _) ⟨T, 0, none⟩ a (show T = T from rfl)) ⟨T, 1, none⟩ b (show T = T from rfl)) ⟨T, 2, none⟩ c (show T = T from rfl)
    exact h1.only ho2 fun k hk e => by have := hlt k (hf k hk); omega
  · have k1 : Only D.fp w wB := Only.below hb
    have k2 : Only D.fp w w3 := k1.trans (ho.imp fun k hk => by rw [hk]; exact hg)
    have k3 : Only D.fp w (w3.setCell ⟨D.q, 5, none⟩ (.slice (some ⟨g, 0, none⟩) (n - 1) cap)) := k2.setCell ⟨D.q, 5, none⟩ _ hq
    exact ((k3.setCell_new (p := ⟨T, 0, none⟩) hT _).setCell_new (p := ⟨T, 1, none⟩) hT _).setCell_new (p := ⟨T, 2, none⟩) hT _
set_option maxRecDepth 100000 in
set_option maxHeartbeats 8000000 in
theorem wcancel_far (D : WD) (t : Th) (w : World) (h : Wl w D) {kk : Nat} (ht : D.BL[kk]? = some t) (hx : IdOk t.1) (hM : ∀ k, k < 4 → (D.R k).M t.1 = none) (hB : ∀ u ∈ D.BL.take kk, u.1 ≠ t.1) : Calls Tryd.prog 40 #[.pointer (some ⟨D.q, 0, none⟩), .int .u64 t.1] w fun e w' => e = .returned (.tuple #[.agg #[.int .u64 t.1, .int .u64 t.2.1, .int .i64 t.2.2], .bool true]) ∧ ∃ v, Wl w' { D with bv := v, BL := cutT D.BL kk } ∧ v.ownBlock = D.bv.ownBlock ∧ Only D.fp w w' := by
  have HX := Lib.hid hx
  have HM := Lib.hid hM
  have HBL := Lib.hid hB
  have HT := Lib.hid ht
  obtain ⟨x, y, z⟩ := t
  simp only at HX HM HBL
  clear hx hM hB ht
  have mixed := insTh.mixed
  have hbA : Below w.heap.size w (w.alloc (.cells #[.int .u64 0, .int .u64 0, .int .i64 0] 27)) := (Below.refl _ _).alloc (Nat.le_refl _) _
  have hsA : (w.alloc (.cells #[.int .u64 0, .int .u64 0, .int .i64 0] 27)).heap.size = w.heap.size + 1 := by simp
  have hzA : ∀ o, (w.alloc (.cells #[.int .u64 0, .int .u64 0, .int .i64 0] 27)).frozen? ⟨w.heap.size, o, none⟩ = false := fun o => by simp
  have hqA := zero_three w
  have hA := h.below hbA
  have hc := wcreated D _ hA
  have r0 := hA.cr 0 (by omega)
  have r1 := hA.cr 1 (by omega)
  have r2 := hA.cr 2 (by omega)
  have r3 := hA.cr 3 (by omega)
  obtain ⟨T, hT⟩ : ∃ T, w.heap.size = T := ⟨_, rfl⟩
  have hqT : D.q < T := by have := h.qlt; omega
  have H0 := Lib.hid h
  obtain ⟨A, hAe⟩ : ∃ A : Array Value, #[Value.pointer (some ⟨(D.R 0).r, 0, none⟩), .pointer (some ⟨(D.R 1).r, 0, none⟩), .pointer (some ⟨(D.R 2).r, 0, none⟩), .pointer (some ⟨(D.R 3).r, 0, none⟩)] = A := ⟨_, rfl⟩
  have HIX : Hid (∀ k : Nat, k < 4 → ∀ w, Sem.run Tryd.prog (Instr.index 79 (.agg A) (.int .i64 k)) w = .ok (.pointer (some ⟨(D.R k).r, 0, none⟩)) w) := Lib.hid (fun k hk w => by
    subst hAe
    refine run_index_arr Tryd.underlying79 Tryd.sizeOf38 Tryd.isAgg38 k hk (by omega) ?_ w
    match k, hk with
    | 0, _ => rfl
    | 1, _ => rfl
    | 2, _ => rfl
    | 3, _ => rfl)
  go_enter Tryd.func40, Tryd.ntmps40
  go_wp2_with fail
  rw [hT] at hqA hzA hsA
  generalize w.alloc (.cells #[.int .u64 0, .int .u64 0, .int .i64 0] 27) = W1 at hbA hsA hzA hqA hc hA r0 r1 r2 r3 ⊢
  have HA := Lib.hid (And.intro hbA (And.intro hsA (And.intro hzA (And.intro hqA hA))))
  clear hA hzA hqA hbA h
  go_wp2_with (go_at_call 82; (with_reducible refine hc.mono ?_); rintro e w1 ⟨rfl, rfl⟩)
  try rw [hAe]
  clear r0 r1 r2 r3 hc hsA
  go_loopg [20] 4 (fun kx s20 wr => ∃ (j : Nat), s20 = .int .i64 j ∧ j ≤ 4 ∧ 4 - j ≤ kx ∧ Hid (Below w1.heap.size w1 wr))
  case atStart => exact ⟨0, rfl, by omega, by omega, Below.refl _ _⟩
  case round =>
    obtain ⟨j, rfl, hj, hjx, HB⟩ := hrel
    by_cases hlt : j < 4
    · have hj4 : j < 4 := by omega
      have hj4z : (j : Int) < 4 := by omega
      have hix := HIX.out j hj4
      have hg := drop_none x wr ((HA.out.2.2.2.2.below HB.out).rg j hj4) HX.out (HM.out j hj4)
      go_wp2_with (go_at_call 71; (with_reducible refine hg.mono ?_); rintro e w2 ⟨rfl, hb2⟩; have HB2 := Lib.hid (HB.out.trans ((hb2.trans ((Below.refl w2.heap.size w2).alloc (Nat.le_refl _) (.cells #[.int .u64 0, .int .u64 0, .int .i64 0] 27) |>.mono hb2.size)).mono HB.out.size)); clear hb2 hg)
      go_roundg (4 - (j + 1))
      case measure => omega
      case rel => exact ⟨j + 1, by go_num, by omega, by omega, HB2⟩
    · have hj4z : ¬ (j : Int) < 4 := by omega
      have hf := wfar D x wr (HA.out.2.2.2.2.below HB.out)
      obtain ⟨hbA, hsA, hzA, hqA, hA⟩ := HA.out
      have q0 := (HB.out.cell (p := ⟨T, 0, none⟩) (by show T < _; omega)).trans hqA.1
      have q1 := (HB.out.cell (p := ⟨T, 1, none⟩) (by show T < _; omega)).trans hqA.2.1
      have q2 := (HB.out.cell (p := ⟨T, 2, none⟩) (by show T < _; omega)).trans hqA.2.2
      have zf := fun o => (HB.out.frozen (p := ⟨T, o, none⟩) (by show T < _; omega)).trans (hzA o)
      have hTr : T < wr.heap.size := by have := HB.out.size; omega
      clear hbA hsA hzA hqA hA
      have HKL : Hid (kk < D.BL.length ∧ D.BL.length < 1000000) := Lib.hid ⟨(List.getElem?_eq_some_iff.1 HT.out).1, H0.out.few⟩
      obtain ⟨g, cap, hbv, hgl, hob, -, d0, d1, d2⟩ := (HA.out.2.2.2.2.below HB.out).own.block HT.out
      have HBV := Lib.hid hbv
      have HGN : Hid (g ≠ T ∧ g ≠ D.q ∧ g < wr.heap.size) := Lib.hid ⟨fun e => by have := H0.out.lt (.inr (.inl hob)); omega, fun e => H0.out.ap3 (by rw [hob, e]), hgl⟩
      have c5 := (HA.out.2.2.2.2.below HB.out).c5
      have f5 := (HA.out.2.2.2.2.below HB.out).fro 5
      have HQL : Hid (D.q < wr.heap.size) := Lib.hid (by omega)
      rw [hbv] at c5
      obtain ⟨n, hn⟩ : ∃ n, D.BL.length = n := ⟨_, rfl⟩
      rw [hn] at c5 HBV HKL
      have HN := Lib.hid hn
      clear hbv hgl hob hn
      have kn : (kk : Int) < (n : Int) := by have := HKL.out.1; omega
      have k0' : (0 : Int) ≤ (kk : Int) := by omega
      have kneg : ¬ (kk : Int) < 0 := by omega
      go_wp2_with (go_at_call 88; (with_reducible refine hf.mono ?_); rintro e w2 ⟨r, rfl, hF, hb2⟩; obtain rfl := hF.some HT.out HBL.out; have q0' := (hb2.cell (p := ⟨T, 0, none⟩) hTr).trans q0; have q1' := (hb2.cell (p := ⟨T, 1, none⟩) hTr).trans q1; have q2' := (hb2.cell (p := ⟨T, 2, none⟩) hTr).trans q2; have z0' := (hb2.frozen (p := ⟨T, 0, none⟩) hTr).trans (zf 0); have z1' := (hb2.frozen (p := ⟨T, 1, none⟩) hTr).trans (zf 1); have z2' := (hb2.frozen (p := ⟨T, 2, none⟩) hTr).trans (zf 2); have e0 := (hb2.cell (p := ⟨g, _, none⟩) HGN.out.2.2).trans d0; have e1 := (hb2.cell (p := ⟨g, _, none⟩) HGN.out.2.2).trans d1; have e2 := (hb2.cell (p := ⟨g, _, none⟩) HGN.out.2.2).trans d2; have c5' := (hb2.cell (p := ⟨D.q, 5, none⟩) HQL.out).trans c5; have f5' := (hb2.frozen (p := ⟨D.q, 5, none⟩) HQL.out).trans f5; have hbx : Below w2.heap.size w2 (w2.alloc (.cells #[.int .u64 x, .int .u64 y, .int .i64 z] 27)) := (Below.refl _ _).alloc (Nat.le_refl _) _; have HB2 := Lib.hid ((HB.out.trans (hb2.mono HB.out.size)).trans (hbx.mono (Nat.le_trans HB.out.size hb2.size))); have hT2 : T < w2.heap.size := Nat.lt_of_lt_of_le hTr hb2.size; have HQ2 : Hid (D.q < w2.heap.size) := Lib.hid (Nat.lt_of_lt_of_le HQL.out hb2.size); have c5b := (hbx.cell (p := ⟨D.q, 5, none⟩) HQ2.out).trans c5'; have f5b := (hbx.frozen (p := ⟨D.q, 5, none⟩) HQ2.out).trans f5'; have HQT := Lib.hid (And.intro ((hbx.cell (p := ⟨T, 0, none⟩) hT2).trans q0') (And.intro ((hbx.cell (p := ⟨T, 1, none⟩) hT2).trans q1') ((hbx.cell (p := ⟨T, 2, none⟩) hT2).trans q2'))); have HZT := Lib.hid (And.intro ((hbx.frozen (p := ⟨T, 0, none⟩) hT2).trans z0') (And.intro ((hbx.frozen (p := ⟨T, 1, none⟩) hT2).trans z1') ((hbx.frozen (p := ⟨T, 2, none⟩) hT2).trans z2'))); have HG2 : Hid (g ≠ w2.heap.size) := Lib.hid (by have := HGN.out.2.2; have := hb2.size; omega); have HX2 : Hid ((w2.alloc (.cells #[.int .u64 x, .int .u64 y, .int .i64 z] 27)).cell? ⟨w2.heap.size, 0, none⟩ = some (.int .u64 x) ∧ (w2.alloc (.cells #[.int .u64 x, .int .u64 y, .int .i64 z] 27)).cell? ⟨w2.heap.size, 1, none⟩ = some (.int .u64 y) ∧ (w2.alloc (.cells #[.int .u64 x, .int .u64 y, .int .i64 z] 27)).cell? ⟨w2.heap.size, 2, none⟩ = some (.int .i64 z)) := Lib.hid ⟨by simp, by simp, by simp⟩; have HS2 : Hid (w2.heap.size < (w2.alloc (.cells #[.int .u64 x, .int .u64 y, .int .i64 z] 27)).heap.size) := Lib.hid (by simp); clear hb2 hf q0 q1 q2 zf d0 d1 d2 c5 f5 hbx q0' q1' q2' z0' z1' z2')
      clear c5' f5'
      generalize w2.alloc (.cells #[.int .u64 x, .int .u64 y, .int .i64 z] 27) = wB at HB2 c5b f5b HQT HZT HX2 HS2 ⊢
      have hdel := del_any (w := wB) (base := 0) (g := g) (n := n) (cap := cap) (i := kk) (l := D.BL) (by have := (HA.out.2.2.2.2.below HB2.out).own; rw [HBV.out] at this; exact this) HN.out HKL.out.1 (by have := HKL.out.2; omega)
      clear e0 e1 e2
      have hw64 : Value.int .i64 (wrap64 ((kk : Int) + 1)) = .int .i64 ((kk : Int) + 1) := by rw [show wrap64 ((kk : Int) + 1) = (kk : Int) + 1 from by have hk6 := HKL.out.2; have hk7 := HKL.out.1; unfold wrap64; omega]
      rw [hw64]
      refine hdel.mono ?_
      rintro e w3 ⟨rfl, hO3, ho3⟩
      have hTB : T < wB.heap.size := (by have := HS2.out; omega)
      have hQB : D.q < wB.heap.size := (by have := HS2.out; have := HQ2.out; omega)
      have c5c := (ho3.cell (p := ⟨D.q, 5, none⟩) hQB (fun e => HGN.out.2.1 e.symm)).trans c5b
      have f5c := (ho3.frozen (p := ⟨D.q, 5, none⟩) hQB (fun e => HGN.out.2.1 e.symm)).trans f5b
      have HTC := Lib.hid (And.intro ((ho3.cell (p := ⟨T, 0, none⟩) hTB (fun e => HGN.out.1 e.symm)).trans HQT.out.1) (And.intro ((ho3.cell (p := ⟨T, 1, none⟩) hTB (fun e => HGN.out.1 e.symm)).trans HQT.out.2.1) ((ho3.cell (p := ⟨T, 2, none⟩) hTB (fun e => HGN.out.1 e.symm)).trans HQT.out.2.2)))
      have HZC := Lib.hid (And.intro ((ho3.frozen (p := ⟨T, 0, none⟩) hTB (fun e => HGN.out.1 e.symm)).trans HZT.out.1) (And.intro ((ho3.frozen (p := ⟨T, 1, none⟩) hTB (fun e => HGN.out.1 e.symm)).trans HZT.out.2.1) ((ho3.frozen (p := ⟨T, 2, none⟩) hTB (fun e => HGN.out.1 e.symm)).trans HZT.out.2.2)))
      have HXC := Lib.hid (And.intro ((ho3.cell (p := ⟨w2.heap.size, 0, none⟩) HS2.out (fun e => HG2.out e.symm)).trans HX2.out.1) (And.intro ((ho3.cell (p := ⟨w2.heap.size, 1, none⟩) HS2.out (fun e => HG2.out e.symm)).trans HX2.out.2.1) ((ho3.cell (p := ⟨w2.heap.size, 2, none⟩) HS2.out (fun e => HG2.out e.symm)).trans HX2.out.2.2)))
      have HO3 := Lib.hid (And.intro hO3 ho3)
      have bx0 := (World.cell?_setCell_other w3 ⟨D.q, 5, none⟩ ⟨w2.heap.size, 0, none⟩ (.slice (some ⟨g, 0, none⟩) (n - 1) cap) (fun e => by injection e with e1 e2; have := HQ2.out; omega)).trans HXC.out.1
      have tq0 := (World.cell?_setCell_other w3 ⟨D.q, 5, none⟩ ⟨T, 0, none⟩ (.slice (some ⟨g, 0, none⟩) (n - 1) cap) (fun e => by injection e with e1 e2; omega)).trans HTC.out.1
      have tz0 : (w3.setCell ⟨D.q, 5, none⟩ (.slice (some ⟨g, 0, none⟩) (n - 1) cap)).frozen? ⟨T, 0, none⟩ = false := by simpa using HZC.out.1
      have bx1 := (World.cell?_setCell_other w3 ⟨D.q, 5, none⟩ ⟨w2.heap.size, 1, none⟩ (.slice (some ⟨g, 0, none⟩) (n - 1) cap) (fun e => by injection e with e1 e2; have := HQ2.out; omega)).trans HXC.out.2.1
      have tq1 := (World.cell?_setCell_other w3 ⟨D.q, 5, none⟩ ⟨T, 1, none⟩ (.slice (some ⟨g, 0, none⟩) (n - 1) cap) (fun e => by injection e with e1 e2; omega)).trans HTC.out.2.1
      have tz1 : (w3.setCell ⟨D.q, 5, none⟩ (.slice (some ⟨g, 0, none⟩) (n - 1) cap)).frozen? ⟨T, 1, none⟩ = false := by simpa using HZC.out.2.1
      have bx2 := (World.cell?_setCell_other w3 ⟨D.q, 5, none⟩ ⟨w2.heap.size, 2, none⟩ (.slice (some ⟨g, 0, none⟩) (n - 1) cap) (fun e => by injection e with e1 e2; have := HQ2.out; omega)).trans HXC.out.2.2
      have tq2 := (World.cell?_setCell_other w3 ⟨D.q, 5, none⟩ ⟨T, 2, none⟩ (.slice (some ⟨g, 0, none⟩) (n - 1) cap) (fun e => by injection e with e1 e2; omega)).trans HTC.out.2.2
      have tz2 : (w3.setCell ⟨D.q, 5, none⟩ (.slice (some ⟨g, 0, none⟩) (n - 1) cap)).frozen? ⟨T, 2, none⟩ = false := by simpa using HZC.out.2.2
      clear hO3 ho3 hdel c5b f5b
      go_wp2_with fail
      obtain ⟨k0, k1, k2⟩ := three_read (u := .int .u64 x) (v := .int .u64 y) (z := .int .i64 z) tq0 tq1 tq2
      have hfin := cancel_far_fin (w := w) (T := T) (i := kk) (HA.out.2.2.2.2.below HB2.out) HBV.out HO3.out.1 HO3.out.2 (HA.out.1.trans (HB2.out.mono HA.out.1.size)) (by omega) (fun g hg => H0.out.lt hg) (by rw [HN.out]; exact HKL.out.1) (.int .u64 x) (.int .u64 y) (.int .i64 z)
      refine bodyPost_ret (v := .tuple #[.agg #[.int .u64 x, .int .u64 y, .int .i64 z], .bool true]) (by simp [results, Tryd.results40, go_sem, k0, k1, k2]) rfl ⟨rfl, _, hfin.1, by rw [HBV.out]; rfl, hfin.2⟩
/- Cancel over what holds between calls. -/
open Go.RowKit
theorem swr_perm1 {l : List Th} {i : Nat} {t : Th} (ht : l[i]? = some t) : (t :: swr l i zT).Perm l := by
  obtain ⟨hi, rfl⟩ := List.getElem?_eq_some_iff.1 ht
  exact swr_perm l i zT hi
theorem cutT_perm {l : List Th} {i : Nat} {t : Th} (ht : l[i]? = some t) : (t :: cutT l i).Perm l := by
  obtain ⟨hi, rfl⟩ := List.getElem?_eq_some_iff.1 ht
  unfold cutT
  have h1 : l.take i ++ l[i] :: l.drop (i + 1) = l := by
    rw [← List.drop_eq_getElem_cons hi]; exact List.take_append_drop i l
  have h2 : (l[i] :: (l.take i ++ l.drop (i + 1))).Perm (l.take i ++ l[i] :: l.drop (i + 1)) := List.perm_middle.symm
  rw [h1] at h2
  exact h2
theorem WI.less {B a : Nat} {w w' : World} {D D' : WD} {t : Th} (h : WI B w D a) (hw : Wl w' D') (hn : D'.now = D.now) (hp : (t :: D'.things).Perm D.things) (hpos : ∀ k, k < 4 → PosR a D' k) (hfar : ∀ u ∈ D'.BL, ∃ d : Nat, u.2.2 = (d : Int) ∧ d ≤ 1125899906842624 ∧ lvN a d = 4) (hb : ∀ g, D'.fp g → B ≤ g) : WI B w' D' a := by
  refine ⟨hw, hn.trans h.now, h.ha, hpos, hfar, fun u hu => h.ids u (hp.mem_iff.1 (List.mem_cons_of_mem _ hu)), ?_, ?_, hb⟩
  · have h1 := nd_perm hp h.nd
    exact (List.nodup_cons.1 h1).2
  · have h1 := hp.length_eq
    have h2 := h.few
    rw [List.length_cons] at h1
    omega
/-- Cancel of what waits. -/
theorem wcancel {B a : Nat} {D : WD} {w : World} (h : WI B w D a) (hB : B ≤ w.heap.size) {t : Th} (ht : t ∈ D.things) : Calls Tryd.prog 40 #[.pointer (some ⟨D.q, 0, none⟩), .int .u64 t.1] w fun e w' => e = .returned (.tuple #[.agg #[.int .u64 t.1, .int .u64 t.2.1, .int .i64 t.2.2], .bool true]) ∧ ∃ D', WI B w' D' a ∧ D'.q = D.q ∧ (t :: D'.things).Perm D.things ∧ Only D.fp w w' ∧ ∀ g, D'.fp g → D.fp g ∨ w.heap.size ≤ g := by
  rcases h.where ht with ⟨k, s, i, hk, hs, hi, hM⟩ | ⟨i, hi, hM, hBL⟩
  · refine (wcancel_ring D t w h.wl hk hs hi hM).mono ?_
    rintro e w' ⟨he, E, hE, h1, h2, h3⟩
    have hsp := swr_perm1 hi
    have htr := things_ring D hk hs E _ hE
    have hp : (t :: (D.ring k E).things).Perm D.things := by
      have p1 : ((D.ring k E).things ++ (t :: swr ((D.R k).S s) i zT)).Perm (D.things ++ swr ((D.R k).S s) i zT) := (List.Perm.append_left _ hsp).trans htr
      have p2 : ((t :: (D.ring k E).things) ++ swr ((D.R k).S s) i zT).Perm ((D.ring k E).things ++ (t :: swr ((D.R k).S s) i zT)) := List.perm_middle.symm
      exact (List.perm_append_right_iff _).1 (p2.trans p1)
    refine ⟨he, D.ring k E, h.less h1 rfl hp ?_ h.far ?_, rfl, hp, h2, h3⟩
    · intro j hj
      by_cases e1 : j = k
      · subst e1
        intro s2 hs2 u hu
        have e2 : (D.ring j E).R j = E := by show upd D.R j E j = E; unfold upd; rw [if_pos rfl]
        rw [e2, hE] at hu
        by_cases e3 : s2 = s
        · subst e3
          have e4 : upd (D.R j).S s2 (swr ((D.R j).S s2) i zT) s2 = swr ((D.R j).S s2) i zT := by unfold upd; rw [if_pos rfl]
          rw [e4] at hu
          exact h.pos j hj s2 hs2 u (hsp.mem_iff.1 (List.mem_cons_of_mem _ hu))
        · have e4 : upd (D.R j).S s (swr ((D.R j).S s) i zT) s2 = (D.R j).S s2 := by unfold upd; rw [if_neg e3]
          rw [e4] at hu
          exact h.pos j hj s2 hs2 u hu
      · have e2 : (D.ring k E).R j = D.R j := by show upd D.R k E j = D.R j; unfold upd; rw [if_neg e1]
        exact (h.pos j hj).of (by rw [e2])
    · intro g hg
      rcases h3 g hg with h4 | h4
      · exact h.base g h4
      · omega
  · refine (wcancel_far D t w h.wl hi (h.ids t ht) hM hBL).mono ?_
    rintro e w' ⟨he, v, h1, h2, h3⟩
    have hcp := cutT_perm hi
    have hf : ∀ g, WD.fp { D with bv := v, BL := cutT D.BL i } g → D.fp g := by
      intro g hg
      rcases hg with h4 | h4 | h4
      · exact .inl h4
      · exact .inr (.inl (by rw [← h2]; exact h4))
      · exact .inr (.inr h4)
    have hp : (t :: WD.things { D with bv := v, BL := cutT D.BL i }).Perm D.things := by
      unfold WD.things
      have p1 := List.Perm.append_left (ringL (D.R 0).S 64 ++ (ringL (D.R 1).S 64 ++ (ringL (D.R 2).S 64 ++ ringL (D.R 3).S 64))) hcp
      have p2 : (t :: ((ringL (D.R 0).S 64 ++ (ringL (D.R 1).S 64 ++ (ringL (D.R 2).S 64 ++ ringL (D.R 3).S 64))) ++ cutT D.BL i)).Perm ((ringL (D.R 0).S 64 ++ (ringL (D.R 1).S 64 ++ (ringL (D.R 2).S 64 ++ ringL (D.R 3).S 64))) ++ (t :: cutT D.BL i)) := List.perm_middle.symm
      have p3 := p2.trans p1
      simp only [List.append_assoc] at p3
      exact p3
    refine ⟨he, _, h.less h1 rfl hp h.pos ?_ (fun g hg => h.base g (hf g hg)), rfl, hp, h3, fun g hg => .inl (hf g hg)⟩
    intro u hu
    exact h.far u (hcp.mem_iff.1 (List.mem_cons_of_mem _ hu))
/-- Cancel of what doesn't wait. -/
theorem wcancel_not {B a : Nat} {D : WD} {w : World} (h : WI B w D a) {x : Int} (hx : IdOk x) (ht : ∀ t ∈ D.things, t.1 ≠ x) : Calls Tryd.prog 40 #[.pointer (some ⟨D.q, 0, none⟩), .int .u64 x] w fun e w' => e = .returned (.tuple #[.agg #[.int .u64 0, .int .u64 0, .int .i64 0], .bool false]) ∧ Below w.heap.size w w' :=
  wcancel_none D x w h.wl hx (h.wl.notin (h.free ht)) (h.freeB ht)
/- WheelFull: what the law's calls tell. -/
open Go.RowKit
/-- While 256 are armed. -/
def FU (B q now : Nat) (due : Int) (k : Nat) (w0 wr : World) : Prop := ∃ D, WI B wr D now ∧ D.q = q ∧ D.things.length = k ∧ (∀ t, t ∈ D.things ↔ ∃ i : Nat, i < k ∧ t = ((i : Int), 0, due)) ∧ Below B w0 wr
/-- All are armed, and the one too many lies in its box. -/
def FW (B q now : Nat) (due : Int) (T : Nat) (w0 wr : World) : Prop := ∃ D, WI B wr D now ∧ D.q = q ∧ D.things.length = 256 ∧ (∀ t, t ∈ D.things ↔ ∃ i : Nat, i < 256 ∧ t = ((i : Int), 0, due)) ∧ Below B w0 wr ∧ ¬ D.fp T ∧ wr.heap[T]? = some (.cells #[.int .u64 1000, .int .u64 0, .int .i64 due] 27 (0, 0))
/-- One gone. -/
def FV (B q now : Nat) (due : Int) (T i : Nat) (w0 wr : World) : Prop := ∃ D, WI B wr D now ∧ D.q = q ∧ D.things.length = 255 ∧ (∀ t ∈ D.things, t.1 ≠ (i : Int) ∧ t.1 ≠ 1000) ∧ Below B w0 wr ∧ wr.heap[T]? = some (.cells #[.int .u64 1000, .int .u64 0, .int .i64 due] 27 (0, 0))
/-- One come. -/
def FZ (B q now : Nat) (i : Nat) (w0 wr : World) : Prop := ∃ D, WI B wr D now ∧ D.q = q ∧ 256 ≤ D.things.length ∧ (∀ t ∈ D.things, t.1 ≠ (i : Int)) ∧ Below B w0 wr
theorem heapW_new (w : World) (o : Obj) : (w.alloc o).heap[w.heap.size]? = some o := by
  show (w.heap.push o)[w.heap.size]? = some o
  simp
theorem FU.box {B q now : Nat} {due : Int} {w0 wr : World} (h : FU B q now due 256 w0 wr) (hB : B ≤ w0.heap.size) : FW B q now due wr.heap.size w0 (wr.alloc (.cells #[.int .u64 1000, .int .u64 0, .int .i64 due] 27)) := by
  obtain ⟨D, hwi, hq, hl, hm, hb⟩ := h
  have hbx : Below wr.heap.size wr (wr.alloc (.cells #[.int .u64 1000, .int .u64 0, .int .i64 due] 27)) := (Below.refl _ _).alloc (Nat.le_refl _) _
  exact ⟨D, hwi.below hbx, hq, hl, hm, hb.trans (hbx.mono (Nat.le_trans hB hb.size)), fun hf => by have := hwi.wl.lt hf; omega, heapW_new wr _⟩
theorem FW.below {B q now T : Nat} {due : Int} {w0 wr w2 : World} (h : FW B q now due T w0 wr) (hB : B ≤ w0.heap.size) (hb2 : Below wr.heap.size wr w2) : FW B q now due T w0 w2 := by
  obtain ⟨D, hwi, hq, hl, hm, hb, hf, ht⟩ := h
  exact ⟨D, hwi.below hb2, hq, hl, hm, hb.trans (hb2.mono (Nat.le_trans hB hb.size)), hf, (hb2.block T (Array.getElem?_eq_some_iff.mp ht).1).trans ht⟩
theorem FW.at {B q now T : Nat} {due : Int} {w0 wr : World} (h : FW B q now due T w0 wr) : wr.cell? ⟨T, 0, none⟩ = some (.int .u64 1000) ∧ wr.cell? ⟨T, 1, none⟩ = some (.int .u64 0) ∧ wr.cell? ⟨T, 2, none⟩ = some (.int .i64 due) := by
  obtain ⟨D, hwi, hq, hl, hm, hb, hf, ht⟩ := h
  simp [World.cell?, ht]
theorem FV.below {B q now T i : Nat} {due : Int} {w0 wr w2 : World} (h : FV B q now due T i w0 wr) (hB : B ≤ w0.heap.size) (hb2 : Below wr.heap.size wr w2) : FV B q now due T i w0 w2 := by
  obtain ⟨D, hwi, hq, hl, hm, hb, ht⟩ := h
  exact ⟨D, hwi.below hb2, hq, hl, hm, hb.trans (hb2.mono (Nat.le_trans hB hb.size)), (hb2.block T (Array.getElem?_eq_some_iff.mp ht).1).trans ht⟩
theorem FV.at {B q now T i : Nat} {due : Int} {w0 wr : World} (h : FV B q now due T i w0 wr) : wr.cell? ⟨T, 0, none⟩ = some (.int .u64 1000) ∧ wr.cell? ⟨T, 1, none⟩ = some (.int .u64 0) ∧ wr.cell? ⟨T, 2, none⟩ = some (.int .i64 due) := by
  obtain ⟨D, hwi, hq, hl, hm, hb, ht⟩ := h
  simp [World.cell?, ht]
theorem armE_ok {L : List Th} {t : Th} (h1 : InsB t.2.2 = true) (h2 : ∀ u ∈ L, u.1 ≠ t.1) (h3 : L.length < 256) : armE L t = 0 := by
  unfold armE
  rw [if_neg (by rw [h1]; decide), if_neg (by rintro ⟨u, hu, e⟩; exact h2 u hu e), if_neg (by omega)]
theorem armE_full {L : List Th} {t : Th} (h1 : InsB t.2.2 = true) (h2 : ∀ u ∈ L, u.1 ≠ t.1) (h3 : 256 ≤ L.length) : armE L t = 30 := by
  unfold armE
  rw [if_neg (by rw [h1]; decide), if_neg (by rintro ⟨u, hu, e⟩; exact h2 u hu e), if_pos h3]
theorem armE_there {L : List Th} {t u : Th} (h1 : InsB t.2.2 = true) (h2 : u ∈ L) (h3 : u.1 = t.1) : armE L t = 32 := by
  unfold armE
  rw [if_neg (by rw [h1]; decide), if_pos ⟨u, h2, h3⟩]
theorem FU.arm {B q now k : Nat} {due : Int} {w0 wr : World} (h : FU B q now due k w0 wr) (hB : B ≤ w0.heap.size) (hk : k < 256) (hd : InsB due = true) :
    Calls Tryd.prog 38 #[.pointer (some ⟨q, 0, none⟩), .agg #[.int .u64 (k : Int), .int .u64 0, .int .i64 due]] wr fun e w2 => e = .returned (.int .i64 0) ∧ FU B q now due (k + 1) w0 w2 := by
  obtain ⟨D, hwi, hq, hl, hm, hb⟩ := h
  subst hq
  have hdr : 0 ≤ due ∧ due ≤ 1125899906842624 := by unfold InsB at hd; exact of_decide_eq_true hd
  have hBr : B ≤ wr.heap.size := Nat.le_trans hB hb.size
  have harm := warm hwi hBr ((k : Int), 0, due) ⟨by show 0 ≤ (k : Int); omega, by show (k : Int) < 18446744073709551616; omega⟩ (by show -9223372036854775808 ≤ due ∧ due ≤ 9223372036854775807; omega)
  have hE : armE D.things ((k : Int), 0, due) = 0 := armE_ok hd (fun u hu => by obtain ⟨i, hi, rfl⟩ := (hm u).1 hu; show (i : Int) ≠ (k : Int); omega) (by omega)
  rw [hE] at harm
  refine harm.mono ?_
  rintro e w2 ⟨he, D', h1, h2, h3, h4, h5⟩
  rw [if_pos rfl] at h3
  refine ⟨he, D', h1, h2, by rw [h3.length_eq, List.length_append]; simp; omega, fun t => ?_, hb.trans (h4.toBelow hBr (fun g hg => hwi.base g hg))⟩
  rw [h3.mem_iff, List.mem_append, hm t, List.mem_singleton]
  constructor
  · rintro (⟨i, hi, rfl⟩ | rfl)
    · exact ⟨i, by omega, rfl⟩
    · exact ⟨k, by omega, rfl⟩
  · rintro ⟨i, hi, rfl⟩
    by_cases e1 : i = k
    · subst e1; exact .inr rfl
    · exact .inl ⟨i, by omega, rfl⟩
theorem FW.full {B q now T : Nat} {due : Int} {w0 wr : World} (h : FW B q now due T w0 wr) (hB : B ≤ w0.heap.size) (hd : InsB due = true) :
    Calls Tryd.prog 38 #[.pointer (some ⟨q, 0, none⟩), .agg #[.int .u64 1000, .int .u64 0, .int .i64 due]] wr fun e w2 => e = .returned (.int .i64 30) ∧ FW B q now due T w0 w2 := by
  have h' := h
  obtain ⟨D, hwi, hq, hl, hm, hb, -, -⟩ := h
  subst hq
  have hdr : 0 ≤ due ∧ due ≤ 1125899906842624 := by unfold InsB at hd; exact of_decide_eq_true hd
  refine (warm_full D B now ((1000 : Int), 0, due) wr hwi ⟨by show (0 : Int) ≤ 1000; omega, by show (1000 : Int) < 18446744073709551616; omega⟩ hd (fun u hu => by obtain ⟨i, hi, rfl⟩ := (hm u).1 hu; show (i : Int) ≠ 1000; omega) (by omega)).mono ?_
  rintro e w2 ⟨he, hb2⟩
  exact ⟨he, h'.below hB hb2⟩
theorem FW.there {B q now T : Nat} {due : Int} {w0 wr : World} (h : FW B q now due T w0 wr) (hB : B ≤ w0.heap.size) (hd : InsB due = true) (i : Nat) (hi : i < 256) :
    Calls Tryd.prog 38 #[.pointer (some ⟨q, 0, none⟩), .agg #[.int .u64 (i : Int), .int .u64 0, .int .i64 due]] wr fun e w2 => e = .returned (.int .i64 32) ∧ FW B q now due T w0 w2 := by
  have h' := h
  obtain ⟨D, hwi, hq, hl, hm, hb, -, -⟩ := h
  subst hq
  refine (warm_there D B now ((i : Int), 0, due) ((i : Int), 0, due) wr hwi hd ((hm _).2 ⟨i, hi, rfl⟩) rfl).mono ?_
  rintro e w2 ⟨he, hb2⟩
  exact ⟨he, h'.below hB hb2⟩
theorem FW.len {B q now T : Nat} {due : Int} {w0 wr : World} (h : FW B q now due T w0 wr) (hB : B ≤ w0.heap.size) :
    Calls Tryd.prog 33 #[.pointer (some ⟨q, 0, none⟩)] wr fun e w2 => e = .returned (.int .i64 256) ∧ FW B q now due T w0 w2 := by
  have h' := h
  obtain ⟨D, hwi, hq, hl, hm, hb, -, -⟩ := h
  subst hq
  refine (wlen D wr hwi.wl).mono ?_
  rintro e w2 ⟨he, hb2⟩
  rw [D.all_things, hl] at he
  exact ⟨he, h'.below hB hb2⟩
theorem FW.cancel {B q now T : Nat} {due : Int} {w0 wr : World} (h : FW B q now due T w0 wr) (hB : B ≤ w0.heap.size) (i : Nat) (hi : i < 256) :
    Calls Tryd.prog 40 #[.pointer (some ⟨q, 0, none⟩), .int .u64 (i : Int)] wr fun e w2 => e = .returned (.tuple #[.agg #[.int .u64 (i : Int), .int .u64 0, .int .i64 due], .bool true]) ∧ FV B q now due T i w0 w2 := by
  obtain ⟨D, hwi, hq, hl, hm, hb, hf, htb⟩ := h
  subst hq
  have hBr : B ≤ wr.heap.size := Nat.le_trans hB hb.size
  refine (wcancel hwi hBr (t := ((i : Int), 0, due)) ((hm _).2 ⟨i, hi, rfl⟩)).mono ?_
  rintro e w2 ⟨he, D', h1, h2, h3, h4, h5⟩
  refine ⟨he, D', h1, h2, ?_, ?_, hb.trans (h4.toBelow hBr (fun g hg => hwi.base g hg)), (h4.block T (Array.getElem?_eq_some_iff.mp htb).1 hf).trans htb⟩
  · have := h3.length_eq
    rw [List.length_cons, hl] at this
    omega
  · intro t ht
    have hnd := nd_perm h3 hwi.nd
    have hni := (List.nodup_cons.1 hnd).1
    obtain ⟨j, hj, rfl⟩ := (hm t).1 (h3.mem_iff.1 (List.mem_cons_of_mem _ ht))
    exact ⟨fun e => hni (List.mem_map.2 ⟨_, ht, e⟩), by show (j : Int) ≠ 1000; omega⟩
theorem FV.arm {B q now T i : Nat} {due : Int} {w0 wr : World} (h : FV B q now due T i w0 wr) (hB : B ≤ w0.heap.size) (hd : InsB due = true) (hi : i < 256) :
    Calls Tryd.prog 38 #[.pointer (some ⟨q, 0, none⟩), .agg #[.int .u64 1000, .int .u64 0, .int .i64 due]] wr fun e w2 => e = .returned (.int .i64 0) ∧ FZ B q now i w0 w2 := by
  obtain ⟨D, hwi, hq, hl, hm, hb, htb⟩ := h
  subst hq
  have hdr : 0 ≤ due ∧ due ≤ 1125899906842624 := by unfold InsB at hd; exact of_decide_eq_true hd
  have hBr : B ≤ wr.heap.size := Nat.le_trans hB hb.size
  have harm := warm hwi hBr ((1000 : Int), 0, due) ⟨by show (0 : Int) ≤ 1000; omega, by show (1000 : Int) < 18446744073709551616; omega⟩ (by show -9223372036854775808 ≤ due ∧ due ≤ 9223372036854775807; omega)
  have hE : armE D.things ((1000 : Int), 0, due) = 0 := armE_ok hd (fun u hu => (hm u hu).2) (by omega)
  rw [hE] at harm
  refine harm.mono ?_
  rintro e w2 ⟨he, D', h1, h2, h3, h4, h5⟩
  rw [if_pos rfl] at h3
  refine ⟨he, D', h1, h2, by rw [h3.length_eq, List.length_append]; simp; omega, fun t ht => ?_, hb.trans (h4.toBelow hBr (fun g hg => hwi.base g hg))⟩
  rcases List.mem_append.1 (h3.mem_iff.1 ht) with h6 | h6
  · exact (hm t h6).1
  · rw [List.mem_singleton.1 h6]; show (1000 : Int) ≠ (i : Int); omega
theorem FZ.arm {B q now i : Nat} {due : Int} {w0 wr : World} (h : FZ B q now i w0 wr) (hB : B ≤ w0.heap.size) (hd : InsB due = true) (hi : i < 256) :
    Calls Tryd.prog 38 #[.pointer (some ⟨q, 0, none⟩), .agg #[.int .u64 (i : Int), .int .u64 0, .int .i64 due]] wr fun e w2 => e = .returned (.int .i64 30) ∧ Below B w0 w2 := by
  obtain ⟨D, hwi, hq, hl, hm, hb⟩ := h
  subst hq
  refine (warm_full D B now ((i : Int), 0, due) wr hwi ⟨by show 0 ≤ (i : Int); omega, by show (i : Int) < 18446744073709551616; omega⟩ hd hm hl).mono ?_
  rintro e w2 ⟨he, hb2⟩
  exact ⟨he, hb.trans (hb2.mono (Nat.le_trans hB hb.size))⟩
/- WheelFull: the walk. -/
open Go.RowKit
set_option maxRecDepth 100000 in
set_option maxHeartbeats 4000000 in
theorem wfull_skip (now due id : Int) (w : World) (hT : Tab w) (x1 x2 x3 x4 : Bool) (e1 : decide (now < 0) = x1) (e2 : decide (1125899906842624 < now) = x2) (e3 : decide (due < 0) = x3) (e4 : decide (1125899906842624 < due) = x4) (h : (x1 || (x2 || (x3 || x4))) = true) : Calls Tryd.prog 8 #[.int .i64 now, .int .i64 due, .int .u8 id] w fun e w' => e = .returned (.bool true) ∧ Below w.heap.size w w' := by
  have hl := lives12 w hT
  clear hT
  cases x1
  case true =>
    clear e2 e3 e4
    go_enter Tryd.func8, Tryd.ntmps8
    go_wp2_with (go_at_call 30; with_reducible refine hl.mono ?_; rintro e w1 ⟨rfl, hB1⟩; have HB1 := Lib.hid hB1; clear hB1)
    go_ret
    exact ⟨rfl, HB1.out⟩
  cases x2
  case true =>
    clear e3 e4
    go_enter Tryd.func8, Tryd.ntmps8
    go_wp2_with (go_at_call 30; with_reducible refine hl.mono ?_; rintro e w1 ⟨rfl, hB1⟩; have HB1 := Lib.hid hB1; clear hB1)
    go_ret
    exact ⟨rfl, HB1.out⟩
  cases x3
  case true =>
    clear e4
    go_enter Tryd.func8, Tryd.ntmps8
    go_wp2_with (go_at_call 30; with_reducible refine hl.mono ?_; rintro e w1 ⟨rfl, hB1⟩; have HB1 := Lib.hid hB1; clear hB1)
    go_ret
    exact ⟨rfl, HB1.out⟩
  cases x4
  case false => cases h
  go_enter Tryd.func8, Tryd.ntmps8
  go_wp2_with (go_at_call 30; with_reducible refine hl.mono ?_; rintro e w1 ⟨rfl, hB1⟩; have HB1 := Lib.hid hB1; clear hB1)
  go_ret
  exact ⟨rfl, HB1.out⟩
set_option maxRecDepth 100000 in
set_option maxHeartbeats 16000000 in
theorem wfull_ok (now : Nat) (due : Int) (id : Nat) (w : World) (hT : Tab w) (hnow : now ≤ 1125899906842624) (hdue : 0 ≤ due ∧ due ≤ 1125899906842624) (hid : id < 256) : Calls Tryd.prog 8 #[.int .i64 now, .int .i64 due, .int .u8 (id : Int)] w fun e w' => e = .returned (.bool true) ∧ Below w.heap.size w w' := by
  have mixed := insTh.mixed
  have HSZ0 : Hid (∀ B wr, w.heap.size = B → Below B w wr → B ≤ wr.heap.size) := Lib.hid (fun B wr e h => e ▸ h.size)
  obtain ⟨B, hB⟩ : ∃ B, w.heap.size = B := ⟨_, rfl⟩
  have HSZ : Hid (∀ wr, Below B w wr → B ≤ wr.heap.size) := Lib.hid (fun wr h => HSZ0.out B wr hB h)
  clear HSZ0
  have HB0 : Hid (B ≤ w.heap.size) := Lib.hid (by omega)
  have HT : Hid (∀ w', Below B w w' → Tab w') := Lib.hid (fun w' h => hT.below (by rw [hB]; exact h))
  have hnw := wnew (now : Int) w (by omega)
  have HD : Hid (InsB due = true) := Lib.hid (by unfold InsB; exact decide_eq_true hdue)
  have d1 : decide ((now : Int) < 0) = false := decide_eq_false (by omega)
  have d2 : decide (1125899906842624 < (now : Int)) = false := decide_eq_false (by omega)
  have d3 : decide (due < 0) = false := decide_eq_false (by omega)
  have d4 : decide (1125899906842624 < due) = false := decide_eq_false (by omega)
  have ei : IntKind.u64.wrap (id : Int) = (id : Int) := IntWalk.u64_in _ ⟨by omega, by omega⟩
  clear hT hdue
  rw [hB] at hnw ⊢
  go_enter Tryd.func8, Tryd.ntmps8
  go_wp2_with fail
  refine hnw.mono ?_
  rintro e w1 ⟨q, R, rfl, hW1, hS1, hbl1, hbs1⟩
  have HA : Hid (FU B q now due 0 w w1) := Lib.hid (by
    obtain ⟨h1, h2⟩ := WI.start hW1 hS1 hnow hbs1
    exact ⟨_, h1, rfl, by rw [h2]; rfl, fun t => by rw [h2]; constructor <;> intro h; cases h; obtain ⟨i, hi, _⟩ := h; omega, hbl1⟩)
  clear hnw hW1 hS1 hbl1 hbs1 d1 d2 d3 d4
  go_wp2_with fail
  go_loopg [29] 256 (fun kx s29 wr => ∃ k : Nat, s29 = .int .u64 k ∧ k ≤ 256 ∧ 256 - k ≤ kx ∧ Hid (FU B q now due k w wr))
  case atStart => exact ⟨0, rfl, by omega, by omega, HA⟩
  case round =>
    obtain ⟨k, rfl, hk, hkx, HS⟩ := hrel
    by_cases hlt : k < 256
    · have hltz : (k : Int) < 256 := by omega
      have harm := HS.out.arm HB0.out hlt HD.out
      clear HS HA
      go_wp2_with (go_at_call 38; (with_reducible refine harm.mono ?_); rintro e w2 ⟨rfl, h1⟩; have H2 := Lib.hid h1; clear h1 harm)
      go_roundg (256 - (k + 1))
      case measure => omega
      case rel => exact ⟨k + 1, by go_num, by omega, by omega, H2⟩
    · obtain rfl : k = 256 := by omega
      have hltz : ¬ ((256 : Nat) : Int) < 256 := by omega
      have HW0 := Lib.hid (HS.out.box HB0.out)
      obtain ⟨T, hTe⟩ : ∃ T, wr.heap.size = T := ⟨_, rfl⟩
      rw [hTe] at HW0
      obtain ⟨c0, c1, c2⟩ := HW0.out.at
      clear HS HA
      go_wp2_with fail
      generalize wr.alloc (.cells #[.int .u64 1000, .int .u64 0, .int .i64 due] 27) = wM at HW0 c0 c1 c2 ⊢
      clear c0 c1 c2 hTe
      refine (HW0.out.full HB0.out HD.out).mono ?_
      rintro e w2 ⟨rfl, h2⟩
      have HW2 := Lib.hid h2
      clear h2 HW0
      go_wp2_with fail
      refine (HW2.out.there HB0.out HD.out id hid).mono ?_
      rintro e w3 ⟨rfl, h3⟩
      have HW3 := Lib.hid h3
      clear h3 HW2
      go_wp2_with fail
      refine (HW3.out.len HB0.out).mono ?_
      rintro e w4 ⟨rfl, h4⟩
      have HW4 := Lib.hid h4
      clear h4 HW3
      go_wp2_with fail
      refine (HW4.out.cancel HB0.out id hid).mono ?_
      rintro e w5 ⟨rfl, h5⟩
      have hbx : Below w5.heap.size w5 (w5.alloc (.cells #[.int .u64 (id : Int), .int .u64 0, .int .i64 due] 27)) := (Below.refl _ _).alloc (Nat.le_refl _) _
      have HV := Lib.hid (h5.below HB0.out hbx)
      obtain ⟨c0, c1, c2⟩ := HV.out.at
      clear h5 HW4 hbx
      go_wp2_with fail
      generalize w5.alloc (.cells #[.int .u64 (id : Int), .int .u64 0, .int .i64 due] 27) = w6 at HV c0 c1 c2 ⊢
      clear c0 c1 c2
      refine (HV.out.arm HB0.out HD.out hid).mono ?_
      rintro e w7 ⟨rfl, h7⟩
      have HZ := Lib.hid h7
      clear h7 HV
      go_wp2_with fail
      refine (HZ.out.arm HB0.out HD.out hid).mono ?_
      rintro e w8 ⟨rfl, h8⟩
      have HBE := Lib.hid h8
      have hl := lives12 _ (HT.out _ HBE.out)
      clear h8 HZ
      go_wp2_with (go_at_call 30; with_reducible refine hl.mono ?_; rintro e w9 ⟨rfl, hb9⟩; have HB9 := Lib.hid (HBE.out.trans (hb9.mono (HSZ.out _ HBE.out))); clear hb9)
      go_ret
      exact ⟨rfl, HB9.out⟩
theorem wfull_walk (now due id : Int) (w : World) (hT : Tab w) {p q : Prop} (_ : p) (_ : q) (h : (Lit.int .u8 id).wf = true) :
    Calls Tryd.prog 8 #[.int .i64 now, .int .i64 due, .int .u8 id] w fun e w' => e = .returned (.bool true) ∧ Below w.heap.size w w' := by
  by_cases hh : now < 0 ∨ 1125899906842624 < now ∨ due < 0 ∨ 1125899906842624 < due
  · refine wfull_skip now due id w hT _ _ _ _ rfl rfl rfl rfl ?_
    simp only [Bool.or_eq_true, decide_eq_true_eq]
    exact hh
  · have hb : 0 ≤ id ∧ id < 256 := by
      simp [Lit.wf, IntKind.min, IntKind.max, IntKind.signed, IntKind.bits] at h
      omega
    obtain ⟨b, rfl⟩ : ∃ b : Nat, now = (b : Int) := ⟨now.toNat, by omega⟩
    obtain ⟨i, rfl⟩ : ∃ i : Nat, id = (i : Int) := ⟨id.toNat, by omega⟩
    exact wfull_ok b due i w hT (by omega) (by omega) (by omega)
end Go.Proofs.YtfclmbneimbmnaaDoor

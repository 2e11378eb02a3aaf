/- Tickets: Resolve, Ahead. -/
import Derived.Test.YthnnbmofpmedhaaTkC
namespace Go.Proofs.Ythnnbmofpmedhaa
open Go.RowKit
set_option maxRecDepth 100000 in
set_option maxHeartbeats 4000000 in
theorem resolve_no (id cn st lv ge fr lf du tl : Int) (w : World) (hst : (st == 2 || st == 3 || st == 1) = false) :
    Calls Try.prog 30 #[tkV id cn st lv ge fr lf du tl] w fun e w' => e = .returned (.tuple #[tkV 0 0 0 0 0 0 0 0 0, .int .i64 33]) ∧ Below w.heap.size w w' := by
  obtain ⟨B2, s0, s1, sz⟩ := box2 w #[.int .u64 id, .int .i64 cn, .int .i64 st, .int .i64 lv, .int .u64 ge, .int .i64 fr, .int .i64 lf, .int .i64 du, .int .i64 tl] #[.int .u64 0, .int .i64 0, .int .i64 0, .int .i64 0, .int .u64 0, .int .i64 0, .int .i64 0, .int .i64 0, .int .i64 0] 68 68
  obtain ⟨c0, c1, c2, c3, c4, c5, c6, c7, c8⟩ := nine_at s0
  obtain ⟨z0, z1, z2, z3, z4, z5, z6, z7, z8⟩ := nine_at s1
  obtain ⟨y0, y1, y2, y3, y4, y5, y6, y7, y8⟩ := nine_fr s1
  have HB := Lib.hid B2
  have HAL := Lib.hid (fun w => al_resolve st false hst w)
  unfold tkV
  clear B2 s0 s1 sz hst
  go_enter Try.func30, Try.ntmps30
  go_wp2_with (go_at_call 56; (with_reducible refine (HAL.out _).mono ?_); rintro e w' ⟨rfl, rfl⟩)
  exact bodyPost_ret (v := .tuple #[.agg #[.int .u64 0, .int .i64 0, .int .i64 0, .int .i64 0, .int .u64 0, .int .i64 0, .int .i64 0, .int .i64 0, .int .i64 0], .int .i64 33]) (by simp [results, Try.results30, go_sem, z0, z1, z2, z3, z4, z5, z6, z7, z8]) rfl ⟨rfl, HB.out⟩
set_option maxRecDepth 100000 in
set_option maxHeartbeats 4000000 in
theorem resolve_any (id cn st lv ge fr lf du tl : Int) (w : World) (hst : (st == 2 || st == 3 || st == 1) = true) :
    Calls Try.prog 30 #[tkV id cn st lv ge fr lf du tl] w fun e w' => e = .returned (.tuple #[tkV id cn 4 lv 0 0 0 0 tl, .int .i64 0]) ∧ Below w.heap.size w w' := by
  obtain ⟨B2, s0, s1, sz⟩ := box2 w #[.int .u64 id, .int .i64 cn, .int .i64 st, .int .i64 lv, .int .u64 ge, .int .i64 fr, .int .i64 lf, .int .i64 du, .int .i64 tl] #[.int .u64 0, .int .i64 0, .int .i64 0, .int .i64 0, .int .u64 0, .int .i64 0, .int .i64 0, .int .i64 0, .int .i64 0] 68 68
  obtain ⟨c0, c1, c2, c3, c4, c5, c6, c7, c8⟩ := nine_at s0
  have HB := Lib.hid B2
  have HAL := Lib.hid (fun w => al_resolve st true hst w)
  have HEN := Lib.hid (fun (W : World) => tk_ended id cn st lv ge fr lf du tl W)
  have HAT := Lib.hid (fun (W : World) => tk_at id cn st lv ge fr lf du tl 4 lv 0 0 0 W)
  have HS := Lib.hid (And.intro s1 (And.intro sz s0))
  unfold tkV stepV at *
  clear B2 s0 s1 sz hst
  go_enter Try.func30, Try.ntmps30
  go_wp2_with (go_at_call 56; (with_reducible refine (HAL.out _).mono ?_); rintro e w' ⟨rfl, rfl⟩)
  clear c0 c1 c2 c3 c4 c5 c6 c7 c8
  generalize ((w.alloc (.cells #[.int .u64 id, .int .i64 cn, .int .i64 st, .int .i64 lv, .int .u64 ge, .int .i64 fr, .int .i64 lf, .int .i64 du, .int .i64 tl] 68)).alloc (.cells #[.int .u64 0, .int .i64 0, .int .i64 0, .int .i64 0, .int .u64 0, .int .i64 0, .int .i64 0, .int .i64 0, .int .i64 0] 68)) = W at HB HS ⊢
  have h0 : W.drew.heap[w.heap.size]? = some (.cells #[.int .u64 id, .int .i64 cn, .int .i64 st, .int .i64 lv, .int .u64 ge, .int .i64 fr, .int .i64 lf, .int .i64 du, .int .i64 tl] 68 (0, 0)) := HS.out.2.2
  refine wp_region_held_drew (S := fun w' => w'.heap[w.heap.size]? = some (.cells #[.int .u64 id, .int .i64 cn, .int .i64 st, .int .i64 lv, .int .u64 ge, .int .i64 fr, .int .i64 lf, .int .i64 du, .int .i64 tl] 68 (0, 0))) (by kernel_rfl) h0 (fun hHeld => ?_)
  refine wpAnyH_take (i := 0) (v := ?_) rfl (by kernel_rfl) (by kernel_rfl) (by kernel_rfl) (fun _ _ _ h => h) (Or.inl ⟨by rfl, ?_⟩) (by assumption) ?_
  case refine_2 => (intro w1 hS1; (try dsimp only at hS1); obtain ⟨c0, c1, c2, c3, c4, c5, c6, c7, c8⟩ := nine_at hS1; go_simp; try with_reducible rfl)
  try simp only [List.getElem_toArray, List.getElem_cons_zero, List.getElem_cons_succ, Act.put, List.setIfInBounds_toArray, List.set_cons_zero, List.set_cons_succ]
  refine wpAnyH_take (i := 1) (v := ?_) rfl (by kernel_rfl) (by kernel_rfl) (by kernel_rfl) (fun _ _ _ h => h) (Or.inl ⟨by rfl, ?_⟩) (by assumption) ?_
  case refine_2 => (intro w1 hS1; (try dsimp only at hS1); obtain ⟨c0, c1, c2, c3, c4, c5, c6, c7, c8⟩ := nine_at hS1; go_simp; try with_reducible rfl)
  try simp only [List.getElem_toArray, List.getElem_cons_zero, List.getElem_cons_succ, Act.put, List.setIfInBounds_toArray, List.set_cons_zero, List.set_cons_succ]
  refine wpAnyH_ready (rs := [2]) (by kernel_rfl) (by simp) ?_
  refine AllReadyH.cons rfl (fun K hK => ?_) AllReadyH.nil
  go_simp
  refine (HEN.out _).mono ?_
  rintro e w4 ⟨rfl, hb4⟩
  have HX4 := Lib.hid (ex_below (show W.drew.heap[w.heap.size]? = _ from HS.out.2.2) hb4)
  have HT4 := Lib.hid (ex_below (show W.drew.heap[w.heap.size + 1]? = _ from HS.out.1) hb4)
  have HB4 := Lib.hid (HB.out.drew.trans (hb4.mono HB.out.size))
  clear hb4
  refine hK.out _ _ (HX4.out) (fun hHeld => ?_)
  clear hK K
  try simp only [List.getElem_toArray, List.getElem_cons_zero, List.getElem_cons_succ, Act.put, List.setIfInBounds_toArray, List.set_cons_zero, List.set_cons_succ]
  refine wpAnyH_ready (rs := [3]) (by kernel_rfl) (by simp) ?_
  refine AllReadyH.cons rfl (fun K hK => ?_) AllReadyH.nil
  go_simp
  refine (HAT.out _).mono ?_
  rintro e w5 ⟨rfl, hb5⟩
  have HX5 := Lib.hid (ex_below HX4.out hb5)
  have HT5 := Lib.hid (ex_below HT4.out hb5)
  have HB5 := Lib.hid (HB4.out.trans (hb5.mono HB4.out.size))
  clear hb5
  obtain ⟨z0, z1, z2, z3, z4, z5, z6, z7, z8⟩ := nine_at HT5.out
  obtain ⟨y0, y1, y2, y3, y4, y5, y6, y7, y8⟩ := nine_fr HT5.out

  refine hK.out _ _ (HX5.out) (fun hHeld => ?_)
  clear hK K
  try simp only [List.getElem_toArray, List.getElem_cons_zero, List.getElem_cons_succ, Act.put, List.setIfInBounds_toArray, List.set_cons_zero, List.set_cons_succ]
  refine wpAnyH_ready (rs := [4]) (by kernel_rfl) (by simp) ?_
  refine AllReadyH.cons rfl (fun K hK => ?_) AllReadyH.nil
  go_simp
  skip
  refine hK.out _ _ (((put9_at HT5.out (.int .u64 id) (.int .i64 cn) (.int .i64 4) (.int .i64 lv) (.int .u64 0) (.int .i64 0) (.int .i64 0) (.int .i64 0) (.int .i64 tl)).2.1 _ (by omega)).trans HX5.out) (fun hHeld => ?_)
  clear hK K
  try simp only [List.getElem_toArray, List.getElem_cons_zero, List.getElem_cons_succ, Act.put, List.setIfInBounds_toArray, List.set_cons_zero, List.set_cons_succ]
  refine wpAnyH_take (i := 5) (v := ?_) rfl (by kernel_rfl) (by kernel_rfl) (by kernel_rfl) (fun _ _ _ h => h) (Or.inl ⟨by rfl, ?_⟩) (by assumption) ?_
  case refine_2 => (intro w1 hS1; (try dsimp only at hS1); go_simp; try with_reducible rfl)
  try simp only [List.getElem_toArray, List.getElem_cons_zero, List.getElem_cons_succ, Act.put, List.setIfInBounds_toArray, List.set_cons_zero, List.set_cons_succ]
  refine wpAnyH_done (by kernel_rfl) ?_ _
  go_wp2_with fail
  have ho := below_put9 HB5.out (N := w.heap.size + 1) (by omega) (.int .u64 id) (.int .i64 cn) (.int .i64 4) (.int .i64 lv) (.int .u64 0) (.int .i64 0) (.int .i64 0) (.int .i64 0) (.int .i64 tl)
  obtain ⟨hp9, -, -⟩ := put9_at HT5.out (.int .u64 id) (.int .i64 cn) (.int .i64 4) (.int .i64 lv) (.int .u64 0) (.int .i64 0) (.int .i64 0) (.int .i64 0) (.int .i64 tl)
  obtain ⟨p0, p1, p2, p3, p4, p5, p6, p7, p8⟩ := nine_at hp9
  unfold put9 at p0 p1 p2 p3 p4 p5 p6 p7 p8 ho
  exact bodyPost_ret (v := .tuple #[.agg #[.int .u64 id, .int .i64 cn, .int .i64 4, .int .i64 lv, .int .u64 0, .int .i64 0, .int .i64 0, .int .i64 0, .int .i64 tl], .int .i64 0]) (by simp [results, Try.results30, go_sem, p0, p1, p2, p3, p4, p5, p6, p7, p8]) rfl ⟨rfl, ho⟩
set_option maxRecDepth 100000 in
set_option maxHeartbeats 4000000 in
theorem ahead_1 (id cn lv ge fr lf du tl : Int) (c : Int) (a : Option Addr) (n ca : Nat) (r b : Int) (w : World) (hn : n ≤ 4611686018427387904) (h0 : 0 ≤ lv) (h1 : lv < n) :
    Calls Try.prog 34 #[tkV id cn 1 lv ge fr lf du tl, conV c a n ca r b] w fun e w' => e = .returned (.int .i64 ((n : Int) - lv)) ∧ Below w.heap.size w w' := by
  obtain ⟨B2, s0, s1, sz⟩ := box2 w #[.int .u64 id, .int .i64 cn, .int .i64 1, .int .i64 lv, .int .u64 ge, .int .i64 fr, .int .i64 lf, .int .i64 du, .int .i64 tl] #[.int .i64 c, .slice a n ca, .int .i64 r, .int .i64 b] 68 27
  obtain ⟨c0, c1, c2, c3, c4, c5, c6, c7, c8⟩ := nine_at s0
  obtain ⟨g0, g1, g2, g3, -⟩ := four_at s1
  have HB := Lib.hid B2
  have e1 : IntKind.i64.wrap ((n : Int) - 1) = (n : Int) - 1 := IntWalk.i64_in _ (by omega)
  have e2 : IntKind.i64.wrap ((n : Int) - lv) = (n : Int) - lv := IntWalk.i64_in _ (by omega)
  have HIN := Lib.hid (fun w => tin_i lv 0 ((n : Int) - 1) true (by simp [rngB]; omega) w)
  unfold tkV conV
  clear B2 s0 s1 sz
  go_enter Try.func34, Try.ntmps34
  go_wp2_with (go_at_call 51; (with_reducible refine (HIN.out _).mono ?_); rintro e w' ⟨rfl, rfl⟩)
  go_ret
  exact ⟨rfl, HB.out⟩
set_option maxRecDepth 100000 in
set_option maxHeartbeats 4000000 in
theorem ahead_2 (id cn lv ge fr lf du tl : Int) (c : Int) (a : Option Addr) (n ca : Nat) (r b : Int) (w : World) (hn : n ≤ 4611686018427387904) (h0 : 0 ≤ lv) (h1 : lv < n) :
    Calls Try.prog 34 #[tkV id cn 2 lv ge fr lf du tl, conV c a n ca r b] w fun e w' => e = .returned (.int .i64 ((n : Int) - lv)) ∧ Below w.heap.size w w' := by
  obtain ⟨B2, s0, s1, sz⟩ := box2 w #[.int .u64 id, .int .i64 cn, .int .i64 2, .int .i64 lv, .int .u64 ge, .int .i64 fr, .int .i64 lf, .int .i64 du, .int .i64 tl] #[.int .i64 c, .slice a n ca, .int .i64 r, .int .i64 b] 68 27
  obtain ⟨c0, c1, c2, c3, c4, c5, c6, c7, c8⟩ := nine_at s0
  obtain ⟨g0, g1, g2, g3, -⟩ := four_at s1
  have HB := Lib.hid B2
  have e1 : IntKind.i64.wrap ((n : Int) - 1) = (n : Int) - 1 := IntWalk.i64_in _ (by omega)
  have e2 : IntKind.i64.wrap ((n : Int) - lv) = (n : Int) - lv := IntWalk.i64_in _ (by omega)
  have HIN := Lib.hid (fun w => tin_i lv 0 ((n : Int) - 1) true (by simp [rngB]; omega) w)
  unfold tkV conV
  clear B2 s0 s1 sz
  go_enter Try.func34, Try.ntmps34
  go_wp2_with (go_at_call 51; (with_reducible refine (HIN.out _).mono ?_); rintro e w' ⟨rfl, rfl⟩)
  go_ret
  exact ⟨rfl, HB.out⟩
set_option maxRecDepth 100000 in
set_option maxHeartbeats 4000000 in
theorem ahead_3 (id cn lv ge fr lf du tl : Int) (c : Int) (a : Option Addr) (n ca : Nat) (r b : Int) (w : World) :
    Calls Try.prog 34 #[tkV id cn 3 lv ge fr lf du tl, conV c a n ca r b] w fun e w' => e = .returned (.int .i64 0) ∧ Below w.heap.size w w' := by
  obtain ⟨B2, s0, s1, sz⟩ := box2 w #[.int .u64 id, .int .i64 cn, .int .i64 3, .int .i64 lv, .int .u64 ge, .int .i64 fr, .int .i64 lf, .int .i64 du, .int .i64 tl] #[.int .i64 c, .slice a n ca, .int .i64 r, .int .i64 b] 68 27
  obtain ⟨c0, c1, c2, c3, c4, c5, c6, c7, c8⟩ := nine_at s0
  obtain ⟨g0, g1, g2, g3, -⟩ := four_at s1
  have HB := Lib.hid B2
  unfold tkV conV
  clear B2 s0 s1 sz
  go_enter Try.func34, Try.ntmps34
  go_wp2_with fail
  go_ret
  exact ⟨rfl, HB.out⟩
set_option maxRecDepth 100000 in
set_option maxHeartbeats 4000000 in
theorem ahead_4 (id cn lv ge fr lf du tl : Int) (c : Int) (a : Option Addr) (n ca : Nat) (r b : Int) (w : World) :
    Calls Try.prog 34 #[tkV id cn 4 lv ge fr lf du tl, conV c a n ca r b] w fun e w' => e = .returned (.int .i64 0) ∧ Below w.heap.size w w' := by
  obtain ⟨B2, s0, s1, sz⟩ := box2 w #[.int .u64 id, .int .i64 cn, .int .i64 4, .int .i64 lv, .int .u64 ge, .int .i64 fr, .int .i64 lf, .int .i64 du, .int .i64 tl] #[.int .i64 c, .slice a n ca, .int .i64 r, .int .i64 b] 68 27
  obtain ⟨c0, c1, c2, c3, c4, c5, c6, c7, c8⟩ := nine_at s0
  obtain ⟨g0, g1, g2, g3, -⟩ := four_at s1
  have HB := Lib.hid B2
  unfold tkV conV
  clear B2 s0 s1 sz
  go_enter Try.func34, Try.ntmps34
  go_wp2_with fail
  go_ret
  exact ⟨rfl, HB.out⟩
end Go.Proofs.Ythnnbmofpmedhaa

/- The example of layer 15. -/
import Derived.Test.YthnnbmofpmedhaaChH
import Derived.Test.YthnnbmofpmedhaaChG
namespace Go.Proofs.Ythnnbmofpmedhaa
open Go.RowKit
theorem lit1 (w : World) (t : TypeId) (a b : Int) (h : -9223372036854775808 ≤ a ∧ a ≤ 9223372036854775807 ∧ -9223372036854775808 ≤ b ∧ b ≤ 9223372036854775807) {T : Nat} (hT : w.heap.size = T) :
    Sps (w.alloc (.cells #[.int .i64 a, .int .i64 b] t)) (some ⟨T, 0, none⟩) 1 (fr [(a, b)]) (til [(a, b)]) := by
  subst hT
  refine ⟨by unfold maxLen; omega, fun _ => ⟨w.heap.size, 0, rfl, by simp, fun k hk => ?_⟩⟩
  obtain rfl : k = 0 := by omega
  refine ⟨by simp [fr], by simp [til], ?_⟩
  simp only [fr, til, List.getD_eq_getElem?_getD, List.getElem?_cons_zero, Option.getD_some]
  omega
theorem lit2 (w : World) (t : TypeId) (a b c d : Int) (h : -9223372036854775808 ≤ a ∧ a ≤ 9223372036854775807 ∧ -9223372036854775808 ≤ b ∧ b ≤ 9223372036854775807 ∧ -9223372036854775808 ≤ c ∧ c ≤ 9223372036854775807 ∧ -9223372036854775808 ≤ d ∧ d ≤ 9223372036854775807) {T : Nat} (hT : w.heap.size = T) :
    Sps (w.alloc (.cells #[.int .i64 a, .int .i64 b, .int .i64 c, .int .i64 d] t)) (some ⟨T, 0, none⟩) 2 (fr [(a, b), (c, d)]) (til [(a, b), (c, d)]) := by
  subst hT
  refine ⟨by unfold maxLen; omega, fun _ => ⟨w.heap.size, 0, rfl, by simp, fun k hk => ?_⟩⟩
  rcases (by omega : k = 0 ∨ k = 1) with rfl | rfl
  · refine ⟨by simp [fr], by simp [til], ?_⟩
    simp only [fr, til, List.getD_eq_getElem?_getD, List.getElem?_cons_zero, Option.getD_some]
    omega
  · refine ⟨by simp [fr], by simp [til], ?_⟩
    simp only [fr, til, List.getD_eq_getElem?_getD, List.getElem?_cons_succ, List.getElem?_cons_zero, Option.getD_some]
    omega
set_option maxRecDepth 100000 in
set_option maxHeartbeats 4000000 in
theorem always_any (w : World) : Calls Try.prog 37 #[] w fun e w' => e = .returned (.agg #[.int .i64 0, .slice (some ⟨w.heap.size + 1, 0, none⟩) 1 1, .slice none 0 0]) ∧ Sps w' (some ⟨w.heap.size + 1, 0, none⟩) 1 (fr [(0, 604800)]) (til [(0, 604800)]) ∧ Below w.heap.size w w' := by
  go_enter Try.func37, Try.ntmps37
  go_wp2_with fail
  obtain ⟨hb, h0, h1, _⟩ := box2 w #[.int .i64 0, .slice (some ⟨w.heap.size + 1, 0, none⟩) 1 1, .slice none 0 0] #[.int .i64 0, .int .i64 604800] 24 106
  have p0 := cells_heap h0 0
  have p1 := cells_heap h0 1
  have p2 := cells_heap h0 2
  exact bodyPost_ret (v := .agg #[.int .i64 0, .slice (some ⟨w.heap.size + 1, 0, none⟩) 1 1, .slice none 0 0]) (by simp [results, Try.results37, go_sem, p0, p1, p2]) rfl ⟨rfl, lit1 _ _ 0 604800 (by omega) (by simp), hb⟩
set_option maxRecDepth 100000 in
set_option maxHeartbeats 4000000 in
theorem plain_any (w : World) : Calls Try.prog 38 #[] w fun e w' => e = .returned (conV 0 (some ⟨w.heap.size + 1, 0, none⟩) 2 2 2 5) ∧ Sps w' (some ⟨w.heap.size + 1, 0, none⟩) 2 (fr [(10, 0), (20, 1)]) (til [(10, 0), (20, 1)]) ∧ Below w.heap.size w w' := by
  unfold conV
  go_enter Try.func38, Try.ntmps38
  go_wp2_with fail
  obtain ⟨hb, h0, h1, _⟩ := box2 w #[.int .i64 0, .slice (some ⟨w.heap.size + 1, 0, none⟩) 2 2, .int .i64 2, .int .i64 5] #[.int .i64 10, .int .i64 0, .int .i64 20, .int .i64 1] 27 57
  obtain ⟨p0, p1, p2, p3, -⟩ := four_at h0
  exact bodyPost_ret (v := .agg #[.int .i64 0, .slice (some ⟨w.heap.size + 1, 0, none⟩) 2 2, .int .i64 2, .int .i64 5]) (by simp [results, Try.results38, go_sem, p0, p1, p2, p3]) rfl ⟨rfl, lit2 _ _ 10 0 20 1 (by omega) (by simp), hb⟩
def exA : Cal := ⟨fr [(0, 604800)], til [(0, 604800)], 1, fun _ => 0, fun _ => 0, 0, 0⟩
theorem wk_exA : Wk (fr [(0, 604800)]) (til [(0, 604800)]) 1 := by
  refine ⟨by omega, by decide, fun k hk => ?_⟩
  have e : k = 0 := by omega
  subst e
  decide
theorem exA_ok : exA.ok := ⟨wk_exA, by decide, by decide, by decide, by decide⟩
theorem exA_g {a b : Int} (h0 : 0 ≤ a) (hab : a ≤ b) (h1 : b ≤ 1125899906842624) : exA.g b = exA.g a + (exA.V b - exA.V a) := by
  have := exA.g_free exA_ok h0 hab h1 (fun t _ _ => by
    cases hh : hasB exA.G exA.U t exA.m with
    | false => rfl
    | true =>
      obtain ⟨j, hj, _⟩ := (hasB_iff exA.m).1 hh
      exact absurd hj (Nat.not_lt_zero _))
  omega
theorem exA_due {s b v e : Int} (d : Int) (h : exA.Dues s b v e) (s0 : 0 ≤ s) (hb : 0 < b) (hsd : s < d) (hd : d ≤ 1125899906842624) (hv : exA.V d - exA.V s = b) (ho : exA.opB (d - 1) = true) : v = d ∧ e = 0 := by
  refine exA.due_is h s0 hb hsd hd ?_ ho (by decide)
  rw [exA_g s0 (by omega) hd]
  omega
theorem exA_1 {v e : Int} (h : exA.Dues 5 10 v e) : v = 15 ∧ e = 0 := exA_due 15 h (by decide) (by decide) (by decide) (by decide) (by decide +kernel) (by decide +kernel)
theorem exA_2 {v e : Int} (h : exA.Dues 100 7 v e) : v = 107 ∧ e = 0 := exA_due 107 h (by decide) (by decide) (by decide) (by decide) (by decide +kernel) (by decide +kernel)
theorem exA_3 {v e : Int} (h : exA.Dues 0 10 v e) : v = 10 ∧ e = 0 := exA_due 10 h (by decide) (by decide) (by decide) (by decide) (by decide +kernel) (by decide +kernel)
theorem exA_4 {v e : Int} (h : exA.Dues 12 20 v e) : v = 32 ∧ e = 0 := exA_due 32 h (by decide) (by decide) (by decide) (by decide) (by decide +kernel) (by decide +kernel)
theorem exA_r {v e : Int} (h : RestIs exA 5 10 8 v e) : v = 7 ∧ e = 0 := by
  have hg : exA.g 8 = exA.g 5 + (exA.V 8 - exA.V 5) := exA_g (by decide) (by decide) (by decide)
  have hv : exA.V 8 - exA.V 5 = 3 := by decide +kernel
  rcases h with ⟨h, _, _⟩ | ⟨_, _, rfl, rfl⟩
  · rcases h with h | h
    · omega
    · exact absurd ⟨by decide, by decide, by decide⟩ h
  · exact ⟨by omega, rfl⟩
theorem plain_good : goodC 0 2 2 5 (fr [(10, 0), (20, 1)]) (til [(10, 0), (20, 1)]) = true := by decide
set_option maxRecDepth 100000 in
set_option maxHeartbeats 4000000 in
theorem lives15 (w : World) : Calls Try.prog 11 #[] w fun e w' => e = .returned (.bool true) ∧ Below w.heap.size w w' := by
  go_enter Try.func11, Try.ntmps11
  go_wp2_with fail
  refine (always_any w).mono ?_
  rintro e w1 ⟨rfl, hS1, hb1⟩
  have HB1 := Lib.hid hb1
  have hnew : Calls Try.prog 12 #[.agg #[.int .i64 0, .slice (some ⟨w.heap.size + 1, 0, none⟩) 1 1, .slice none 0 0]] w1 (Clocked exA w1) :=
    clock_ok exA (some ⟨w.heap.size + 1, 0, none⟩) 1 none 0 w1 exA_ok hS1 ⟨by decide, fun h => absurd h (Nat.not_lt_zero _)⟩
  clear hS1 hb1
  go_wp2_with fail
  refine hnew.mono ?_
  rintro e w2 ⟨L, rfl, hC2, hle, hb2⟩
  have HB2 := Lib.hid (HB1.out.trans (hb2.mono HB1.out.size))
  have HL := Lib.hid (Nat.le_trans HB1.out.size hle)
  have HC2 := Lib.hid hC2
  clear hnew hC2 hle hb2
  go_wp2_with fail
  refine (plain_any w2).mono ?_
  rintro e w3 ⟨rfl, hS3, hb3⟩
  have HB3 := Lib.hid (HB2.out.trans (hb3.mono HB2.out.size))
  have hfi := first_any (HC2.out.kept hb3) exA_ok 0 (some ⟨w2.heap.size + 1, 0, none⟩) 2 2 2 5 _ _ 5 hS3 plain_good
  clear hS3 hb3
  unfold conV at *
  go_wp2_with fail
  refine hfi.mono ?_
  rintro e w4 ⟨l, f, c, d, er, rfl, ⟨v, e', hv, h4⟩, hC4, ho4⟩
  obtain ⟨rfl, rfl⟩ := exA_1 hv
  obtain ⟨rfl, rfl, rfl, rfl, rfl⟩ : l = 0 ∧ f = 5 ∧ c = 10 ∧ d = 15 ∧ er = 0 := by
    rcases h4 with ⟨_, h1, h2, h3, h4, h5⟩ | ⟨h, _⟩
    · exact ⟨h1, h2, h3, h4, h5⟩
    · exact absurd rfl h
  obtain ⟨bx, bn, bz⟩ := box1 w4 #[.int .i64 0, .int .i64 5, .int .i64 10, .int .i64 15] 29
  have HB4 := Lib.hid (HB3.out.trans (ho4.toBelow HB3.out.size (fun k hk => hk ▸ HL.out)))
  have HB4' := Lib.hid (HB4.out.trans (bx.mono HB4.out.size))
  have hst := stand_any (hC4.kept bx) exA_ok 0 5 10 15 8 (by decide)
  obtain ⟨a0, a1, a2, a3, -⟩ := four_at bn
  have HA := Lib.hid (And.intro bn (And.intro bz hC4.pl.lt))
  clear hfi hv h4 hC4 ho4 bx bn bz
  unfold stepV at *
  go_wp2_with fail
  generalize (w4.alloc (.cells #[.int .i64 0, .int .i64 5, .int .i64 10, .int .i64 15] 29)) = W4 at hst HB4' HA a0 a1 a2 a3 ⊢
  refine hst.mono ?_
  rintro e w5 ⟨l, f, c, d, er, rfl, hR, hC5, ho5⟩
  obtain ⟨rfl, rfl, rfl, rfl, rfl⟩ : l = 0 ∧ f = 8 ∧ c = 7 ∧ d = 0 ∧ er = 0 := by
    rcases hR with ⟨h, _⟩ | ⟨_, h, _⟩ | ⟨_, _, v, e', h1, h2⟩
    · omega
    · omega
    · obtain ⟨rfl, rfl⟩ := exA_r h1
      rcases h2 with ⟨_, h1, h2, h3, h4, h5⟩ | ⟨h, _⟩
      · exact ⟨h1, h2, h3, h4, h5⟩
      · exact absurd rfl h
  have hC5 := hC5 (.inl (by decide))
  have g0 := (ho5.block w4.heap.size (by have := HA.out.2.1; omega) (by have := HA.out.2.2; show ¬ w4.heap.size = L.C; omega)).trans HA.out.1
  obtain ⟨bx, bn, bz⟩ := box1 w5 #[.int .i64 0, .int .i64 8, .int .i64 7, .int .i64 0] 29
  have HB5 := Lib.hid (HB4'.out.trans (ho5.toBelow HB4'.out.size (fun k hk => hk ▸ HL.out)))
  have HB5' := Lib.hid (HB5.out.trans (bx.mono HB5.out.size))
  have hgo := go_any (hC5.kept bx) exA_ok 0 8 7 0 100 (by decide)
  have g1 := (heap_old w5 (.cells #[.int .i64 0, .int .i64 8, .int .i64 7, .int .i64 0] 29) (by have := HA.out.2.1; have := ho5.size; omega)).trans g0
  have HG := Lib.hid (And.intro g1 (And.intro bn (And.intro bz (And.intro hC5.pl.lt (show w4.heap.size < w5.heap.size by have := HA.out.2.1; have := ho5.size; omega)))))
  clear a0 a1 a2 a3
  obtain ⟨a0, a1, a2, a3, -⟩ := four_at bn
  clear hst hR hC5 ho5 g0 g1 bx bn bz
  unfold stepV at *
  go_wp2_with fail
  generalize (w5.alloc (.cells #[.int .i64 0, .int .i64 8, .int .i64 7, .int .i64 0] 29)) = W5 at hgo HB5' HG a0 a1 a2 a3 ⊢
  refine hgo.mono ?_
  rintro e w6 ⟨l, f, c, d, er, rfl, hR, hC6, ho6⟩
  obtain ⟨rfl, rfl, rfl, rfl, rfl⟩ : l = 0 ∧ f = 100 ∧ c = 7 ∧ d = 107 ∧ er = 0 := by
    rcases hR with ⟨h, _⟩ | ⟨_, h, _⟩ | ⟨_, _, v, e', h1, h2⟩
    · omega
    · omega
    · obtain ⟨rfl, rfl⟩ := exA_2 h1
      rcases h2 with ⟨_, h1, h2, h3, h4, h5⟩ | ⟨h, _⟩
      · exact ⟨h1, h2, h3, h4, h5⟩
      · exact absurd rfl h
  have g0 := (ho6.block w4.heap.size (by have := HG.out.2.2.1; have := HG.out.2.2.2.2; omega) (by have := HA.out.2.2; show ¬ w4.heap.size = L.C; omega)).trans HG.out.1
  have g1 := (ho6.block w5.heap.size (by have := HG.out.2.2.1; omega) (by have := HG.out.2.2.2.1; show ¬ w5.heap.size = L.C; omega)).trans HG.out.2.1
  obtain ⟨bx, bn, bz⟩ := box1 w6 #[.int .i64 0, .int .i64 100, .int .i64 7, .int .i64 107] 29
  have HB6 := Lib.hid (HB5'.out.trans (ho6.toBelow HB5'.out.size (fun k hk => hk ▸ HL.out)))
  have HB6' := Lib.hid (HB6.out.trans (bx.mono HB6.out.size))
  have k0 := (four_at ((heap_old w6 (.cells #[.int .i64 0, .int .i64 100, .int .i64 7, .int .i64 107] 29) (by have := HG.out.2.2.1; have := HG.out.2.2.2.2; have := ho6.size; omega)).trans g0)).2.2.2.1
  have k1 := (four_at ((heap_old w6 (.cells #[.int .i64 0, .int .i64 100, .int .i64 7, .int .i64 107] 29) (by have := HG.out.2.2.1; have := ho6.size; omega)).trans g1)).2.2.1
  have k2 := (four_at bn).2.2.2.1
  clear a0 a1 a2 a3 hgo hR hC6 ho6 g0 g1 bx bn bz
  unfold stepV at *
  go_wp2_with fail
  go_ret
  exact ⟨rfl, HB6'.out⟩
end Go.Proofs.Ythnnbmofpmedhaa

/- The example of layer 15. -/
import Derived.Test.YthnnbmofpmedhaaGreatChH
import Derived.Test.YthnnbmofpmedhaaGreatChG
namespace Go.Proofs.YthnnbmofpmedhaaGreat
open Go.RowKit
theorem lit1 (w : World) (t : TypeId) (a b : Int) (h : -9223372036854775808 ≤ a ∧ a ≤ 9223372036854775807 ∧ -9223372036854775808 ≤ b ∧ b ≤ 9223372036854775807) {T : Nat} (hT : w.heap.size = T) :
    Sps (w.alloc (.cells #[.int .i64 a, .int .i64 b] t)) (some ⟨T, 0, none⟩) 1 (fr [(a, b)]) (til [(a, b)]) := by
  subst hT
  refine ⟨by unfold maxLen; omega, fun _ => ⟨w.heap.size, 0, rfl, by simp, fun k hk => ?_⟩⟩
  obtain rfl : k = 0 := by omega
  refine ⟨by simp [fr], by simp [til], ?_⟩
  simp only [fr, til, List.getD_eq_getElem?_getD, List.getElem?_cons_zero, Option.getD_some]
  omega
theorem lit2 (w : World) (t : TypeId) (a b c d : Int) (h : -9223372036854775808 ≤ a ∧ a ≤ 9223372036854775807 ∧ -9223372036854775808 ≤ b ∧ b ≤ 9223372036854775807 ∧ -9223372036854775808 ≤ c ∧ c ≤ 9223372036854775807 ∧ -9223372036854775808 ≤ d ∧ d ≤ 9223372036854775807) {T : Nat} (hT : w.heap.size = T) :
    Sps (w.alloc (.cells #[.int .i64 a, .int .i64 b, .int .i64 c, .int .i64 d] t)) (some ⟨T, 0, none⟩) 2 (fr [(a, b), (c, d)]) (til [(a, b), (c, d)]) := by
  subst hT
  refine ⟨by unfold maxLen; omega, fun _ => ⟨w.heap.size, 0, rfl, by simp, fun k hk => ?_⟩⟩
  rcases (by omega : k = 0 ∨ k = 1) with rfl | rfl
  · refine ⟨by simp [fr], by simp [til], ?_⟩
    simp only [fr, til, List.getD_eq_getElem?_getD, List.getElem?_cons_zero, Option.getD_some]
    omega
  · refine ⟨by simp [fr], by simp [til], ?_⟩
    simp only [fr, til, List.getD_eq_getElem?_getD, List.getElem?_cons_succ, List.getElem?_cons_zero, Option.getD_some]
    omega
set_option maxRecDepth 100000 in
set_option maxHeartbeats 4000000 in
theorem always_any (w : World) : Calls Tryz.prog 43 #[] w fun e w' => e = .returned (.agg #[.int .i64 0, .slice (some ⟨w.heap.size + 1, 0, none⟩) 1 1, .slice none 0 0]) ∧ Sps w' (some ⟨w.heap.size + 1, 0, none⟩) 1 (fr [(0, 604800)]) (til [(0, 604800)]) ∧ Below w.heap.size w w' := by
  go_enter Tryz.func43, Tryz.ntmps43
  go_wp2_with fail
  obtain ⟨hb, h0, h1, _⟩ := box2 w #[.int .i64 0, .slice (some ⟨w.heap.size + 1, 0, none⟩) 1 1, .slice none 0 0] #[.int .i64 0, .int .i64 604800] 24 61
  have p0 := cells_heap h0 0
  have p1 := cells_heap h0 1
  have p2 := cells_heap h0 2
  exact bodyPost_ret (v := .agg #[.int .i64 0, .slice (some ⟨w.heap.size + 1, 0, none⟩) 1 1, .slice none 0 0]) (by simp [results, Tryz.results43, go_sem, p0, p1, p2]) rfl ⟨rfl, lit1 _ _ 0 604800 (by omega) (by simp), hb⟩
set_option maxRecDepth 100000 in
set_option maxHeartbeats 4000000 in
theorem plain_any (w : World) : Calls Tryz.prog 44 #[] w fun e w' => e = .returned (conV 0 (some ⟨w.heap.size + 1, 0, none⟩) 2 2 2 5) ∧ Sps w' (some ⟨w.heap.size + 1, 0, none⟩) 2 (fr [(10, 0), (20, 1)]) (til [(10, 0), (20, 1)]) ∧ Below w.heap.size w w' := by
  unfold conV
  go_enter Tryz.func44, Tryz.ntmps44
  go_wp2_with fail
  obtain ⟨hb, h0, h1, _⟩ := box2 w #[.int .i64 0, .slice (some ⟨w.heap.size + 1, 0, none⟩) 2 2, .int .i64 2, .int .i64 5] #[.int .i64 10, .int .i64 0, .int .i64 20, .int .i64 1] 80 121
  obtain ⟨p0, p1, p2, p3, -⟩ := four_at h0
  exact bodyPost_ret (v := .agg #[.int .i64 0, .slice (some ⟨w.heap.size + 1, 0, none⟩) 2 2, .int .i64 2, .int .i64 5]) (by simp [results, Tryz.results44, go_sem, p0, p1, p2, p3]) rfl ⟨rfl, lit2 _ _ 10 0 20 1 (by omega) (by simp), hb⟩
def exA : Cal := ⟨fr [(0, 604800)], til [(0, 604800)], 1, fun _ => 0, fun _ => 0, 0, 0⟩
theorem wk_exA : Wk (fr [(0, 604800)]) (til [(0, 604800)]) 1 := by
  refine ⟨by omega, by decide, fun k hk => ?_⟩
  have e : k = 0 := by omega
  subst e
  decide
theorem exA_ok : exA.ok := ⟨wk_exA, by decide, by decide, by decide, by decide⟩
theorem exA_g {a b : Int} (h0 : 0 ≤ a) (hab : a ≤ b) (h1 : b ≤ 1125899906842624) : exA.g b = exA.g a + (exA.V b - exA.V a) := by
  have := exA.g_free exA_ok h0 hab h1 (fun t _ _ => by
    cases hh : hasB exA.G exA.U t exA.m with
    | false => rfl
    | true =>
      obtain ⟨j, hj, _⟩ := (hasB_iff exA.m).1 hh
      exact absurd hj (Nat.not_lt_zero _))
  omega
theorem exA_due {s b v e : Int} (d : Int) (h : exA.Dues s b v e) (s0 : 0 ≤ s) (hb : 0 < b) (hsd : s < d) (hd : d ≤ 1125899906842624) (hv : exA.V d - exA.V s = b) (ho : exA.opB (d - 1) = true) : v = d ∧ e = 0 := by
  refine exA.due_is h s0 hb hsd hd ?_ ho (by decide)
  rw [exA_g s0 (by omega) hd]
  omega
theorem exA_1 {v e : Int} (h : exA.Dues 5 10 v e) : v = 15 ∧ e = 0 := exA_due 15 h (by decide) (by decide) (by decide) (by decide) (by decide +kernel) (by decide +kernel)
theorem exA_2 {v e : Int} (h : exA.Dues 100 7 v e) : v = 107 ∧ e = 0 := exA_due 107 h (by decide) (by decide) (by decide) (by decide) (by decide +kernel) (by decide +kernel)
theorem exA_3 {v e : Int} (h : exA.Dues 0 10 v e) : v = 10 ∧ e = 0 := exA_due 10 h (by decide) (by decide) (by decide) (by decide) (by decide +kernel) (by decide +kernel)
theorem exA_4 {v e : Int} (h : exA.Dues 12 20 v e) : v = 32 ∧ e = 0 := exA_due 32 h (by decide) (by decide) (by decide) (by decide) (by decide +kernel) (by decide +kernel)
theorem exA_r {v e : Int} (h : RestIs exA 5 10 8 v e) : v = 7 ∧ e = 0 := by
  have hg : exA.g 8 = exA.g 5 + (exA.V 8 - exA.V 5) := exA_g (by decide) (by decide) (by decide)
  have hv : exA.V 8 - exA.V 5 = 3 := by decide +kernel
  rcases h with ⟨h, _, _⟩ | ⟨_, _, rfl, rfl⟩
  · rcases h with h | h
    · omega
    · exact absurd ⟨by decide, by decide, by decide⟩ h
  · exact ⟨by omega, rfl⟩
theorem plain_good : goodC 0 2 2 5 (fr [(10, 0), (20, 1)]) (til [(10, 0), (20, 1)]) = true := by decide
end Go.Proofs.YthnnbmofpmedhaaGreat

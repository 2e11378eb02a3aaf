/- The example of layer 7 holds in any world. -/
import Derived.Test.YthlmeppahcjlgaaJoD
import Derived.Test.YthlmeppahcjlgaaSpC
import Derived.Test.YthlmeppahcjlgaaSpD
import Derived.Test.YthlmeppahcjlgaaSpG
import Derived.Test.YthlmeppahcjlgaaSpH
import Derived.Test.YthlmeppahcjlgaaSpI
namespace Go.Proofs.Ythlmeppahcjlgaa
open Go.RowKit

/-- The spans of a literal can be read. -/
theorem lit_two (w : World) (a b c d : Int) (h : -9223372036854775808 ≤ a ∧ a ≤ 9223372036854775807 ∧ -9223372036854775808 ≤ b ∧ b ≤ 9223372036854775807 ∧ -9223372036854775808 ≤ c ∧ c ≤ 9223372036854775807 ∧ -9223372036854775808 ≤ d ∧ d ≤ 9223372036854775807) :
    Sps (w.alloc (.cells #[.int .i64 a, .int .i64 b, .int .i64 c, .int .i64 d] 25)) (some ⟨w.heap.size, 0, none⟩) 2 (fr [(a, b), (c, d)]) (til [(a, b), (c, d)]) := by
  refine ⟨by unfold maxLen; omega, fun _ => ⟨w.heap.size, 0, rfl, by simp, fun k hk => ?_⟩⟩
  rcases (by omega : k = 0 ∨ k = 1) with rfl | rfl
  · refine ⟨by simp [fr], by simp [til], ?_⟩
    simp only [fr, til, List.getD_eq_getElem?_getD, List.getElem?_cons_zero, Option.getD_some]
    omega
  · refine ⟨by simp [fr], by simp [til], ?_⟩
    simp only [fr, til, List.getD_eq_getElem?_getD, List.getElem?_cons_succ, List.getElem?_cons_zero, Option.getD_some]
    omega
theorem lit_one (w : World) (a b : Int) (h : -9223372036854775808 ≤ a ∧ a ≤ 9223372036854775807 ∧ -9223372036854775808 ≤ b ∧ b ≤ 9223372036854775807) :
    Sps (w.alloc (.cells #[.int .i64 a, .int .i64 b] 25)) (some ⟨w.heap.size, 0, none⟩) 1 (fr [(a, b)]) (til [(a, b)]) := by
  refine ⟨by unfold maxLen; omega, fun _ => ⟨w.heap.size, 0, rfl, by simp, fun k hk => ?_⟩⟩
  obtain rfl : k = 0 := by omega
  refine ⟨by simp [fr], by simp [til], ?_⟩
  simp only [fr, til, List.getD_eq_getElem?_getD, List.getElem?_cons_zero, Option.getD_some]
  omega
theorem pairs_lit2 (x y : Int × Int) : pairs (fr [x, y]) (til [x, y]) 2 = [x, y] := by
  simp [pairs, List.range_succ, fr, til]
theorem joined_ex : Joined [(5, 8), (0, 5)] [(0, 8)] := by
  refine ⟨List.pairwise_singleton .., fun s hs => ?_, fun t => ?_⟩
  · obtain rfl := List.mem_singleton.1 hs
    decide
  · rw [cov_one, cov_cons, cov_one]
    show 0 ≤ t ∧ t < 8 ↔ (5 ≤ t ∧ t < 8) ∨ (0 ≤ t ∧ t < 5)
    omega

set_option maxRecDepth 100000 in
set_option maxHeartbeats 4000000 in
theorem lives7 (w : World) : Calls Try.prog 12 #[] w fun e w' => e = .returned (.bool true) ∧ Below w.heap.size w w' := by
  have hS := lit_two w 0 10 20 30 (by omega)
  have B0 : Below w.heap.size w (w.alloc (.cells #[.int .i64 0, .int .i64 10, .int .i64 20, .int .i64 30] 25)) := (Below.refl _ _).alloc (Nat.le_refl _) _
  have hg : good (fr [(0, 10), (20, 30)]) (til [(0, 10), (20, 30)]) 2 = true := by decide
  have hn := nth_yes (some ⟨w.heap.size, 0, none⟩) 2 2 _ _ 12 _ hS (by omega) hg (by omega) (by decide)
  have e1 : nthV (fr [(0, 10), (20, 30)]) (til [(0, 10), (20, 30)]) 2 12 = 22 := by decide
  rw [e1] at hn
  have hw := fun w1 hb => within_ok (some ⟨w.heap.size, 0, none⟩) 2 2 _ _ 5 25 w1 (hS.kept hb) (by omega) hg
  have e2 : wsum (fr [(0, 10), (20, 30)]) (til [(0, 10), (20, 30)]) 5 25 2 = 10 := by decide
  simp only [e2] at hw
  have HW := Lib.hid hw
  have HB := Lib.hid B0
  clear hS hw hg e1 e2 B0
  go_enter Try.func12, Try.ntmps12
  go_wp2_with fail
  refine hn.mono ?_
  rintro e w1 ⟨rfl, hb1⟩
  clear hn
  have HB1 := Lib.hid (HB.out.trans (hb1.mono HB.out.size))
  go_wp2_with fail
  refine (HW.out w1 hb1).mono ?_
  rintro e w2 ⟨rfl, hb2⟩
  have HB2 := Lib.hid (HB1.out.trans (hb2.mono HB1.out.size))
  have hS2 := lit_two w2 5 8 0 5 (by omega)
  have hj := join_ok (some ⟨w2.heap.size, 0, none⟩) 2 2 _ _ _ hS2 (by omega) (by rw [pairs_lit2]; intro s hs; simp only [List.mem_cons, List.not_mem_nil, or_false] at hs; rcases hs with rfl | rfl <;> decide)
  rw [pairs_lit2] at hj
  have HB3 := Lib.hid (HB2.out.alloc HB2.out.size (.cells #[.int .i64 5, .int .i64 8, .int .i64 0, .int .i64 5] 25))
  clear hb1 hb2 HW HB HB1 HB2 hS2
  go_wp2_with fail
  refine hj.mono ?_
  rintro e w3 ⟨v, j, rfl, hO, hJ, -, hb3⟩
  clear hj
  obtain rfl := hJ.uniq joined_ex
  obtain ⟨a, c, rfl, _, _⟩ := hO.shape
  have B4 : Below w3.heap.size w3 (w3.alloc (.cells #[.int .i64 0, .int .i64 8] 25)) := (Below.refl _ _).alloc (Nat.le_refl _) _
  have hS3 := ((hO.kept B4).sps (by intro s hs; obtain rfl := List.mem_singleton.1 hs; decide)).2
  have hsm := same_any a (some ⟨w3.heap.size, 0, none⟩) _ c 1 1 _ _ _ _ _ hS3 (lit_one w3 0 8 (by omega))
  have e3 : sameL (fr [(0, 8)]) (til [(0, 8)]) (fr [(0, 8)]) (til [(0, 8)]) [((0 : Int), (8 : Int))].length 1 = true := by decide
  rw [e3] at hsm
  have HB4 := Lib.hid ((HB3.out.trans (hb3.mono HB3.out.size)).alloc (HB3.out.trans (hb3.mono HB3.out.size)).size (.cells #[.int .i64 0, .int .i64 8] 25))
  clear hO hJ hb3 B4 hS3 e3 HB3
  go_wp2_with fail
  refine hsm.mono ?_
  rintro e w4 ⟨rfl, q, rfl⟩
  go_wp2_with fail
  go_ret
  exact ⟨rfl, below_drewN' HB4.out q⟩
end Go.Proofs.Ythlmeppahcjlgaa

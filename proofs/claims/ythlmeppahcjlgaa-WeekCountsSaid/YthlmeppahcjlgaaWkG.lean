/- The example of layer 8 holds in any world; WeekNobody. -/
import Derived.Test.YthlmeppahcjlgaaWkF
import Derived.Deep.RegionHeld3
namespace Go.Proofs.Ythlmeppahcjlgaa
open Go.RowKit

theorem lit_span (w : World) (a b : Int) (h : -9223372036854775808 ≤ a ∧ a ≤ 9223372036854775807 ∧ -9223372036854775808 ≤ b ∧ b ≤ 9223372036854775807) :
    Sps (w.alloc (.cells #[.int .i64 a, .int .i64 b] 25)) (some ⟨w.heap.size, 0, none⟩) 1 (fr [(a, b)]) (til [(a, b)]) := by
  refine ⟨by unfold maxLen; omega, fun _ => ⟨w.heap.size, 0, rfl, by simp, fun k hk => ?_⟩⟩
  obtain rfl : k = 0 := by omega
  refine ⟨by simp [fr], by simp [til], ?_⟩
  simp only [fr, til, List.getD_eq_getElem?_getD, List.getElem?_cons_zero, Option.getD_some]
  omega
theorem wk_ex : Wk (fr [(10, 20)]) (til [(10, 20)]) 1 := by
  refine ⟨by omega, by decide, fun k hk => ?_⟩
  have e : k = 0 := by omega
  subst e
  decide
set_option maxRecDepth 100000 in
set_option maxHeartbeats 4000000 in
theorem lives8 (w : World) : Calls Try.prog 29 #[] w fun e w' => e = .returned (.bool true) ∧ Below w.heap.size w w' := by
  have B0 : Below w.heap.size w (w.alloc (.cells #[.int .i64 10, .int .i64 20] 25)) := (Below.refl _ _).alloc (Nat.le_refl _) _
  have hnew := new_ok _ 1 1 _ _ _ (lit_span w 10 20 (by omega)) wk_ex
  have HB0 := Lib.hid B0
  clear B0
  go_enter Try.func29, Try.ntmps29
  go_wp2_with fail
  refine hnew.mono ?_
  rintro e w1 ⟨P, C, a, c, rfl, hP, hb1⟩
  clear hnew
  have hbase : w.heap.size + 1 ≤ w1.heap.size := by have := hb1.size; simp at this; omega
  have hP' : Pl (w.heap.size + 1) P C a 1 c (fr [(10, 20)]) (til [(10, 20)]) w1 := by simpa using hP
  have hn := nth_plan 15 hP' wk_ex hbase (by omega)
  have e1 : pnV (fr [(10, 20)]) (til [(10, 20)]) 1 15 = 604815 := by decide
  have e2 : pnE (fr [(10, 20)]) (til [(10, 20)]) 1 15 = 0 := by decide
  rw [e1, e2] at hn
  have HB1 := Lib.hid (HB0.out.trans (hb1.mono HB0.out.size))
  clear hP hP' hb1 e1 e2
  go_wp2_with fail
  refine hn.mono ?_
  rintro e w2 ⟨rfl, hP2, hS2⟩
  have hu := until_any 604815 hP2 wk_ex (Nat.le_trans hbase hS2.1)
  have e3 : untilV (fr [(10, 20)]) (til [(10, 20)]) 1 604815 = 15 := by decide
  rw [e3] at hu
  have HS2 := Lib.hid hS2
  clear hn hP2 hS2 e3
  go_wp2_with fail
  refine hu.mono ?_
  rintro e w3 ⟨rfl, hP3, hS3⟩
  have HS3 := Lib.hid (HS2.out.trans hS3)
  clear hu hP3 hS3
  go_wp2_with fail
  go_ret
  have hB : Below (w.heap.size + 1) w1 w3 := HS3.out.2 w1 (Below.refl _ _)
  exact ⟨rfl, HB1.out.trans (hB.mono (by omega))⟩
end Go.Proofs.Ythlmeppahcjlgaa

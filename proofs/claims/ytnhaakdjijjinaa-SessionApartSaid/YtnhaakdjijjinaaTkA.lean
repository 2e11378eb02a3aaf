/- Tickets: how one is handed on; its small functions. -/
import Derived.Test.YtnhaakdjijjinaaChA
import Derived.Test.YtnhaakdjijjinaaChC
import Derived.Deep.RegionHeld3
namespace Go.Proofs.Ytnhaakdjijjinaa
open Go.RowKit
def tkV (id cn st lv ge fr lf du tl : Int) : Value := .agg #[.int .u64 id, .int .i64 cn, .int .i64 st, .int .i64 lv, .int .u64 ge, .int .i64 fr, .int .i64 lf, .int .i64 du, .int .i64 tl]
theorem nine_at {w : World} {N : Nat} {x0 x1 x2 x3 x4 x5 x6 x7 x8 : Value} {t : TypeId} (h : w.heap[N]? = some (.cells #[x0, x1, x2, x3, x4, x5, x6, x7, x8] t (0, 0))) :
    w.cell? ⟨N, 0, none⟩ = some x0 ∧ w.cell? ⟨N, 1, none⟩ = some x1 ∧ w.cell? ⟨N, 2, none⟩ = some x2 ∧ w.cell? ⟨N, 3, none⟩ = some x3 ∧ w.cell? ⟨N, 4, none⟩ = some x4 ∧ w.cell? ⟨N, 5, none⟩ = some x5 ∧ w.cell? ⟨N, 6, none⟩ = some x6 ∧ w.cell? ⟨N, 7, none⟩ = some x7 ∧ w.cell? ⟨N, 8, none⟩ = some x8 := by
  simp [World.cell?, h]
theorem nine_fr {w : World} {N : Nat} {x0 x1 x2 x3 x4 x5 x6 x7 x8 : Value} {t : TypeId} (h : w.heap[N]? = some (.cells #[x0, x1, x2, x3, x4, x5, x6, x7, x8] t (0, 0))) :
    w.frozen? ⟨N, 0, none⟩ = false ∧ w.frozen? ⟨N, 1, none⟩ = false ∧ w.frozen? ⟨N, 2, none⟩ = false ∧ w.frozen? ⟨N, 3, none⟩ = false ∧ w.frozen? ⟨N, 4, none⟩ = false ∧ w.frozen? ⟨N, 5, none⟩ = false ∧ w.frozen? ⟨N, 6, none⟩ = false ∧ w.frozen? ⟨N, 7, none⟩ = false ∧ w.frozen? ⟨N, 8, none⟩ = false := by
  simp [World.frozen?, h]
def put9 (w : World) (N : Nat) (y0 y1 y2 y3 y4 y5 y6 y7 y8 : Value) : World := ((((((((w.setCell ⟨N, 0, none⟩ (y0)).setCell ⟨N, 1, none⟩ (y1)).setCell ⟨N, 2, none⟩ (y2)).setCell ⟨N, 3, none⟩ (y3)).setCell ⟨N, 4, none⟩ (y4)).setCell ⟨N, 5, none⟩ (y5)).setCell ⟨N, 6, none⟩ (y6)).setCell ⟨N, 7, none⟩ (y7)).setCell ⟨N, 8, none⟩ (y8)
theorem put9_at {w : World} {N : Nat} {x0 x1 x2 x3 x4 x5 x6 x7 x8 : Value} {t : TypeId} (h : w.heap[N]? = some (.cells #[x0, x1, x2, x3, x4, x5, x6, x7, x8] t (0, 0))) (y0 y1 y2 y3 y4 y5 y6 y7 y8 : Value) :
    (put9 w N y0 y1 y2 y3 y4 y5 y6 y7 y8).heap[N]? = some (.cells #[y0, y1, y2, y3, y4, y5, y6, y7, y8] t (0, 0)) ∧ (∀ k, k ≠ N → (put9 w N y0 y1 y2 y3 y4 y5 y6 y7 y8).heap[k]? = w.heap[k]?) ∧ (put9 w N y0 y1 y2 y3 y4 y5 y6 y7 y8).heap.size = w.heap.size := by
  refine ⟨?_, fun k hk => ?_, by simp [put9]⟩
  · have hh := heap_put (heap_put (heap_put (heap_put (heap_put (heap_put (heap_put (heap_put (heap_put h 0 y0) 1 y1) 2 y2) 3 y3) 4 y4) 5 y5) 6 y6) 7 y7) 8 y8
    simp only [List.setIfInBounds_toArray, List.set_cons_zero, List.set_cons_succ] at hh
    exact hh
  · unfold put9
    rw [Below.heap_setCell _ _ _ _ (by exact hk), Below.heap_setCell _ _ _ _ (by exact hk), Below.heap_setCell _ _ _ _ (by exact hk), Below.heap_setCell _ _ _ _ (by exact hk), Below.heap_setCell _ _ _ _ (by exact hk), Below.heap_setCell _ _ _ _ (by exact hk), Below.heap_setCell _ _ _ _ (by exact hk), Below.heap_setCell _ _ _ _ (by exact hk), Below.heap_setCell _ _ _ _ (by exact hk)]
theorem below_put9 {B : Nat} {w w' : World} (h : Below B w w') {N : Nat} (hN : B ≤ N) (y0 y1 y2 y3 y4 y5 y6 y7 y8 : Value) : Below B w (put9 w' N y0 y1 y2 y3 y4 y5 y6 y7 y8) :=
  ((((((((h.setCell (p := ⟨N, 0, none⟩) hN y0).setCell (p := ⟨N, 1, none⟩) hN y1).setCell (p := ⟨N, 2, none⟩) hN y2).setCell (p := ⟨N, 3, none⟩) hN y3).setCell (p := ⟨N, 4, none⟩) hN y4).setCell (p := ⟨N, 5, none⟩) hN y5).setCell (p := ⟨N, 6, none⟩) hN y6).setCell (p := ⟨N, 7, none⟩) hN y7).setCell (p := ⟨N, 8, none⟩) hN y8
set_option maxRecDepth 100000 in
theorem tin_i (n l m : Int) (x : Bool) (hx : rngB n l m = x) (w : World) : Calls Try.prog 76 #[.int .i64 n, .int .i64 l, .int .i64 m] w fun e w' => e = .returned (.bool x) ∧ w = w' := by
  subst hx
  unfold rngB
  obtain ⟨x1, h1⟩ : ∃ x, decide (l ≤ n) = x := ⟨_, rfl⟩
  rw [h1]
  cases x1
  all_goals
    go_enter Try.func76, Try.ntmps76
    go_wp2
    go_ret
    exact ⟨rfl, rfl⟩
set_option maxRecDepth 100000 in
theorem tin_l (n l m : Int) (x : Bool) (hx : rngB n l m = x) (w : World) : Calls Try.prog 77 #[.int .i64 n, .int .i64 l, .int .i64 m] w fun e w' => e = .returned (.bool x) ∧ w = w' := by
  subst hx
  unfold rngB
  obtain ⟨x1, h1⟩ : ∃ x, decide (l ≤ n) = x := ⟨_, rfl⟩
  rw [h1]
  cases x1
  all_goals
    go_enter Try.func77, Try.ntmps77
    go_wp2
    go_ret
    exact ⟨rfl, rfl⟩
set_option maxRecDepth 100000 in
set_option maxHeartbeats 4000000 in
theorem tk_step (id cn st lv ge fr lf du tl : Int) (w : World) : Calls Try.prog 78 #[tkV id cn st lv ge fr lf du tl] w fun e w' => e = .returned (stepV lv fr lf du) ∧ Below w.heap.size w w' := by
  obtain ⟨B2, s0, s1, sz⟩ := box2 w #[.int .u64 id, .int .i64 cn, .int .i64 st, .int .i64 lv, .int .u64 ge, .int .i64 fr, .int .i64 lf, .int .i64 du, .int .i64 tl] #[.int .i64 0, .int .i64 0, .int .i64 0, .int .i64 0] 25 117
  obtain ⟨c0, c1, c2, c3, c4, c5, c6, c7, c8⟩ := nine_at s0
  obtain ⟨f0, f1, f2, f3, f4, f5, f6, f7⟩ := four_at s1
  obtain ⟨hb, -, h1, -⟩ := box2 w #[.int .u64 id, .int .i64 cn, .int .i64 st, .int .i64 lv, .int .u64 ge, .int .i64 fr, .int .i64 lf, .int .i64 du, .int .i64 tl] #[.int .i64 lv, .int .i64 fr, .int .i64 lf, .int .i64 du] 25 117
  obtain ⟨p0, p1, p2, p3, -⟩ := four_at h1
  have HB := Lib.hid hb
  unfold tkV stepV
  clear B2 s0 s1 sz hb h1
  go_enter Try.func78, Try.ntmps78
  go_wp2_with fail
  exact bodyPost_ret (v := .agg #[.int .i64 lv, .int .i64 fr, .int .i64 lf, .int .i64 du]) (by simp [results, Try.results78, go_sem, p0, p1, p2, p3]) rfl ⟨rfl, HB.out⟩
set_option maxRecDepth 100000 in
set_option maxHeartbeats 4000000 in
theorem tk_ended (id cn st lv ge fr lf du tl : Int) (w : World) : Calls Try.prog 79 #[tkV id cn st lv ge fr lf du tl] w fun e w' => e = .returned (stepV lv 0 0 0) ∧ Below w.heap.size w w' := by
  obtain ⟨B2, s0, s1, sz⟩ := box2 w #[.int .u64 id, .int .i64 cn, .int .i64 st, .int .i64 lv, .int .u64 ge, .int .i64 fr, .int .i64 lf, .int .i64 du, .int .i64 tl] #[.int .i64 0, .int .i64 0, .int .i64 0, .int .i64 0] 25 117
  obtain ⟨c0, c1, c2, c3, c4, c5, c6, c7, c8⟩ := nine_at s0
  obtain ⟨f0, f1, f2, f3, f4, f5, f6, f7⟩ := four_at s1
  obtain ⟨hb, -, h1, -⟩ := box2 w #[.int .u64 id, .int .i64 cn, .int .i64 st, .int .i64 lv, .int .u64 ge, .int .i64 fr, .int .i64 lf, .int .i64 du, .int .i64 tl] #[.int .i64 lv, .int .i64 0, .int .i64 0, .int .i64 0] 25 117
  obtain ⟨p0, p1, p2, p3, -⟩ := four_at h1
  have HB := Lib.hid hb
  unfold tkV stepV
  clear B2 s0 s1 sz hb h1
  go_enter Try.func79, Try.ntmps79
  go_wp2_with fail
  exact bodyPost_ret (v := .agg #[.int .i64 lv, .int .i64 0, .int .i64 0, .int .i64 0]) (by simp [results, Try.results79, go_sem, p0, p1, p2, p3]) rfl ⟨rfl, HB.out⟩
end Go.Proofs.Ytnhaakdjijjinaa

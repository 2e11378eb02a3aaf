/- Replies: how one is handed on; its small functions; tickets compared. -/
import Derived.Test.YtnhaakdjijjinaaTkG
import Derived.Test.YtnhaakdjijjinaaNbA
import Derived.Laws.StructEq
namespace Go.Proofs.Ytnhaakdjijjinaa
open Go.RowKit
def repV (cd tm id cn st lv ge fr lf du tl : Int) (a : Option Addr) (n ca : Nat) (nt de : Int) : Value := .agg #[.int .i64 cd, .int .i64 tm, .int .u64 id, .int .i64 cn, .int .i64 st, .int .i64 lv, .int .u64 ge, .int .i64 fr, .int .i64 lf, .int .i64 du, .int .i64 tl, .slice a n ca, .int .u64 nt, .int .i64 de]
theorem rep_at {w : World} {N : Nat} { x0 x1 x2 x3 x4 x5 x6 x7 x8 x9 x10 x11 x12 x13 : Value} {t : TypeId} (h : w.heap[N]? = some (.cells #[x0, x1, x2, x3, x4, x5, x6, x7, x8, x9, x10, x11, x12, x13] t (0, 0))) : (w.cell? ⟨N, 0, none⟩ = some x0 ∧ w.cell? ⟨N, 1, none⟩ = some x1 ∧ w.cell? ⟨N, 2, none⟩ = some x2 ∧ w.cell? ⟨N, 3, none⟩ = some x3 ∧ w.cell? ⟨N, 4, none⟩ = some x4 ∧ w.cell? ⟨N, 5, none⟩ = some x5 ∧ w.cell? ⟨N, 6, none⟩ = some x6 ∧ w.cell? ⟨N, 7, none⟩ = some x7 ∧ w.cell? ⟨N, 8, none⟩ = some x8 ∧ w.cell? ⟨N, 9, none⟩ = some x9 ∧ w.cell? ⟨N, 10, none⟩ = some x10 ∧ w.cell? ⟨N, 11, none⟩ = some x11 ∧ w.cell? ⟨N, 12, none⟩ = some x12 ∧ w.cell? ⟨N, 13, none⟩ = some x13) := by
  simp [World.cell?, h]
theorem rep_fr {w : World} {N : Nat} { x0 x1 x2 x3 x4 x5 x6 x7 x8 x9 x10 x11 x12 x13 : Value} {t : TypeId} (h : w.heap[N]? = some (.cells #[x0, x1, x2, x3, x4, x5, x6, x7, x8, x9, x10, x11, x12, x13] t (0, 0))) : ∀ o, w.frozen? ⟨N, o, none⟩ = false := by
  simp [World.frozen?, h]
def put14 (w : World) (N : Nat) (y0 y1 y2 y3 y4 y5 y6 y7 y8 y9 y10 y11 y12 y13 : Value) : World := (((((((((((((w.setCell ⟨N, 0, none⟩ y0).setCell ⟨N, 1, none⟩ y1).setCell ⟨N, 2, none⟩ y2).setCell ⟨N, 3, none⟩ y3).setCell ⟨N, 4, none⟩ y4).setCell ⟨N, 5, none⟩ y5).setCell ⟨N, 6, none⟩ y6).setCell ⟨N, 7, none⟩ y7).setCell ⟨N, 8, none⟩ y8).setCell ⟨N, 9, none⟩ y9).setCell ⟨N, 10, none⟩ y10).setCell ⟨N, 11, none⟩ y11).setCell ⟨N, 12, none⟩ y12).setCell ⟨N, 13, none⟩ y13
theorem put14_at {w : World} {N : Nat} { x0 x1 x2 x3 x4 x5 x6 x7 x8 x9 x10 x11 x12 x13 : Value} {t : TypeId} (h : w.heap[N]? = some (.cells #[x0, x1, x2, x3, x4, x5, x6, x7, x8, x9, x10, x11, x12, x13] t (0, 0))) (y0 y1 y2 y3 y4 y5 y6 y7 y8 y9 y10 y11 y12 y13 : Value) :
    (put14 w N y0 y1 y2 y3 y4 y5 y6 y7 y8 y9 y10 y11 y12 y13).heap[N]? = some (.cells #[y0, y1, y2, y3, y4, y5, y6, y7, y8, y9, y10, y11, y12, y13] t (0, 0)) := by
  unfold put14
  have hh := heap_set (heap_set (heap_set (heap_set (heap_set (heap_set (heap_set (heap_set (heap_set (heap_set (heap_set (heap_set (heap_set (heap_set h 0 y0) 1 y1) 2 y2) 3 y3) 4 y4) 5 y5) 6 y6) 7 y7) 8 y8) 9 y9) 10 y10) 11 y11) 12 y12) 13 y13
  simp only [List.setIfInBounds_toArray, List.set_cons_zero, List.set_cons_succ] at hh
  exact hh
theorem put14_below {B : Nat} (w : World) {N : Nat} (hN : B ≤ N) (y0 y1 y2 y3 y4 y5 y6 y7 y8 y9 y10 y11 y12 y13 : Value) : Below B w (put14 w N y0 y1 y2 y3 y4 y5 y6 y7 y8 y9 y10 y11 y12 y13) :=
  ((((((((((((((Below.refl B w).setCell (p := ⟨N, 0, none⟩) hN y0).setCell (p := ⟨N, 1, none⟩) hN y1).setCell (p := ⟨N, 2, none⟩) hN y2).setCell (p := ⟨N, 3, none⟩) hN y3).setCell (p := ⟨N, 4, none⟩) hN y4).setCell (p := ⟨N, 5, none⟩) hN y5).setCell (p := ⟨N, 6, none⟩) hN y6).setCell (p := ⟨N, 7, none⟩) hN y7).setCell (p := ⟨N, 8, none⟩) hN y8).setCell (p := ⟨N, 9, none⟩) hN y9).setCell (p := ⟨N, 10, none⟩) hN y10).setCell (p := ⟨N, 11, none⟩) hN y11).setCell (p := ⟨N, 12, none⟩) hN y12).setCell (p := ⟨N, 13, none⟩) hN y13
/-- Are two tickets the same? -/
def tEq (id cn st lv ge fr lf du tl : Int) (id' cn' st' lv' ge' fr' lf' du' tl' : Int) : Bool := (id == id') && ((cn == cn') && ((st == st') && ((lv == lv') && ((ge == ge') && ((fr == fr') && ((lf == lf') && ((du == du') && (tl == tl'))))))))
theorem tEq_iff (id cn st lv ge fr lf du tl : Int) (id' cn' st' lv' ge' fr' lf' du' tl' : Int) : tEq id cn st lv ge fr lf du tl id' cn' st' lv' ge' fr' lf' du' tl' = true ↔ id = id' ∧ cn = cn' ∧ st = st' ∧ lv = lv' ∧ ge = ge' ∧ fr = fr' ∧ lf = lf' ∧ du = du' ∧ tl = tl' := by simp [tEq]
theorem tk_struct : Try.prog.underlying 25 = some (.struct (Try.prog.fieldsOf 25)) := by kernel_rfl
theorem tk_held : Try.prog.stoodInHeld 25 = false := by kernel_rfl
theorem tk_guard : Try.prog.eqGuardType Try.prog.depth 25 = false := by kernel_rfl
theorem guard_tk (op : BinOp) (x y : Operand) (xs ys : Array Value) (w : World) : (eqGuard op 25 x y (.agg xs) (.agg ys)).run Try.prog w = .ok () w := run_eqGuard_agg w op _ x y xs ys tk_guard
set_option maxRecDepth 100000 in
set_option maxHeartbeats 8000000 in
theorem eq_tk (id cn st lv ge fr lf du tl : Int) (id' cn' st' lv' ge' fr' lf' du' tl' : Int) (w : World) : (Op.equalIn 10000 25 (.agg #[.int .u64 id, .int .i64 cn, .int .i64 st, .int .i64 lv, .int .u64 ge, .int .i64 fr, .int .i64 lf, .int .i64 du, .int .i64 tl]) (.agg #[.int .u64 id', .int .i64 cn', .int .i64 st', .int .i64 lv', .int .u64 ge', .int .i64 fr', .int .i64 lf', .int .i64 du', .int .i64 tl'])).run Try.prog w = .ok (tEq id cn st lv ge fr lf du tl id' cn' st' lv' ge' fr' lf' du' tl') w := by
  rw [run_equalIn_agg w 9999 _ _ _ tk_struct tk_held]
  have h : Try.prog.underlying 2 = some (.int .i64) := Try.underlying2
  have h' : Try.prog.underlying 3 = some (.int .i64) := Try.underlying3
  have h2 : Try.prog.underlying 23 = some (.int .u64) := Try.underlying23
  unfold tEq
  cases e1 : id == id'
  · simp [Op.eqFields, go_sem, h, h', h2, Try.underlying25, e1]
  cases e2 : cn == cn'
  · simp [Op.eqFields, go_sem, h, h', h2, Try.underlying25, e1, e2]
  cases e3 : st == st'
  · simp [Op.eqFields, go_sem, h, h', h2, Try.underlying25, e1, e2, e3]
  cases e4 : lv == lv'
  · simp [Op.eqFields, go_sem, h, h', h2, Try.underlying25, e1, e2, e3, e4]
  cases e5 : ge == ge'
  · simp [Op.eqFields, go_sem, h, h', h2, Try.underlying25, e1, e2, e3, e4, e5]
  cases e6 : fr == fr'
  · simp [Op.eqFields, go_sem, h, h', h2, Try.underlying25, e1, e2, e3, e4, e5, e6]
  cases e7 : lf == lf'
  · simp [Op.eqFields, go_sem, h, h', h2, Try.underlying25, e1, e2, e3, e4, e5, e6, e7]
  cases e8 : du == du'
  · simp [Op.eqFields, go_sem, h, h', h2, Try.underlying25, e1, e2, e3, e4, e5, e6, e7, e8]
  cases e9 : tl == tl'
  · simp [Op.eqFields, go_sem, h, h', h2, Try.underlying25, e1, e2, e3, e4, e5, e6, e7, e8, e9]
  · simp [Op.eqFields, go_sem, h, h', h2, Try.underlying25, e1, e2, e3, e4, e5, e6, e7, e8, e9]
theorem eql_tk (id cn st lv ge fr lf du tl : Int) (id' cn' st' lv' ge' fr' lf' du' tl' : Int) (w : World) : (binOp .eql 25 (.agg #[.int .u64 id, .int .i64 cn, .int .i64 st, .int .i64 lv, .int .u64 ge, .int .i64 fr, .int .i64 lf, .int .i64 du, .int .i64 tl]) (.agg #[.int .u64 id', .int .i64 cn', .int .i64 st', .int .i64 lv', .int .u64 ge', .int .i64 fr', .int .i64 lf', .int .i64 du', .int .i64 tl'])).run Try.prog w = .ok (.bool (tEq id cn st lv ge fr lf du tl id' cn' st' lv' ge' fr' lf' du' tl')) w := by
  rw [run_eql_struct, eq_tk]; rfl
theorem neq_tk (id cn st lv ge fr lf du tl : Int) (id' cn' st' lv' ge' fr' lf' du' tl' : Int) (w : World) : (binOp .neq 25 (.agg #[.int .u64 id, .int .i64 cn, .int .i64 st, .int .i64 lv, .int .u64 ge, .int .i64 fr, .int .i64 lf, .int .i64 du, .int .i64 tl]) (.agg #[.int .u64 id', .int .i64 cn', .int .i64 st', .int .i64 lv', .int .u64 ge', .int .i64 fr', .int .i64 lf', .int .i64 du', .int .i64 tl'])).run Try.prog w = .ok (.bool (!tEq id cn st lv ge fr lf du tl id' cn' st' lv' ge' fr' lf' du' tl')) w := by
  rw [run_neq_struct, eq_tk]; rfl
/-- Has a reply no ticket? -/
def noT (id cn st lv ge fr lf du tl : Int) : Bool := tEq id cn st lv ge fr lf du tl 0 0 0 0 0 0 0 0 0
theorem eql_tz (id cn st lv ge fr lf du tl : Int) (w : World) : (binOp .eql 25 (.agg #[.int .u64 id, .int .i64 cn, .int .i64 st, .int .i64 lv, .int .u64 ge, .int .i64 fr, .int .i64 lf, .int .i64 du, .int .i64 tl]) (.agg #[.int .u64 0, .int .i64 0, .int .i64 0, .int .i64 0, .int .u64 0, .int .i64 0, .int .i64 0, .int .i64 0, .int .i64 0])).run Try.prog w = .ok (.bool (noT id cn st lv ge fr lf du tl)) w := eql_tk id cn st lv ge fr lf du tl 0 0 0 0 0 0 0 0 0 w
theorem neq_tz (id cn st lv ge fr lf du tl : Int) (w : World) : (binOp .neq 25 (.agg #[.int .u64 id, .int .i64 cn, .int .i64 st, .int .i64 lv, .int .u64 ge, .int .i64 fr, .int .i64 lf, .int .i64 du, .int .i64 tl]) (.agg #[.int .u64 0, .int .i64 0, .int .i64 0, .int .i64 0, .int .u64 0, .int .i64 0, .int .i64 0, .int .i64 0, .int .i64 0])).run Try.prog w = .ok (.bool (!noT id cn st lv ge fr lf du tl)) w := neq_tk id cn st lv ge fr lf du tl 0 0 0 0 0 0 0 0 0 w
set_option maxRecDepth 100000 in
theorem rin_e (n l m : Int) (x : Bool) (hx : rngB n l m = x) (w : World) : Calls Try.prog 42 #[.int .i64 n, .int .i64 l, .int .i64 m] w fun e w' => e = .returned (.bool x) ∧ w = w' := by
  subst hx
  unfold rngB
  obtain ⟨x1, h1⟩ : ∃ x, decide (l ≤ n) = x := ⟨_, rfl⟩
  rw [h1]
  cases x1
  all_goals
    go_enter Try.func42, Try.ntmps42
    go_wp2
    go_ret
    exact ⟨rfl, rfl⟩
set_option maxRecDepth 100000 in
theorem rin_l (n l m : Int) (x : Bool) (hx : rngB n l m = x) (w : World) : Calls Try.prog 43 #[.int .i64 n, .int .i64 l, .int .i64 m] w fun e w' => e = .returned (.bool x) ∧ w = w' := by
  subst hx
  unfold rngB
  obtain ⟨x1, h1⟩ : ∃ x, decide (l ≤ n) = x := ⟨_, rfl⟩
  rw [h1]
  cases x1
  all_goals
    go_enter Try.func43, Try.ntmps43
    go_wp2
    go_ret
    exact ⟨rfl, rfl⟩
set_option maxRecDepth 100000 in
theorem rin_i (n l m : Int) (x : Bool) (hx : rngB n l m = x) (w : World) : Calls Try.prog 46 #[.int .i64 n, .int .i64 l, .int .i64 m] w fun e w' => e = .returned (.bool x) ∧ w = w' := by
  subst hx
  unfold rngB
  obtain ⟨x1, h1⟩ : ∃ x, decide (l ≤ n) = x := ⟨_, rfl⟩
  rw [h1]
  cases x1
  all_goals
    go_enter Try.func46, Try.ntmps46
    go_wp2
    go_ret
    exact ⟨rfl, rfl⟩
set_option maxRecDepth 100000 in
set_option maxHeartbeats 8000000 in
theorem about_any (cd tm id cn st lv ge fr lf du tl : Int) (a : Option Addr) (n ca : Nat) (nt de : Int) (w : World) : Calls Try.prog 44 #[repV cd tm id cn st lv ge fr lf du tl a n ca nt de] w fun e w' => e = .returned (.bool (!noT id cn st lv ge fr lf du tl)) ∧ Below w.heap.size w w' := by
  obtain ⟨B1, s0, -⟩ := box1 w #[.int .i64 cd, .int .i64 tm, .int .u64 id, .int .i64 cn, .int .i64 st, .int .i64 lv, .int .u64 ge, .int .i64 fr, .int .i64 lf, .int .i64 du, .int .i64 tl, .slice a n ca, .int .u64 nt, .int .i64 de] 28
  obtain ⟨q0, q1, q2, q3, q4, q5, q6, q7, q8, q9, q10, q11, q12, q13⟩ := rep_at s0
  have HB := Lib.hid B1
  have hn := neq_tz id cn st lv ge fr lf du tl
  have hg := guard_tk
  generalize noT id cn st lv ge fr lf du tl = z at hn ⊢
  unfold repV
  clear B1 s0
  go_enter Try.func44, Try.ntmps44
  go_wp2_with fail
  go_ret
  exact ⟨rfl, HB.out⟩
end Go.Proofs.Ytnhaakdjijjinaa

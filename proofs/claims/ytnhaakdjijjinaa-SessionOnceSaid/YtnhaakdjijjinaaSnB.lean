/- Session: a table's parts: whether it was made, the last request of a client. -/
import Derived.Test.YtnhaakdjijjinaaSnA
import Derived.Test.YtnhaakdjijjinaaRyE
import Derived.Test.YtnhaakdjijjinaaRyF
namespace Go.Proofs.Ytnhaakdjijjinaa
open Go.RowKit Go.Maps
theorem rq_at {w : World} {N : Nat} { x0 x1 x2 x3 x4 x5 x6 x7 x8 x9 x10 x11 x12 x13 x14 : Value} {t : TypeId} (h : w.heap[N]? = some (.cells #[x0, x1, x2, x3, x4, x5, x6, x7, x8, x9, x10, x11, x12, x13, x14] t (0, 0))) : (w.cell? ⟨N, 0, none⟩ = some x0 ∧ w.cell? ⟨N, 1, none⟩ = some x1 ∧ w.cell? ⟨N, 2, none⟩ = some x2 ∧ w.cell? ⟨N, 3, none⟩ = some x3 ∧ w.cell? ⟨N, 4, none⟩ = some x4 ∧ w.cell? ⟨N, 5, none⟩ = some x5 ∧ w.cell? ⟨N, 6, none⟩ = some x6 ∧ w.cell? ⟨N, 7, none⟩ = some x7 ∧ w.cell? ⟨N, 8, none⟩ = some x8 ∧ w.cell? ⟨N, 9, none⟩ = some x9 ∧ w.cell? ⟨N, 10, none⟩ = some x10 ∧ w.cell? ⟨N, 11, none⟩ = some x11 ∧ w.cell? ⟨N, 12, none⟩ = some x12 ∧ w.cell? ⟨N, 13, none⟩ = some x13 ∧ w.cell? ⟨N, 14, none⟩ = some x14) := by
  simp [World.cell?, h]
theorem rq_fr {w : World} {N : Nat} { x0 x1 x2 x3 x4 x5 x6 x7 x8 x9 x10 x11 x12 x13 x14 : Value} {t : TypeId} (h : w.heap[N]? = some (.cells #[x0, x1, x2, x3, x4, x5, x6, x7, x8, x9, x10, x11, x12, x13, x14] t (0, 0))) : ∀ o, w.frozen? ⟨N, o, none⟩ = false := by
  simp [World.frozen?, h]
def put15 (w : World) (N : Nat) (y0 y1 y2 y3 y4 y5 y6 y7 y8 y9 y10 y11 y12 y13 y14 : Value) : World := ((((((((((((((w.setCell ⟨N, 0, none⟩ y0).setCell ⟨N, 1, none⟩ y1).setCell ⟨N, 2, none⟩ y2).setCell ⟨N, 3, none⟩ y3).setCell ⟨N, 4, none⟩ y4).setCell ⟨N, 5, none⟩ y5).setCell ⟨N, 6, none⟩ y6).setCell ⟨N, 7, none⟩ y7).setCell ⟨N, 8, none⟩ y8).setCell ⟨N, 9, none⟩ y9).setCell ⟨N, 10, none⟩ y10).setCell ⟨N, 11, none⟩ y11).setCell ⟨N, 12, none⟩ y12).setCell ⟨N, 13, none⟩ y13).setCell ⟨N, 14, none⟩ y14
theorem put15_at {w : World} {N : Nat} { x0 x1 x2 x3 x4 x5 x6 x7 x8 x9 x10 x11 x12 x13 x14 : Value} {t : TypeId} (h : w.heap[N]? = some (.cells #[x0, x1, x2, x3, x4, x5, x6, x7, x8, x9, x10, x11, x12, x13, x14] t (0, 0))) (y0 y1 y2 y3 y4 y5 y6 y7 y8 y9 y10 y11 y12 y13 y14 : Value) :
    (put15 w N y0 y1 y2 y3 y4 y5 y6 y7 y8 y9 y10 y11 y12 y13 y14).heap[N]? = some (.cells #[y0, y1, y2, y3, y4, y5, y6, y7, y8, y9, y10, y11, y12, y13, y14] t (0, 0)) := by
  unfold put15
  have hh := heap_set (heap_set (heap_set (heap_set (heap_set (heap_set (heap_set (heap_set (heap_set (heap_set (heap_set (heap_set (heap_set (heap_set (heap_set h 0 y0) 1 y1) 2 y2) 3 y3) 4 y4) 5 y5) 6 y6) 7 y7) 8 y8) 9 y9) 10 y10) 11 y11) 12 y12) 13 y13) 14 y14
  simp only [List.setIfInBounds_toArray, List.set_cons_zero, List.set_cons_succ] at hh
  exact hh
theorem put15_below {B : Nat} (w : World) {N : Nat} (hN : B ≤ N) (y0 y1 y2 y3 y4 y5 y6 y7 y8 y9 y10 y11 y12 y13 y14 : Value) : Below B w (put15 w N y0 y1 y2 y3 y4 y5 y6 y7 y8 y9 y10 y11 y12 y13 y14) :=
  (((((((((((((((Below.refl B w).setCell (p := ⟨N, 0, none⟩) hN y0).setCell (p := ⟨N, 1, none⟩) hN y1).setCell (p := ⟨N, 2, none⟩) hN y2).setCell (p := ⟨N, 3, none⟩) hN y3).setCell (p := ⟨N, 4, none⟩) hN y4).setCell (p := ⟨N, 5, none⟩) hN y5).setCell (p := ⟨N, 6, none⟩) hN y6).setCell (p := ⟨N, 7, none⟩) hN y7).setCell (p := ⟨N, 8, none⟩) hN y8).setCell (p := ⟨N, 9, none⟩) hN y9).setCell (p := ⟨N, 10, none⟩) hN y10).setCell (p := ⟨N, 11, none⟩) hN y11).setCell (p := ⟨N, 12, none⟩) hN y12).setCell (p := ⟨N, 13, none⟩) hN y13).setCell (p := ⟨N, 14, none⟩) hN y14
theorem rq_zero (w : World) : (zeroValue 113).run Try.prog w = .ok (.agg #[.int .u64 0, .int .i64 0, .int .i64 0, .int .u64 0, .int .i64 0, .int .i64 0, .int .i64 0, .int .u64 0, .int .i64 0, .int .i64 0, .int .i64 0, .int .i64 0, .slice none 0 0, .int .u64 0, .int .i64 0]) w := Try.zeroValue113 w
theorem rq_und : Try.prog.underlying 80 = some (.map 23 113) := Try.underlying80
theorem neq_qmap (m : Option Nat) (w : World) : (binOp .neq 80 (.map m) (.map none)).run Try.prog w = .ok (.bool (!m.isNone)) w := run_neq_map_nil w _ _ _ m rq_und
theorem rq_field0 (q : Int) (cd tm id cn st lv ge fr lf du tl : Int) (a : Option Addr) (n ca : Nat) (nt de : Int) (w : World) : (Instr.field 113 (.agg #[.int .u64 q, .int .i64 cd, .int .i64 tm, .int .u64 id, .int .i64 cn, .int .i64 st, .int .i64 lv, .int .u64 ge, .int .i64 fr, .int .i64 lf, .int .i64 du, .int .i64 tl, .slice a n ca, .int .u64 nt, .int .i64 de]) 0).run Try.prog w = .ok (.int .u64 q) w := by kernel_rfl
/-- A table: its block, its map, what the map bears. -/
def Tab (w : World) (T mb c : Nat) (M : Lit → Option Value) : Prop := w.heap[T]? = some (.cells #[.map (some mb)] 82 (0, 0)) ∧ VM 23 w mb c M
theorem Tab.kept {w w' : World} {T mb c : Nat} {M : Lit → Option Value} (h : Tab w T mb c M) (hb : Below w.heap.size w w') : Tab w' T mb c M := ⟨ex_below h.1 hb, h.2.kept hb⟩
theorem Tab.ne {w : World} {T mb c : Nat} {M : Lit → Option Value} (h : Tab w T mb c M) : T ≠ mb := by
  intro e
  obtain ⟨es, cl, h2⟩ := h.2.isMap
  rw [← e, h.1] at h2
  cases h2
set_option maxRecDepth 100000 in
set_option maxHeartbeats 8000000 in
theorem created_yes (T mb c : Nat) (M : Lit → Option Value) (w : World) (h : Tab w T mb c M) : Calls Try.prog 75 #[.pointer (some ⟨T, 0, none⟩)] w fun e w' => e = .returned (.bool true) ∧ w = w' := by
  have c0 := one_at h.1
  have hn := neq_qmap (some mb) w
  clear h
  go_enter Try.func75, Try.ntmps75
  go_wp2_with fail
  go_ret
  exact ⟨rfl, rfl⟩
set_option maxRecDepth 100000 in
set_option maxHeartbeats 8000000 in
theorem last_any (T mb c : Nat) (M : Lit → Option Value) (cl q : Int) (cd tm id cn st lv ge fr lf du tl : Int) (a : Option Addr) (n ca : Nat) (nt de : Int) (w : World) (h : Tab w T mb c M) (hcl : 0 ≤ cl ∧ cl < 18446744073709551616) (hv : (M (.int .u64 cl)).getD (.agg #[.int .u64 0, .int .i64 0, .int .i64 0, .int .u64 0, .int .i64 0, .int .i64 0, .int .i64 0, .int .u64 0, .int .i64 0, .int .i64 0, .int .i64 0, .int .i64 0, .slice none 0 0, .int .u64 0, .int .i64 0]) = .agg #[.int .u64 q, .int .i64 cd, .int .i64 tm, .int .u64 id, .int .i64 cn, .int .i64 st, .int .i64 lv, .int .u64 ge, .int .i64 fr, .int .i64 lf, .int .i64 du, .int .i64 tl, .slice a n ca, .int .u64 nt, .int .i64 de]) :
    Calls Try.prog 72 #[.pointer (some ⟨T, 0, none⟩), .int .u64 cl] w fun e w' => e = .returned (.agg #[.int .u64 q, .int .i64 cd, .int .i64 tm, .int .u64 id, .int .i64 cn, .int .i64 st, .int .i64 lv, .int .u64 ge, .int .i64 fr, .int .i64 lf, .int .i64 du, .int .i64 tl, .slice a n ca, .int .u64 nt, .int .i64 de]) ∧ Below w.heap.size w w' := by
  obtain ⟨B1, s0, -⟩ := box1 w #[.int .u64 0, .int .i64 0, .int .i64 0, .int .u64 0, .int .i64 0, .int .i64 0, .int .i64 0, .int .u64 0, .int .i64 0, .int .i64 0, .int .i64 0, .int .i64 0, .slice none 0 0, .int .u64 0, .int .i64 0] 113
  have h1 := h.kept B1
  have HC := Lib.hid (created_yes T mb c M _ h1)
  have hl := h1.2.look keyedU rq_und (rq_zero _) (keyU hcl)
  rw [hv] at hl
  have c0 := one_at h1.1
  obtain ⟨q0, q1, q2, q3, q4, q5, q6, q7, q8, q9, q10, q11, q12, q13, q14⟩ := rq_at s0
  have qf := rq_fr s0
  have HB := Lib.hid B1
  have HS := Lib.hid s0
  clear h h1 B1 s0 hv
  go_enter Try.func72, Try.ntmps72
  go_wp2_with fail
  generalize w.alloc (.cells #[.int .u64 0, .int .i64 0, .int .i64 0, .int .u64 0, .int .i64 0, .int .i64 0, .int .i64 0, .int .u64 0, .int .i64 0, .int .i64 0, .int .i64 0, .int .i64 0, .slice none 0 0, .int .u64 0, .int .i64 0] 113) = W0 at HC hl c0 q0 q1 q2 q3 q4 q5 q6 q7 q8 q9 q10 q11 q12 q13 q14 qf HB HS ⊢
  refine HC.out.mono ?_
  rintro e w1 ⟨rfl, rfl⟩
  clear HC
  go_wp2_with fail
  clear q0 q1 q2 q3 q4 q5 q6 q7 q8 q9 q10 q11 q12 q13 q14 qf hl c0
  have hp := put15_at HS.out (.int .u64 q) (.int .i64 cd) (.int .i64 tm) (.int .u64 id) (.int .i64 cn) (.int .i64 st) (.int .i64 lv) (.int .u64 ge) (.int .i64 fr) (.int .i64 lf) (.int .i64 du) (.int .i64 tl) (.slice a n ca) (.int .u64 nt) (.int .i64 de)
  have hq := HB.out.trans (put15_below (B := w.heap.size) W0 (N := w.heap.size) (Nat.le_refl _) (.int .u64 q) (.int .i64 cd) (.int .i64 tm) (.int .u64 id) (.int .i64 cn) (.int .i64 st) (.int .i64 lv) (.int .u64 ge) (.int .i64 fr) (.int .i64 lf) (.int .i64 du) (.int .i64 tl) (.slice a n ca) (.int .u64 nt) (.int .i64 de))
  unfold put15 at hp hq
  obtain ⟨p0, p1, p2, p3, p4, p5, p6, p7, p8, p9, p10, p11, p12, p13, p14⟩ := rq_at hp
  exact bodyPost_ret (v := .agg #[.int .u64 q, .int .i64 cd, .int .i64 tm, .int .u64 id, .int .i64 cn, .int .i64 st, .int .i64 lv, .int .u64 ge, .int .i64 fr, .int .i64 lf, .int .i64 du, .int .i64 tl, .slice a n ca, .int .u64 nt, .int .i64 de]) (by simp [results, Try.results72, go_sem, p0, p1, p2, p3, p4, p5, p6, p7, p8, p9, p10, p11, p12, p13, p14]) rfl ⟨rfl, hq⟩
set_option maxRecDepth 100000 in
set_option maxHeartbeats 8000000 in
theorem lastq_any (T mb c : Nat) (M : Lit → Option Value) (cl q : Int) (cd tm id cn st lv ge fr lf du tl : Int) (a : Option Addr) (n ca : Nat) (nt de : Int) (w : World) (h : Tab w T mb c M) (hcl : 0 ≤ cl ∧ cl < 18446744073709551616) (hv : (M (.int .u64 cl)).getD (.agg #[.int .u64 0, .int .i64 0, .int .i64 0, .int .u64 0, .int .i64 0, .int .i64 0, .int .i64 0, .int .u64 0, .int .i64 0, .int .i64 0, .int .i64 0, .int .i64 0, .slice none 0 0, .int .u64 0, .int .i64 0]) = .agg #[.int .u64 q, .int .i64 cd, .int .i64 tm, .int .u64 id, .int .i64 cn, .int .i64 st, .int .i64 lv, .int .u64 ge, .int .i64 fr, .int .i64 lf, .int .i64 du, .int .i64 tl, .slice a n ca, .int .u64 nt, .int .i64 de]) :
    Calls Try.prog 31 #[.pointer (some ⟨T, 0, none⟩), .int .u64 cl] w fun e w' => e = .returned (.int .u64 q) ∧ Below w.heap.size w w' := by
  have HC := Lib.hid (last_any T mb c M cl q cd tm id cn st lv ge fr lf du tl a n ca nt de w h hcl hv)
  clear h hv
  go_enter Try.func31, Try.ntmps31
  go_wp2_with fail
  refine HC.out.mono ?_
  rintro e w1 ⟨rfl, hb⟩
  have HB := Lib.hid hb
  have hf := rq_field0 q cd tm id cn st lv ge fr lf du tl a n ca nt de w1
  clear hb HC
  go_wp2_with fail
  go_ret
  exact ⟨rfl, HB.out⟩
set_option maxRecDepth 100000 in
set_option maxHeartbeats 8000000 in
theorem empty_any (w : World) : Calls Try.prog 29 #[] w fun e w' => ∃ T mb, e = .returned (.pointer (some ⟨T, 0, none⟩)) ∧ w.heap.size ≤ T ∧ w.heap.size ≤ mb ∧ Tab w' T mb 0 (fun _ => none) ∧ Below w.heap.size w w' := by
  have hmm := @run_makeMap Try.prog
  obtain ⟨B2, s2, -⟩ := box1 (w.alloc (.map #[] 0)) #[.map (some w.heap.size)] 82
  have hv := (VM.made 23 w).kept B2
  have B1 : Below w.heap.size w (w.alloc (.map #[] 0)) := (Below.refl _ _).alloc (Nat.le_refl _) _
  have HB := Lib.hid (B1.trans (B2.mono B1.size))
  have HV := Lib.hid (And.intro s2 hv)
  clear B1 B2 s2 hv
  go_enter Try.func29, Try.ntmps29
  go_wp2_with fail
  go_ret
  refine ⟨_, _, rfl, by simp, Nat.le_refl _, ⟨?_, HV.out.2⟩, HB.out⟩
  have h := HV.out.1
  simpa using h
end Go.Proofs.Ytnhaakdjijjinaa

import Derived.Test.YtnhaakdjijjinaaSnA
import Derived.Test.YtnhaakdjijjinaaRyE
import Derived.Test.YtnhaakdjijjinaaRyF
import Derived.Deep.QuietTactic
namespace Go.Proofs.Ytnhaakdjijjinaa
open Go.RowKit
/- Session: a table's parts: whether it was made, the last request of a client. -/
open Go.RowKit Go.Maps
theorem rq_at {w : World} {N : Nat} { x0 x1 x2 x3 x4 x5 x6 x7 x8 x9 x10 x11 x12 x13 x14 : Value} {t : TypeId} (h : w.heap[N]? = some (.cells #[x0, x1, x2, x3, x4, x5, x6, x7, x8, x9, x10, x11, x12, x13, x14] t (0, 0))) : (w.cell? ⟨N, 0, none⟩ = some x0 ∧ w.cell? ⟨N, 1, none⟩ = some x1 ∧ w.cell? ⟨N, 2, none⟩ = some x2 ∧ w.cell? ⟨N, 3, none⟩ = some x3 ∧ w.cell? ⟨N, 4, none⟩ = some x4 ∧ w.cell? ⟨N, 5, none⟩ = some x5 ∧ w.cell? ⟨N, 6, none⟩ = some x6 ∧ w.cell? ⟨N, 7, none⟩ = some x7 ∧ w.cell? ⟨N, 8, none⟩ = some x8 ∧ w.cell? ⟨N, 9, none⟩ = some x9 ∧ w.cell? ⟨N, 10, none⟩ = some x10 ∧ w.cell? ⟨N, 11, none⟩ = some x11 ∧ w.cell? ⟨N, 12, none⟩ = some x12 ∧ w.cell? ⟨N, 13, none⟩ = some x13 ∧ w.cell? ⟨N, 14, none⟩ = some x14) := by
  simp [World.cell?, h]
theorem rq_fr {w : World} {N : Nat} { x0 x1 x2 x3 x4 x5 x6 x7 x8 x9 x10 x11 x12 x13 x14 : Value} {t : TypeId} (h : w.heap[N]? = some (.cells #[x0, x1, x2, x3, x4, x5, x6, x7, x8, x9, x10, x11, x12, x13, x14] t (0, 0))) : ∀ o, w.frozen? ⟨N, o, none⟩ = false := by
  simp [World.frozen?, h]
def put15 (w : World) (N : Nat) (y0 y1 y2 y3 y4 y5 y6 y7 y8 y9 y10 y11 y12 y13 y14 : Value) : World := ((((((((((((((w.setCell ⟨N, 0, none⟩ y0).setCell ⟨N, 1, none⟩ y1).setCell ⟨N, 2, none⟩ y2).setCell ⟨N, 3, none⟩ y3).setCell ⟨N, 4, none⟩ y4).setCell ⟨N, 5, none⟩ y5).setCell ⟨N, 6, none⟩ y6).setCell ⟨N, 7, none⟩ y7).setCell ⟨N, 8, none⟩ y8).setCell ⟨N, 9, none⟩ y9).setCell ⟨N, 10, none⟩ y10).setCell ⟨N, 11, none⟩ y11).setCell ⟨N, 12, none⟩ y12).setCell ⟨N, 13, none⟩ y13).setCell ⟨N, 14, none⟩ y14
theorem put15_at {w : World} {N : Nat} { x0 x1 x2 x3 x4 x5 x6 x7 x8 x9 x10 x11 x12 x13 x14 : Value} {t : TypeId} (h : w.heap[N]? = some (.cells #[x0, x1, x2, x3, x4, x5, x6, x7, x8, x9, x10, x11, x12, x13, x14] t (0, 0))) (y0 y1 y2 y3 y4 y5 y6 y7 y8 y9 y10 y11 y12 y13 y14 : Value) :
    (put15 w N y0 y1 y2 y3 y4 y5 y6 y7 y8 y9 y10 y11 y12 y13 y14).heap[N]? = some (.cells #[y0, y1, y2, y3, y4, y5, y6, y7, y8, y9, y10, y11, y12, y13, y14] t (0, 0)) := by
  unfold put15
  have hh := heap_set (heap_set (heap_set (heap_set (heap_set (heap_set (heap_set (heap_set (heap_set (heap_set (heap_set (heap_set (heap_set (heap_set (heap_set h 0 y0) 1 y1) 2 y2) 3 y3) 4 y4) 5 y5) 6 y6) 7 y7) 8 y8) 9 y9) 10 y10) 11 y11) 12 y12) 13 y13) 14 y14
  simp only [List.setIfInBounds_toArray, List.set_cons_zero, List.set_cons_succ] at hh
  exact hh
theorem put15_below {B : Nat} (w : World) {N : Nat} (hN : B ≤ N) (y0 y1 y2 y3 y4 y5 y6 y7 y8 y9 y10 y11 y12 y13 y14 : Value) : Below B w (put15 w N y0 y1 y2 y3 y4 y5 y6 y7 y8 y9 y10 y11 y12 y13 y14) :=
  (((((((((((((((Below.refl B w).setCell (p := ⟨N, 0, none⟩) hN y0).setCell (p := ⟨N, 1, none⟩) hN y1).setCell (p := ⟨N, 2, none⟩) hN y2).setCell (p := ⟨N, 3, none⟩) hN y3).setCell (p := ⟨N, 4, none⟩) hN y4).setCell (p := ⟨N, 5, none⟩) hN y5).setCell (p := ⟨N, 6, none⟩) hN y6).setCell (p := ⟨N, 7, none⟩) hN y7).setCell (p := ⟨N, 8, none⟩) hN y8).setCell (p := ⟨N, 9, none⟩) hN y9).setCell (p := ⟨N, 10, none⟩) hN y10).setCell (p := ⟨N, 11, none⟩) hN y11).setCell (p := ⟨N, 12, none⟩) hN y12).setCell (p := ⟨N, 13, none⟩) hN y13).setCell (p := ⟨N, 14, none⟩) hN y14
theorem rq_zero (w : World) : (zeroValue 113).run Try.prog w = .ok (.agg #[.int .u64 0, .int .i64 0, .int .i64 0, .int .u64 0, .int .i64 0, .int .i64 0, .int .i64 0, .int .u64 0, .int .i64 0, .int .i64 0, .int .i64 0, .int .i64 0, .slice none 0 0, .int .u64 0, .int .i64 0]) w := Try.zeroValue113 w
theorem rq_und : Try.prog.underlying 80 = some (.map 23 113) := Try.underlying80
theorem neq_qmap (m : Option Nat) (w : World) : (binOp .neq 80 (.map m) (.map none)).run Try.prog w = .ok (.bool (!m.isNone)) w := run_neq_map_nil w _ _ _ m rq_und
theorem rq_field0 (q : Int) (cd tm id cn st lv ge fr lf du tl : Int) (a : Option Addr) (n ca : Nat) (nt de : Int) (w : World) : (Instr.field 113 (.agg #[.int .u64 q, .int .i64 cd, .int .i64 tm, .int .u64 id, .int .i64 cn, .int .i64 st, .int .i64 lv, .int .u64 ge, .int .i64 fr, .int .i64 lf, .int .i64 du, .int .i64 tl, .slice a n ca, .int .u64 nt, .int .i64 de]) 0).run Try.prog w = .ok (.int .u64 q) w := by kernel_rfl
/-- A table: its block, its map, what the map bears. -/
def Tab (w : World) (T mb c : Nat) (M : Lit → Option Value) : Prop := w.heap[T]? = some (.cells #[.map (some mb)] 82 (0, 0)) ∧ VM 23 w mb c M
theorem Tab.kept {w w' : World} {T mb c : Nat} {M : Lit → Option Value} (h : Tab w T mb c M) (hb : Below w.heap.size w w') : Tab w' T mb c M := ⟨ex_below h.1 hb, h.2.kept hb⟩
theorem Tab.ne {w : World} {T mb c : Nat} {M : Lit → Option Value} (h : Tab w T mb c M) : T ≠ mb := by
  intro e
  obtain ⟨es, cl, h2⟩ := h.2.isMap
  rw [← e, h.1] at h2
  cases h2
set_option maxRecDepth 100000 in
set_option maxHeartbeats 8000000 in
theorem created_yes (T mb c : Nat) (M : Lit → Option Value) (w : World) (h : Tab w T mb c M) : Calls Try.prog 75 #[.pointer (some ⟨T, 0, none⟩)] w fun e w' => e = .returned (.bool true) ∧ w = w' := by
  have c0 := one_at h.1
  have hn := neq_qmap (some mb) w
  clear h
  go_enter Try.func75, Try.ntmps75
  go_wp2_with fail
  go_ret
  exact ⟨rfl, rfl⟩
set_option maxRecDepth 100000 in
set_option maxHeartbeats 8000000 in
theorem last_any (T mb c : Nat) (M : Lit → Option Value) (cl q : Int) (cd tm id cn st lv ge fr lf du tl : Int) (a : Option Addr) (n ca : Nat) (nt de : Int) (w : World) (h : Tab w T mb c M) (hcl : 0 ≤ cl ∧ cl < 18446744073709551616) (hv : (M (.int .u64 cl)).getD (.agg #[.int .u64 0, .int .i64 0, .int .i64 0, .int .u64 0, .int .i64 0, .int .i64 0, .int .i64 0, .int .u64 0, .int .i64 0, .int .i64 0, .int .i64 0, .int .i64 0, .slice none 0 0, .int .u64 0, .int .i64 0]) = .agg #[.int .u64 q, .int .i64 cd, .int .i64 tm, .int .u64 id, .int .i64 cn, .int .i64 st, .int .i64 lv, .int .u64 ge, .int .i64 fr, .int .i64 lf, .int .i64 du, .int .i64 tl, .slice a n ca, .int .u64 nt, .int .i64 de]) :
    Calls Try.prog 72 #[.pointer (some ⟨T, 0, none⟩), .int .u64 cl] w fun e w' => e = .returned (.agg #[.int .u64 q, .int .i64 cd, .int .i64 tm, .int .u64 id, .int .i64 cn, .int .i64 st, .int .i64 lv, .int .u64 ge, .int .i64 fr, .int .i64 lf, .int .i64 du, .int .i64 tl, .slice a n ca, .int .u64 nt, .int .i64 de]) ∧ Below w.heap.size w w' := by
  obtain ⟨B1, s0, -⟩ := box1 w #[.int .u64 0, .int .i64 0, .int .i64 0, .int .u64 0, .int .i64 0, .int .i64 0, .int .i64 0, .int .u64 0, .int .i64 0, .int .i64 0, .int .i64 0, .int .i64 0, .slice none 0 0, .int .u64 0, .int .i64 0] 113
  have h1 := h.kept B1
  have HC := Lib.hid (created_yes T mb c M _ h1)
  have hl := h1.2.look keyedU rq_und (rq_zero _) (keyU hcl)
  rw [hv] at hl
  have c0 := one_at h1.1
  obtain ⟨q0, q1, q2, q3, q4, q5, q6, q7, q8, q9, q10, q11, q12, q13, q14⟩ := rq_at s0
  have qf := rq_fr s0
  have HB := Lib.hid B1
  have HS := Lib.hid s0
  clear h h1 B1 s0 hv
  go_enter Try.func72, Try.ntmps72
  go_wp2_with fail
  generalize w.alloc (.cells #[.int .u64 0, .int .i64 0, .int .i64 0, .int .u64 0, .int .i64 0, .int .i64 0, .int .i64 0, .int .u64 0, .int .i64 0, .int .i64 0, .int .i64 0, .int .i64 0, .slice none 0 0, .int .u64 0, .int .i64 0] 113) = W0 at HC hl c0 q0 q1 q2 q3 q4 q5 q6 q7 q8 q9 q10 q11 q12 q13 q14 qf HB HS ⊢
  refine HC.out.mono ?_
  rintro e w1 ⟨rfl, rfl⟩
  clear HC
  go_wp2_with fail
  clear q0 q1 q2 q3 q4 q5 q6 q7 q8 q9 q10 q11 q12 q13 q14 qf hl c0
  have hp := put15_at HS.out (.int .u64 q) (.int .i64 cd) (.int .i64 tm) (.int .u64 id) (.int .i64 cn) (.int .i64 st) (.int .i64 lv) (.int .u64 ge) (.int .i64 fr) (.int .i64 lf) (.int .i64 du) (.int .i64 tl) (.slice a n ca) (.int .u64 nt) (.int .i64 de)
  have hq := HB.out.trans (put15_below (B := w.heap.size) W0 (N := w.heap.size) (Nat.le_refl _) (.int .u64 q) (.int .i64 cd) (.int .i64 tm) (.int .u64 id) (.int .i64 cn) (.int .i64 st) (.int .i64 lv) (.int .u64 ge) (.int .i64 fr) (.int .i64 lf) (.int .i64 du) (.int .i64 tl) (.slice a n ca) (.int .u64 nt) (.int .i64 de))
  unfold put15 at hp hq
  obtain ⟨p0, p1, p2, p3, p4, p5, p6, p7, p8, p9, p10, p11, p12, p13, p14⟩ := rq_at hp
  exact bodyPost_ret (v := .agg #[.int .u64 q, .int .i64 cd, .int .i64 tm, .int .u64 id, .int .i64 cn, .int .i64 st, .int .i64 lv, .int .u64 ge, .int .i64 fr, .int .i64 lf, .int .i64 du, .int .i64 tl, .slice a n ca, .int .u64 nt, .int .i64 de]) (by simp [results, Try.results72, go_sem, p0, p1, p2, p3, p4, p5, p6, p7, p8, p9, p10, p11, p12, p13, p14]) rfl ⟨rfl, hq⟩
set_option maxRecDepth 100000 in
set_option maxHeartbeats 8000000 in
theorem lastq_any (T mb c : Nat) (M : Lit → Option Value) (cl q : Int) (cd tm id cn st lv ge fr lf du tl : Int) (a : Option Addr) (n ca : Nat) (nt de : Int) (w : World) (h : Tab w T mb c M) (hcl : 0 ≤ cl ∧ cl < 18446744073709551616) (hv : (M (.int .u64 cl)).getD (.agg #[.int .u64 0, .int .i64 0, .int .i64 0, .int .u64 0, .int .i64 0, .int .i64 0, .int .i64 0, .int .u64 0, .int .i64 0, .int .i64 0, .int .i64 0, .int .i64 0, .slice none 0 0, .int .u64 0, .int .i64 0]) = .agg #[.int .u64 q, .int .i64 cd, .int .i64 tm, .int .u64 id, .int .i64 cn, .int .i64 st, .int .i64 lv, .int .u64 ge, .int .i64 fr, .int .i64 lf, .int .i64 du, .int .i64 tl, .slice a n ca, .int .u64 nt, .int .i64 de]) :
    Calls Try.prog 31 #[.pointer (some ⟨T, 0, none⟩), .int .u64 cl] w fun e w' => e = .returned (.int .u64 q) ∧ Below w.heap.size w w' := by
  have HC := Lib.hid (last_any T mb c M cl q cd tm id cn st lv ge fr lf du tl a n ca nt de w h hcl hv)
  clear h hv
  go_enter Try.func31, Try.ntmps31
  go_wp2_with fail
  refine HC.out.mono ?_
  rintro e w1 ⟨rfl, hb⟩
  have HB := Lib.hid hb
  have hf := rq_field0 q cd tm id cn st lv ge fr lf du tl a n ca nt de w1
  clear hb HC
  go_wp2_with fail
  go_ret
  exact ⟨rfl, HB.out⟩
set_option maxRecDepth 100000 in
set_option maxHeartbeats 8000000 in
theorem empty_any (w : World) : Calls Try.prog 29 #[] w fun e w' => ∃ T mb, e = .returned (.pointer (some ⟨T, 0, none⟩)) ∧ w.heap.size ≤ T ∧ w.heap.size ≤ mb ∧ Tab w' T mb 0 (fun _ => none) ∧ Below w.heap.size w w' := by
  have hmm := @run_makeMap Try.prog
  obtain ⟨B2, s2, -⟩ := box1 (w.alloc (.map #[] 0)) #[.map (some w.heap.size)] 82
  have hv := (VM.made 23 w).kept B2
  have B1 : Below w.heap.size w (w.alloc (.map #[] 0)) := (Below.refl _ _).alloc (Nat.le_refl _) _
  have HB := Lib.hid (B1.trans (B2.mono B1.size))
  have HV := Lib.hid (And.intro s2 hv)
  clear B1 B2 s2 hv
  go_enter Try.func29, Try.ntmps29
  go_wp2_with fail
  go_ret
  refine ⟨_, _, rfl, by simp, Nat.le_refl _, ⟨?_, HV.out.2⟩, HB.out⟩
  have h := HV.out.1
  simpa using h
/- Session: what a request is (Look). -/
open Go.RowKit Go.Maps
set_option maxRecDepth 100000 in
set_option maxHeartbeats 8000000 in
theorem look_new (T mb c : Nat) (M : Lit → Option Value) (cl q rq : Int) (cd tm id cn st lv ge fr lf du tl : Int) (a : Option Addr) (n ca : Nat) (nt de : Int) (w : World) (h : Tab w T mb c M) (hcl : 0 ≤ cl ∧ cl < 18446744073709551616) (hv : (M (.int .u64 cl)).getD (.agg #[.int .u64 0, .int .i64 0, .int .i64 0, .int .u64 0, .int .i64 0, .int .i64 0, .int .i64 0, .int .u64 0, .int .i64 0, .int .i64 0, .int .i64 0, .int .i64 0, .slice none 0 0, .int .u64 0, .int .i64 0]) = .agg #[.int .u64 q, .int .i64 cd, .int .i64 tm, .int .u64 id, .int .i64 cn, .int .i64 st, .int .i64 lv, .int .u64 ge, .int .i64 fr, .int .i64 lf, .int .i64 du, .int .i64 tl, .slice a n ca, .int .u64 nt, .int .i64 de]) (hq : q < rq) :
    Calls Try.prog 35 #[.pointer (some ⟨T, 0, none⟩), .int .u64 cl, .int .u64 rq] w fun e w' => e = .returned (.tuple #[.int .i64 1, .agg #[.int .i64 0, .int .i64 0, .int .u64 0, .int .i64 0, .int .i64 0, .int .i64 0, .int .u64 0, .int .i64 0, .int .i64 0, .int .i64 0, .int .i64 0, .slice none 0 0, .int .u64 0, .int .i64 0]]) ∧ Below w.heap.size w w' := by
  have d1 : decide (q < rq) = true := decide_eq_true hq
  obtain ⟨B1, s0, sz⟩ := box1 w #[.int .i64 0, .int .i64 0, .int .u64 0, .int .i64 0, .int .i64 0, .int .i64 0, .int .u64 0, .int .i64 0, .int .i64 0, .int .i64 0, .int .i64 0, .slice none 0 0, .int .u64 0, .int .i64 0] 28
  have h1 := h.kept B1
  have HL := Lib.hid (last_any T mb c M cl q cd tm id cn st lv ge fr lf du tl a n ca nt de _ h1 hcl hv)
  have HT := Lib.hid h1
  have HB := Lib.hid B1
  have HS := Lib.hid s0
  clear h h1 B1 s0 sz hv
  go_enter Try.func35, Try.ntmps35
  go_wp2_with fail
  generalize w.alloc (.cells #[.int .i64 0, .int .i64 0, .int .u64 0, .int .i64 0, .int .i64 0, .int .i64 0, .int .u64 0, .int .i64 0, .int .i64 0, .int .i64 0, .int .i64 0, .slice none 0 0, .int .u64 0, .int .i64 0] 28) = W0 at HL HT HB HS ⊢
  refine HL.out.mono ?_
  rintro e w1 ⟨rfl, hb⟩
  obtain ⟨B2, s2, z2⟩ := box1 w1 #[.int .u64 q, .int .i64 cd, .int .i64 tm, .int .u64 id, .int .i64 cn, .int .i64 st, .int .i64 lv, .int .u64 ge, .int .i64 fr, .int .i64 lf, .int .i64 du, .int .i64 tl, .slice a n ca, .int .u64 nt, .int .i64 de] 113
  obtain ⟨B3, s3, z3⟩ := box1 w1 #[.int .u64 0, .int .i64 0, .int .i64 0, .int .u64 0, .int .i64 0, .int .i64 0, .int .i64 0, .int .u64 0, .int .i64 0, .int .i64 0, .int .i64 0, .int .i64 0, .slice none 0 0, .int .u64 0, .int .i64 0] 113
  have HT1 := Lib.hid (HT.out.kept (hb.trans (B2.mono hb.size)))
  have HB1 := Lib.hid (HB.out.trans ((hb.trans (B2.mono hb.size)).mono HB.out.size))
  have HS1 := Lib.hid (ex_below HS.out (hb.trans (B2.mono hb.size)))
  have HQ := Lib.hid s2
  have HCR := Lib.hid (created_yes T mb c M _ HT1.out)
  obtain ⟨t0, t1, t2, t3, t4, t5, t6, t7, t8, t9, t10, t11, t12, t13, t14⟩ := rq_at s3
  have tf := rq_fr s3
  clear hb B2 s2 z2 B3 s3 z3 HT HB HS HL
  go_wp2_with fail
  clear t0 t1 t2 t3 t4 t5 t6 t7 t8 t9 t10 t11 t12 t13 t14 tf
  obtain ⟨G, hG⟩ : ∃ y, w1.heap.size = y := ⟨_, rfl⟩
  rw [hG] at HQ
  try rw [hG]
  clear hG
  generalize w1.alloc (.cells #[.int .u64 q, .int .i64 cd, .int .i64 tm, .int .u64 id, .int .i64 cn, .int .i64 st, .int .i64 lv, .int .u64 ge, .int .i64 fr, .int .i64 lf, .int .i64 du, .int .i64 tl, .slice a n ca, .int .u64 nt, .int .i64 de] 113) = W2 at HT1 HB1 HS1 HQ HCR ⊢
  refine HCR.out.mono ?_
  rintro e w3 ⟨rfl, rfl⟩
  obtain ⟨q0, q1, q2, q3, q4, q5, q6, q7, q8, q9, q10, q11, q12, q13, q14⟩ := rq_at HQ.out
  obtain ⟨r0, r1, r2, r3, r4, r5, r6, r7, r8, r9, r10, r11, r12, r13⟩ := rep_at HS1.out
  have rf := rep_fr HS1.out
  clear HCR
  go_wp2_with fail
  clear q0 q1 q2 q3 q4 q5 q6 q7 q8 q9 q10 q11 q12 q13 q14 r0 r1 r2 r3 r4 r5 r6 r7 r8 r9 r10 r11 r12 r13 rf
  have hp := put14_at HS1.out (.int .i64 0) (.int .i64 0) (.int .u64 0) (.int .i64 0) (.int .i64 0) (.int .i64 0) (.int .u64 0) (.int .i64 0) (.int .i64 0) (.int .i64 0) (.int .i64 0) (.slice none 0 0) (.int .u64 0) (.int .i64 0)
  have hq := HB1.out.trans (put14_below (B := w.heap.size) W2 (N := w.heap.size) (Nat.le_refl _) (.int .i64 0) (.int .i64 0) (.int .u64 0) (.int .i64 0) (.int .i64 0) (.int .i64 0) (.int .u64 0) (.int .i64 0) (.int .i64 0) (.int .i64 0) (.int .i64 0) (.slice none 0 0) (.int .u64 0) (.int .i64 0))
  unfold put14 at hp hq
  obtain ⟨p0, p1, p2, p3, p4, p5, p6, p7, p8, p9, p10, p11, p12, p13⟩ := rep_at hp
  exact bodyPost_ret (v := .tuple #[.int .i64 1, .agg #[.int .i64 0, .int .i64 0, .int .u64 0, .int .i64 0, .int .i64 0, .int .i64 0, .int .u64 0, .int .i64 0, .int .i64 0, .int .i64 0, .int .i64 0, .slice none 0 0, .int .u64 0, .int .i64 0]]) (by simp [results, Try.results35, go_sem, p0, p1, p2, p3, p4, p5, p6, p7, p8, p9, p10, p11, p12, p13]) rfl ⟨rfl, hq⟩
set_option maxRecDepth 100000 in
set_option maxHeartbeats 8000000 in
theorem look_zero (T mb c : Nat) (M : Lit → Option Value) (cl q rq : Int) (cd tm id cn st lv ge fr lf du tl : Int) (a : Option Addr) (n ca : Nat) (nt de : Int) (w : World) (h : Tab w T mb c M) (hcl : 0 ≤ cl ∧ cl < 18446744073709551616) (hv : (M (.int .u64 cl)).getD (.agg #[.int .u64 0, .int .i64 0, .int .i64 0, .int .u64 0, .int .i64 0, .int .i64 0, .int .i64 0, .int .u64 0, .int .i64 0, .int .i64 0, .int .i64 0, .int .i64 0, .slice none 0 0, .int .u64 0, .int .i64 0]) = .agg #[.int .u64 q, .int .i64 cd, .int .i64 tm, .int .u64 id, .int .i64 cn, .int .i64 st, .int .i64 lv, .int .u64 ge, .int .i64 fr, .int .i64 lf, .int .i64 du, .int .i64 tl, .slice a n ca, .int .u64 nt, .int .i64 de]) (hq : rq = q) (h0 : rq = 0) :
    Calls Try.prog 35 #[.pointer (some ⟨T, 0, none⟩), .int .u64 cl, .int .u64 rq] w fun e w' => e = .returned (.tuple #[.int .i64 3, .agg #[.int .i64 0, .int .i64 0, .int .u64 0, .int .i64 0, .int .i64 0, .int .i64 0, .int .u64 0, .int .i64 0, .int .i64 0, .int .i64 0, .int .i64 0, .slice none 0 0, .int .u64 0, .int .i64 0]]) ∧ Below w.heap.size w w' := by
  have d1 : decide (q < rq) = false := decide_eq_false (by omega)
  have d2 : decide (rq = q) = true := decide_eq_true hq
  have d3 : decide (0 < rq) = false := decide_eq_false (by omega)
  obtain ⟨B1, s0, sz⟩ := box1 w #[.int .i64 0, .int .i64 0, .int .u64 0, .int .i64 0, .int .i64 0, .int .i64 0, .int .u64 0, .int .i64 0, .int .i64 0, .int .i64 0, .int .i64 0, .slice none 0 0, .int .u64 0, .int .i64 0] 28
  have h1 := h.kept B1
  have HL := Lib.hid (last_any T mb c M cl q cd tm id cn st lv ge fr lf du tl a n ca nt de _ h1 hcl hv)
  have HT := Lib.hid h1
  have HB := Lib.hid B1
  have HS := Lib.hid s0
  clear h h1 B1 s0 sz hv
  go_enter Try.func35, Try.ntmps35
  go_wp2_with fail
  generalize w.alloc (.cells #[.int .i64 0, .int .i64 0, .int .u64 0, .int .i64 0, .int .i64 0, .int .i64 0, .int .u64 0, .int .i64 0, .int .i64 0, .int .i64 0, .int .i64 0, .slice none 0 0, .int .u64 0, .int .i64 0] 28) = W0 at HL HT HB HS ⊢
  refine HL.out.mono ?_
  rintro e w1 ⟨rfl, hb⟩
  obtain ⟨B2, s2, z2⟩ := box1 w1 #[.int .u64 q, .int .i64 cd, .int .i64 tm, .int .u64 id, .int .i64 cn, .int .i64 st, .int .i64 lv, .int .u64 ge, .int .i64 fr, .int .i64 lf, .int .i64 du, .int .i64 tl, .slice a n ca, .int .u64 nt, .int .i64 de] 113
  obtain ⟨B3, s3, z3⟩ := box1 w1 #[.int .u64 0, .int .i64 0, .int .i64 0, .int .u64 0, .int .i64 0, .int .i64 0, .int .i64 0, .int .u64 0, .int .i64 0, .int .i64 0, .int .i64 0, .int .i64 0, .slice none 0 0, .int .u64 0, .int .i64 0] 113
  have HT1 := Lib.hid (HT.out.kept (hb.trans (B2.mono hb.size)))
  have HB1 := Lib.hid (HB.out.trans ((hb.trans (B2.mono hb.size)).mono HB.out.size))
  have HS1 := Lib.hid (ex_below HS.out (hb.trans (B2.mono hb.size)))
  have HQ := Lib.hid s2
  have HCR := Lib.hid (created_yes T mb c M _ HT1.out)
  obtain ⟨t0, t1, t2, t3, t4, t5, t6, t7, t8, t9, t10, t11, t12, t13, t14⟩ := rq_at s3
  have tf := rq_fr s3
  clear hb B2 s2 z2 B3 s3 z3 HT HB HS HL
  go_wp2_with fail
  clear t0 t1 t2 t3 t4 t5 t6 t7 t8 t9 t10 t11 t12 t13 t14 tf
  obtain ⟨G, hG⟩ : ∃ y, w1.heap.size = y := ⟨_, rfl⟩
  rw [hG] at HQ
  try rw [hG]
  clear hG
  generalize w1.alloc (.cells #[.int .u64 q, .int .i64 cd, .int .i64 tm, .int .u64 id, .int .i64 cn, .int .i64 st, .int .i64 lv, .int .u64 ge, .int .i64 fr, .int .i64 lf, .int .i64 du, .int .i64 tl, .slice a n ca, .int .u64 nt, .int .i64 de] 113) = W2 at HT1 HB1 HS1 HQ HCR ⊢
  refine HCR.out.mono ?_
  rintro e w3 ⟨rfl, rfl⟩
  obtain ⟨q0, q1, q2, q3, q4, q5, q6, q7, q8, q9, q10, q11, q12, q13, q14⟩ := rq_at HQ.out
  obtain ⟨r0, r1, r2, r3, r4, r5, r6, r7, r8, r9, r10, r11, r12, r13⟩ := rep_at HS1.out
  have rf := rep_fr HS1.out
  clear HCR
  go_wp2_with fail
  clear q0 q1 q2 q3 q4 q5 q6 q7 q8 q9 q10 q11 q12 q13 q14 r0 r1 r2 r3 r4 r5 r6 r7 r8 r9 r10 r11 r12 r13 rf
  have hp := put14_at HS1.out (.int .i64 0) (.int .i64 0) (.int .u64 0) (.int .i64 0) (.int .i64 0) (.int .i64 0) (.int .u64 0) (.int .i64 0) (.int .i64 0) (.int .i64 0) (.int .i64 0) (.slice none 0 0) (.int .u64 0) (.int .i64 0)
  have hq := HB1.out.trans (put14_below (B := w.heap.size) W2 (N := w.heap.size) (Nat.le_refl _) (.int .i64 0) (.int .i64 0) (.int .u64 0) (.int .i64 0) (.int .i64 0) (.int .i64 0) (.int .u64 0) (.int .i64 0) (.int .i64 0) (.int .i64 0) (.int .i64 0) (.slice none 0 0) (.int .u64 0) (.int .i64 0))
  unfold put14 at hp hq
  obtain ⟨p0, p1, p2, p3, p4, p5, p6, p7, p8, p9, p10, p11, p12, p13⟩ := rep_at hp
  exact bodyPost_ret (v := .tuple #[.int .i64 3, .agg #[.int .i64 0, .int .i64 0, .int .u64 0, .int .i64 0, .int .i64 0, .int .i64 0, .int .u64 0, .int .i64 0, .int .i64 0, .int .i64 0, .int .i64 0, .slice none 0 0, .int .u64 0, .int .i64 0]]) (by simp [results, Try.results35, go_sem, p0, p1, p2, p3, p4, p5, p6, p7, p8, p9, p10, p11, p12, p13]) rfl ⟨rfl, hq⟩
set_option maxRecDepth 100000 in
set_option maxHeartbeats 8000000 in
theorem look_old (T mb c : Nat) (M : Lit → Option Value) (cl q rq : Int) (cd tm id cn st lv ge fr lf du tl : Int) (a : Option Addr) (n ca : Nat) (nt de : Int) (w : World) (h : Tab w T mb c M) (hcl : 0 ≤ cl ∧ cl < 18446744073709551616) (hv : (M (.int .u64 cl)).getD (.agg #[.int .u64 0, .int .i64 0, .int .i64 0, .int .u64 0, .int .i64 0, .int .i64 0, .int .i64 0, .int .u64 0, .int .i64 0, .int .i64 0, .int .i64 0, .int .i64 0, .slice none 0 0, .int .u64 0, .int .i64 0]) = .agg #[.int .u64 q, .int .i64 cd, .int .i64 tm, .int .u64 id, .int .i64 cn, .int .i64 st, .int .i64 lv, .int .u64 ge, .int .i64 fr, .int .i64 lf, .int .i64 du, .int .i64 tl, .slice a n ca, .int .u64 nt, .int .i64 de]) (hq : rq < q) :
    Calls Try.prog 35 #[.pointer (some ⟨T, 0, none⟩), .int .u64 cl, .int .u64 rq] w fun e w' => e = .returned (.tuple #[.int .i64 3, .agg #[.int .i64 0, .int .i64 0, .int .u64 0, .int .i64 0, .int .i64 0, .int .i64 0, .int .u64 0, .int .i64 0, .int .i64 0, .int .i64 0, .int .i64 0, .slice none 0 0, .int .u64 0, .int .i64 0]]) ∧ Below w.heap.size w w' := by
  have d1 : decide (q < rq) = false := decide_eq_false (by omega)
  have d2 : decide (rq = q) = false := decide_eq_false (by omega)
  obtain ⟨B1, s0, sz⟩ := box1 w #[.int .i64 0, .int .i64 0, .int .u64 0, .int .i64 0, .int .i64 0, .int .i64 0, .int .u64 0, .int .i64 0, .int .i64 0, .int .i64 0, .int .i64 0, .slice none 0 0, .int .u64 0, .int .i64 0] 28
  have h1 := h.kept B1
  have HL := Lib.hid (last_any T mb c M cl q cd tm id cn st lv ge fr lf du tl a n ca nt de _ h1 hcl hv)
  have HT := Lib.hid h1
  have HB := Lib.hid B1
  have HS := Lib.hid s0
  clear h h1 B1 s0 sz hv
  go_enter Try.func35, Try.ntmps35
  go_wp2_with fail
  generalize w.alloc (.cells #[.int .i64 0, .int .i64 0, .int .u64 0, .int .i64 0, .int .i64 0, .int .i64 0, .int .u64 0, .int .i64 0, .int .i64 0, .int .i64 0, .int .i64 0, .slice none 0 0, .int .u64 0, .int .i64 0] 28) = W0 at HL HT HB HS ⊢
  refine HL.out.mono ?_
  rintro e w1 ⟨rfl, hb⟩
  obtain ⟨B2, s2, z2⟩ := box1 w1 #[.int .u64 q, .int .i64 cd, .int .i64 tm, .int .u64 id, .int .i64 cn, .int .i64 st, .int .i64 lv, .int .u64 ge, .int .i64 fr, .int .i64 lf, .int .i64 du, .int .i64 tl, .slice a n ca, .int .u64 nt, .int .i64 de] 113
  obtain ⟨B3, s3, z3⟩ := box1 w1 #[.int .u64 0, .int .i64 0, .int .i64 0, .int .u64 0, .int .i64 0, .int .i64 0, .int .i64 0, .int .u64 0, .int .i64 0, .int .i64 0, .int .i64 0, .int .i64 0, .slice none 0 0, .int .u64 0, .int .i64 0] 113
  have HT1 := Lib.hid (HT.out.kept (hb.trans (B2.mono hb.size)))
  have HB1 := Lib.hid (HB.out.trans ((hb.trans (B2.mono hb.size)).mono HB.out.size))
  have HS1 := Lib.hid (ex_below HS.out (hb.trans (B2.mono hb.size)))
  have HQ := Lib.hid s2
  have HCR := Lib.hid (created_yes T mb c M _ HT1.out)
  obtain ⟨t0, t1, t2, t3, t4, t5, t6, t7, t8, t9, t10, t11, t12, t13, t14⟩ := rq_at s3
  have tf := rq_fr s3
  clear hb B2 s2 z2 B3 s3 z3 HT HB HS HL
  go_wp2_with fail
  clear t0 t1 t2 t3 t4 t5 t6 t7 t8 t9 t10 t11 t12 t13 t14 tf
  obtain ⟨G, hG⟩ : ∃ y, w1.heap.size = y := ⟨_, rfl⟩
  rw [hG] at HQ
  try rw [hG]
  clear hG
  generalize w1.alloc (.cells #[.int .u64 q, .int .i64 cd, .int .i64 tm, .int .u64 id, .int .i64 cn, .int .i64 st, .int .i64 lv, .int .u64 ge, .int .i64 fr, .int .i64 lf, .int .i64 du, .int .i64 tl, .slice a n ca, .int .u64 nt, .int .i64 de] 113) = W2 at HT1 HB1 HS1 HQ HCR ⊢
  refine HCR.out.mono ?_
  rintro e w3 ⟨rfl, rfl⟩
  obtain ⟨q0, q1, q2, q3, q4, q5, q6, q7, q8, q9, q10, q11, q12, q13, q14⟩ := rq_at HQ.out
  obtain ⟨r0, r1, r2, r3, r4, r5, r6, r7, r8, r9, r10, r11, r12, r13⟩ := rep_at HS1.out
  have rf := rep_fr HS1.out
  clear HCR
  go_wp2_with fail
  clear q0 q1 q2 q3 q4 q5 q6 q7 q8 q9 q10 q11 q12 q13 q14 r0 r1 r2 r3 r4 r5 r6 r7 r8 r9 r10 r11 r12 r13 rf
  have hp := put14_at HS1.out (.int .i64 0) (.int .i64 0) (.int .u64 0) (.int .i64 0) (.int .i64 0) (.int .i64 0) (.int .u64 0) (.int .i64 0) (.int .i64 0) (.int .i64 0) (.int .i64 0) (.slice none 0 0) (.int .u64 0) (.int .i64 0)
  have hq := HB1.out.trans (put14_below (B := w.heap.size) W2 (N := w.heap.size) (Nat.le_refl _) (.int .i64 0) (.int .i64 0) (.int .u64 0) (.int .i64 0) (.int .i64 0) (.int .i64 0) (.int .u64 0) (.int .i64 0) (.int .i64 0) (.int .i64 0) (.int .i64 0) (.slice none 0 0) (.int .u64 0) (.int .i64 0))
  unfold put14 at hp hq
  obtain ⟨p0, p1, p2, p3, p4, p5, p6, p7, p8, p9, p10, p11, p12, p13⟩ := rep_at hp
  exact bodyPost_ret (v := .tuple #[.int .i64 3, .agg #[.int .i64 0, .int .i64 0, .int .u64 0, .int .i64 0, .int .i64 0, .int .i64 0, .int .u64 0, .int .i64 0, .int .i64 0, .int .i64 0, .int .i64 0, .slice none 0 0, .int .u64 0, .int .i64 0]]) (by simp [results, Try.results35, go_sem, p0, p1, p2, p3, p4, p5, p6, p7, p8, p9, p10, p11, p12, p13]) rfl ⟨rfl, hq⟩
set_option maxRecDepth 100000 in
set_option maxHeartbeats 8000000 in
theorem look_again (T mb c : Nat) (M : Lit → Option Value) (cl q rq : Int) (cd tm id cn st lv ge fr lf du tl : Int) (a : Option Addr) (n ca : Nat) (nt de : Int) (w : World) (h : Tab w T mb c M) (hcl : 0 ≤ cl ∧ cl < 18446744073709551616) (hv : (M (.int .u64 cl)).getD (.agg #[.int .u64 0, .int .i64 0, .int .i64 0, .int .u64 0, .int .i64 0, .int .i64 0, .int .i64 0, .int .u64 0, .int .i64 0, .int .i64 0, .int .i64 0, .int .i64 0, .slice none 0 0, .int .u64 0, .int .i64 0]) = .agg #[.int .u64 q, .int .i64 cd, .int .i64 tm, .int .u64 id, .int .i64 cn, .int .i64 st, .int .i64 lv, .int .u64 ge, .int .i64 fr, .int .i64 lf, .int .i64 du, .int .i64 tl, .slice a n ca, .int .u64 nt, .int .i64 de]) (xs : List Nat) (hU : Us w a n xs) (hn : n ≤ 100000) (hq : rq = q) (h0 : 0 < rq) :
    Calls Try.prog 35 #[.pointer (some ⟨T, 0, none⟩), .int .u64 cl, .int .u64 rq] w fun e w' => ∃ a' ca', e = .returned (.tuple #[.int .i64 2, repV cd tm id cn st lv ge fr lf du tl a' n ca' nt de]) ∧ OU w' w.heap.size (.slice a' n ca') xs ∧ Below w.heap.size w w' := by
  have d1 : decide (q < rq) = false := decide_eq_false (by omega)
  have d2 : decide (rq = q) = true := decide_eq_true hq
  have d3 : decide (0 < rq) = true := decide_eq_true h0
  have HU : Hid (∀ W, Below w.heap.size w W → Us W a n xs) := Lib.hid (fun W hb => hU.kept hb)
  have HN := Lib.hid hn
  have HLN := Lib.hid hU.1
  have HX : Hid (∀ y ∈ xs, y < 18446744073709551616) := Lib.hid hU.2.2.1
  clear hU hn
  obtain ⟨B1, s0, sz⟩ := box1 w #[.int .i64 0, .int .i64 0, .int .u64 0, .int .i64 0, .int .i64 0, .int .i64 0, .int .u64 0, .int .i64 0, .int .i64 0, .int .i64 0, .int .i64 0, .slice none 0 0, .int .u64 0, .int .i64 0] 28
  have h1 := h.kept B1
  have HL := Lib.hid (last_any T mb c M cl q cd tm id cn st lv ge fr lf du tl a n ca nt de _ h1 hcl hv)
  have HT := Lib.hid h1
  have HB := Lib.hid B1
  have HS := Lib.hid s0
  clear h h1 B1 s0 sz hv
  go_enter Try.func35, Try.ntmps35
  go_wp2_with fail
  generalize w.alloc (.cells #[.int .i64 0, .int .i64 0, .int .u64 0, .int .i64 0, .int .i64 0, .int .i64 0, .int .u64 0, .int .i64 0, .int .i64 0, .int .i64 0, .int .i64 0, .slice none 0 0, .int .u64 0, .int .i64 0] 28) = W0 at HL HT HB HS ⊢
  refine HL.out.mono ?_
  rintro e w1 ⟨rfl, hb⟩
  obtain ⟨B2, s2, z2⟩ := box1 w1 #[.int .u64 q, .int .i64 cd, .int .i64 tm, .int .u64 id, .int .i64 cn, .int .i64 st, .int .i64 lv, .int .u64 ge, .int .i64 fr, .int .i64 lf, .int .i64 du, .int .i64 tl, .slice a n ca, .int .u64 nt, .int .i64 de] 113
  obtain ⟨B3, s3, z3⟩ := box1 w1 #[.int .u64 0, .int .i64 0, .int .i64 0, .int .u64 0, .int .i64 0, .int .i64 0, .int .i64 0, .int .u64 0, .int .i64 0, .int .i64 0, .int .i64 0, .int .i64 0, .slice none 0 0, .int .u64 0, .int .i64 0] 113
  have HT1 := Lib.hid (HT.out.kept (hb.trans (B2.mono hb.size)))
  have HB1 := Lib.hid (HB.out.trans ((hb.trans (B2.mono hb.size)).mono HB.out.size))
  have HS1 := Lib.hid (ex_below HS.out (hb.trans (B2.mono hb.size)))
  have HQ := Lib.hid s2
  have HCR := Lib.hid (created_yes T mb c M _ HT1.out)
  obtain ⟨t0, t1, t2, t3, t4, t5, t6, t7, t8, t9, t10, t11, t12, t13, t14⟩ := rq_at s3
  have tf := rq_fr s3
  clear hb B2 s2 z2 B3 s3 z3 HT HB HS HL
  go_wp2_with fail
  clear t0 t1 t2 t3 t4 t5 t6 t7 t8 t9 t10 t11 t12 t13 t14 tf
  obtain ⟨G, hG⟩ : ∃ y, w1.heap.size = y := ⟨_, rfl⟩
  rw [hG] at HQ
  try rw [hG]
  clear hG
  generalize w1.alloc (.cells #[.int .u64 q, .int .i64 cd, .int .i64 tm, .int .u64 id, .int .i64 cn, .int .i64 st, .int .i64 lv, .int .u64 ge, .int .i64 fr, .int .i64 lf, .int .i64 du, .int .i64 tl, .slice a n ca, .int .u64 nt, .int .i64 de] 113) = W2 at HT1 HB1 HS1 HQ HCR ⊢
  refine HCR.out.mono ?_
  rintro e w3 ⟨rfl, rfl⟩
  obtain ⟨q0, q1, q2, q3, q4, q5, q6, q7, q8, q9, q10, q11, q12, q13, q14⟩ := rq_at HQ.out
  obtain ⟨r0, r1, r2, r3, r4, r5, r6, r7, r8, r9, r10, r11, r12, r13⟩ := rep_at HS1.out
  have rf := rep_fr HS1.out
  clear HCR
  go_wp2_with fail
  refine (copy_any cd tm id cn st lv ge fr lf du tl a n ca nt de xs W2 (HU.out _ HB1.out) HN.out).mono ?_
  rintro e w4 ⟨a', ca', rfl, ho, hb⟩
  rw [HLN.out] at ho ⊢
  have HO := Lib.hid ho
  have HB4 := Lib.hid (HB1.out.trans (hb.mono HB1.out.size))
  have HS4 := Lib.hid (ex_below HS1.out hb)
  have HLT : Hid (w.heap.size < W2.heap.size) := Lib.hid (ex_lt HS1.out)
  clear q0 q1 q2 q3 q4 q5 q6 q7 q8 q9 q10 q11 q12 q13 q14 r0 r1 r2 r3 r4 r5 r6 r7 r8 r9 r10 r11 r12 r13 rf hb ho HS1 HB1 HT1 HQ
  obtain ⟨r0, r1, r2, r3, r4, r5, r6, r7, r8, r9, r10, r11, r12, r13⟩ := rep_at HS4.out
  have rf := rep_fr HS4.out
  unfold repV
  go_wp2_with fail
  clear r0 r1 r2 r3 r4 r5 r6 r7 r8 r9 r10 r11 r12 r13 rf
  have hp := put14_at HS4.out (.int .i64 cd) (.int .i64 tm) (.int .u64 id) (.int .i64 cn) (.int .i64 st) (.int .i64 lv) (.int .u64 ge) (.int .i64 fr) (.int .i64 lf) (.int .i64 du) (.int .i64 tl) (.slice a' n ca') (.int .u64 nt) (.int .i64 de)
  have hq' := HB4.out.trans (put14_below (B := w.heap.size) w4 (N := w.heap.size) (Nat.le_refl _) (.int .i64 cd) (.int .i64 tm) (.int .u64 id) (.int .i64 cn) (.int .i64 st) (.int .i64 lv) (.int .u64 ge) (.int .i64 fr) (.int .i64 lf) (.int .i64 du) (.int .i64 tl) (.slice a' n ca') (.int .u64 nt) (.int .i64 de))
  have ho : OU (put14 w4 w.heap.size (.int .i64 cd) (.int .i64 tm) (.int .u64 id) (.int .i64 cn) (.int .i64 st) (.int .i64 lv) (.int .u64 ge) (.int .i64 fr) (.int .i64 lf) (.int .i64 du) (.int .i64 tl) (.slice a' n ca') (.int .u64 nt) (.int .i64 de)) W2.heap.size (.slice a' n ca') xs := by
    unfold put14
    have hlt := HLT.out
    exact ((((((((((((((HO.out.set (p := ⟨_, 0, none⟩) hlt _).set (p := ⟨_, 1, none⟩) hlt _).set (p := ⟨_, 2, none⟩) hlt _).set (p := ⟨_, 3, none⟩) hlt _).set (p := ⟨_, 4, none⟩) hlt _).set (p := ⟨_, 5, none⟩) hlt _).set (p := ⟨_, 6, none⟩) hlt _).set (p := ⟨_, 7, none⟩) hlt _).set (p := ⟨_, 8, none⟩) hlt _).set (p := ⟨_, 9, none⟩) hlt _).set (p := ⟨_, 10, none⟩) hlt _).set (p := ⟨_, 11, none⟩) hlt _).set (p := ⟨_, 12, none⟩) hlt _).set (p := ⟨_, 13, none⟩) hlt _)
  have hfin : ∃ a2 c2, Ending.returned (.tuple #[.int .i64 2, .agg #[.int .i64 cd, .int .i64 tm, .int .u64 id, .int .i64 cn, .int .i64 st, .int .i64 lv, .int .u64 ge, .int .i64 fr, .int .i64 lf, .int .i64 du, .int .i64 tl, .slice a' n ca', .int .u64 nt, .int .i64 de]]) = .returned (.tuple #[.int .i64 2, repV cd tm id cn st lv ge fr lf du tl a2 n c2 nt de]) ∧ OU (put14 w4 w.heap.size (.int .i64 cd) (.int .i64 tm) (.int .u64 id) (.int .i64 cn) (.int .i64 st) (.int .i64 lv) (.int .u64 ge) (.int .i64 fr) (.int .i64 lf) (.int .i64 du) (.int .i64 tl) (.slice a' n ca') (.int .u64 nt) (.int .i64 de)) w.heap.size (.slice a2 n c2) xs ∧ Below w.heap.size w (put14 w4 w.heap.size (.int .i64 cd) (.int .i64 tm) (.int .u64 id) (.int .i64 cn) (.int .i64 st) (.int .i64 lv) (.int .u64 ge) (.int .i64 fr) (.int .i64 lf) (.int .i64 du) (.int .i64 tl) (.slice a' n ca') (.int .u64 nt) (.int .i64 de)) := ⟨a', ca', rfl, ho.mono (Nat.le_of_lt HLT.out), hq'⟩
  unfold put14 at hp hfin
  obtain ⟨p0, p1, p2, p3, p4, p5, p6, p7, p8, p9, p10, p11, p12, p13⟩ := rep_at hp
  exact bodyPost_ret (v := .tuple #[.int .i64 2, .agg #[.int .i64 cd, .int .i64 tm, .int .u64 id, .int .i64 cn, .int .i64 st, .int .i64 lv, .int .u64 ge, .int .i64 fr, .int .i64 lf, .int .i64 du, .int .i64 tl, .slice a' n ca', .int .u64 nt, .int .i64 de]]) (by simp [results, Try.results35, go_sem, p0, p1, p2, p3, p4, p5, p6, p7, p8, p9, p10, p11, p12, p13]) rfl hfin
/- Session: a request is made the last one (Done). -/
open Go.RowKit Go.Maps
set_option maxRecDepth 100000 in
set_option maxHeartbeats 8000000 in
theorem done_lo (T mb c : Nat) (M : Lit → Option Value) (cl rq : Int) (cd tm id cn st lv ge fr lf du tl : Int) (a : Option Addr) (n ca : Nat) (nt de : Int) (w : World) (h : Tab w T mb c M) (hc : cl < 1) :
    Calls Try.prog 36 #[.pointer (some ⟨T, 0, none⟩), .int .u64 cl, .int .u64 rq, repV cd tm id cn st lv ge fr lf du tl a n ca nt de] w fun e w' => e = .returned (.int .i64 2) ∧ Below w.heap.size w w' := by
  have d1 : decide (cl < 1) = true := decide_eq_true hc
  obtain ⟨B1, s0, sz⟩ := box1 w #[.int .i64 cd, .int .i64 tm, .int .u64 id, .int .i64 cn, .int .i64 st, .int .i64 lv, .int .u64 ge, .int .i64 fr, .int .i64 lf, .int .i64 du, .int .i64 tl, .slice a n ca, .int .u64 nt, .int .i64 de] 28
  have h1 := h.kept B1
  have HT := Lib.hid h1
  have HB := Lib.hid B1
  have HS := Lib.hid s0
  have HCR := Lib.hid (created_yes T mb c M _ h1)
  clear h h1 B1 s0 sz
  unfold repV
  go_enter Try.func36, Try.ntmps36
  go_wp2_with fail
  generalize w.alloc (.cells #[.int .i64 cd, .int .i64 tm, .int .u64 id, .int .i64 cn, .int .i64 st, .int .i64 lv, .int .u64 ge, .int .i64 fr, .int .i64 lf, .int .i64 du, .int .i64 tl, .slice a n ca, .int .u64 nt, .int .i64 de] 28) = W0 at HT HB HS HCR ⊢
  refine HCR.out.mono ?_
  rintro e w1 ⟨rfl, rfl⟩
  clear HCR
  obtain ⟨q0, q1, q2, q3, q4, q5, q6, q7, q8, q9, q10, q11, q12, q13⟩ := rep_at HS.out
  go_wp2_with fail
  go_ret
  exact ⟨rfl, HB.out⟩
set_option maxRecDepth 100000 in
set_option maxHeartbeats 8000000 in
theorem done_hi (T mb c : Nat) (M : Lit → Option Value) (cl rq : Int) (cd tm id cn st lv ge fr lf du tl : Int) (a : Option Addr) (n ca : Nat) (nt de : Int) (w : World) (h : Tab w T mb c M) (hc : 8 < cl) :
    Calls Try.prog 36 #[.pointer (some ⟨T, 0, none⟩), .int .u64 cl, .int .u64 rq, repV cd tm id cn st lv ge fr lf du tl a n ca nt de] w fun e w' => e = .returned (.int .i64 2) ∧ Below w.heap.size w w' := by
  have d1 : decide (cl < 1) = false := decide_eq_false (by omega)
  have d2 : decide (8 < cl) = true := decide_eq_true hc
  obtain ⟨B1, s0, sz⟩ := box1 w #[.int .i64 cd, .int .i64 tm, .int .u64 id, .int .i64 cn, .int .i64 st, .int .i64 lv, .int .u64 ge, .int .i64 fr, .int .i64 lf, .int .i64 du, .int .i64 tl, .slice a n ca, .int .u64 nt, .int .i64 de] 28
  have h1 := h.kept B1
  have HT := Lib.hid h1
  have HB := Lib.hid B1
  have HS := Lib.hid s0
  have HCR := Lib.hid (created_yes T mb c M _ h1)
  clear h h1 B1 s0 sz
  unfold repV
  go_enter Try.func36, Try.ntmps36
  go_wp2_with fail
  generalize w.alloc (.cells #[.int .i64 cd, .int .i64 tm, .int .u64 id, .int .i64 cn, .int .i64 st, .int .i64 lv, .int .u64 ge, .int .i64 fr, .int .i64 lf, .int .i64 du, .int .i64 tl, .slice a n ca, .int .u64 nt, .int .i64 de] 28) = W0 at HT HB HS HCR ⊢
  refine HCR.out.mono ?_
  rintro e w1 ⟨rfl, rfl⟩
  clear HCR
  obtain ⟨q0, q1, q2, q3, q4, q5, q6, q7, q8, q9, q10, q11, q12, q13⟩ := rep_at HS.out
  go_wp2_with fail
  go_ret
  exact ⟨rfl, HB.out⟩
set_option maxRecDepth 100000 in
set_option maxHeartbeats 8000000 in
theorem done_bad (T mb c : Nat) (M : Lit → Option Value) (cl rq : Int) (cd tm id cn st lv ge fr lf du tl : Int) (a : Option Addr) (n ca : Nat) (nt de : Int) (w : World) (h : Tab w T mb c M) (hc : 1 ≤ cl ∧ cl ≤ 8) (hfr : fr ≤ 9223372036854775807) (hs : repS cd tm id cn st lv ge fr lf du tl n de = false) :
    Calls Try.prog 36 #[.pointer (some ⟨T, 0, none⟩), .int .u64 cl, .int .u64 rq, repV cd tm id cn st lv ge fr lf du tl a n ca nt de] w fun e w' => e = .returned (.int .i64 2) ∧ Below w.heap.size w w' := by
  have d1 : decide (cl < 1) = false := decide_eq_false (by omega)
  have d2 : decide (8 < cl) = false := decide_eq_false (by omega)
  have HSO := Lib.hid (fun W => rsound19 cd tm id cn st lv ge fr lf du tl a n ca nt de W hfr)
  rw [hs] at HSO
  clear hs
  obtain ⟨B1, s0, sz⟩ := box1 w #[.int .i64 cd, .int .i64 tm, .int .u64 id, .int .i64 cn, .int .i64 st, .int .i64 lv, .int .u64 ge, .int .i64 fr, .int .i64 lf, .int .i64 du, .int .i64 tl, .slice a n ca, .int .u64 nt, .int .i64 de] 28
  have h1 := h.kept B1
  have HT := Lib.hid h1
  have HB := Lib.hid B1
  have HS := Lib.hid s0
  have HCR := Lib.hid (created_yes T mb c M _ h1)
  unfold repV at HSO
  clear h h1 B1 s0 sz
  unfold repV
  go_enter Try.func36, Try.ntmps36
  go_wp2_with fail
  generalize w.alloc (.cells #[.int .i64 cd, .int .i64 tm, .int .u64 id, .int .i64 cn, .int .i64 st, .int .i64 lv, .int .u64 ge, .int .i64 fr, .int .i64 lf, .int .i64 du, .int .i64 tl, .slice a n ca, .int .u64 nt, .int .i64 de] 28) = W0 at HT HB HS HCR ⊢
  refine HCR.out.mono ?_
  rintro e w1 ⟨rfl, rfl⟩
  clear HCR
  obtain ⟨q0, q1, q2, q3, q4, q5, q6, q7, q8, q9, q10, q11, q12, q13⟩ := rep_at HS.out
  go_wp2_with fail
  refine (HSO.out _).mono ?_
  rintro e w2 ⟨rfl, hb⟩
  have HB2 := Lib.hid (HB.out.trans (hb.mono HB.out.size))
  clear hb q0 q1 q2 q3 q4 q5 q6 q7 q8 q9 q10 q11 q12 q13
  go_wp2_with fail
  go_ret
  exact ⟨rfl, HB2.out⟩
set_option maxRecDepth 100000 in
set_option maxHeartbeats 8000000 in
theorem done_old (T mb c : Nat) (M : Lit → Option Value) (cl rq : Int) (cd tm id cn st lv ge fr lf du tl : Int) (a : Option Addr) (n ca : Nat) (nt de : Int) (w : World) (h : Tab w T mb c M) (q : Int) (cd1 tm1 id1 cn1 st1 lv1 ge1 fr1 lf1 du1 tl1 : Int) (a1 : Option Addr) (n1 ca1 : Nat) (nt1 de1 : Int) (hv : (M (.int .u64 cl)).getD (.agg #[.int .u64 0, .int .i64 0, .int .i64 0, .int .u64 0, .int .i64 0, .int .i64 0, .int .i64 0, .int .u64 0, .int .i64 0, .int .i64 0, .int .i64 0, .int .i64 0, .slice none 0 0, .int .u64 0, .int .i64 0]) = .agg #[.int .u64 q, .int .i64 cd1, .int .i64 tm1, .int .u64 id1, .int .i64 cn1, .int .i64 st1, .int .i64 lv1, .int .u64 ge1, .int .i64 fr1, .int .i64 lf1, .int .i64 du1, .int .i64 tl1, .slice a1 n1 ca1, .int .u64 nt1, .int .i64 de1]) (hc : 1 ≤ cl ∧ cl ≤ 8) (hfr : fr ≤ 9223372036854775807) (hs : repS cd tm id cn st lv ge fr lf du tl n de = true) (hq : rq ≤ q) :
    Calls Try.prog 36 #[.pointer (some ⟨T, 0, none⟩), .int .u64 cl, .int .u64 rq, repV cd tm id cn st lv ge fr lf du tl a n ca nt de] w fun e w' => e = .returned (.int .i64 34) ∧ Below w.heap.size w w' := by
  have d1 : decide (cl < 1) = false := decide_eq_false (by omega)
  have d2 : decide (8 < cl) = false := decide_eq_false (by omega)
  have d3 : decide (rq ≤ q) = true := decide_eq_true hq
  have HSO := Lib.hid (fun W => rsound19 cd tm id cn st lv ge fr lf du tl a n ca nt de W hfr)
  rw [hs] at HSO
  clear hs
  obtain ⟨B1, s0, sz⟩ := box1 w #[.int .i64 cd, .int .i64 tm, .int .u64 id, .int .i64 cn, .int .i64 st, .int .i64 lv, .int .u64 ge, .int .i64 fr, .int .i64 lf, .int .i64 du, .int .i64 tl, .slice a n ca, .int .u64 nt, .int .i64 de] 28
  have h1 := h.kept B1
  have HT := Lib.hid h1
  have HB := Lib.hid B1
  have HS := Lib.hid s0
  have HCR := Lib.hid (created_yes T mb c M _ h1)
  unfold repV at HSO
  clear h h1 B1 s0 sz
  unfold repV
  go_enter Try.func36, Try.ntmps36
  go_wp2_with fail
  generalize w.alloc (.cells #[.int .i64 cd, .int .i64 tm, .int .u64 id, .int .i64 cn, .int .i64 st, .int .i64 lv, .int .u64 ge, .int .i64 fr, .int .i64 lf, .int .i64 du, .int .i64 tl, .slice a n ca, .int .u64 nt, .int .i64 de] 28) = W0 at HT HB HS HCR ⊢
  refine HCR.out.mono ?_
  rintro e w1 ⟨rfl, rfl⟩
  clear HCR
  obtain ⟨q0, q1, q2, q3, q4, q5, q6, q7, q8, q9, q10, q11, q12, q13⟩ := rep_at HS.out
  go_wp2_with fail
  refine (HSO.out _).mono ?_
  rintro e w2 ⟨rfl, hb⟩
  have HT2 := Lib.hid (HT.out.kept hb)
  have HB2 := Lib.hid (HB.out.trans (hb.mono HB.out.size))
  have HS2 := Lib.hid (ex_below HS.out hb)
  clear hb q0 q1 q2 q3 q4 q5 q6 q7 q8 q9 q10 q11 q12 q13 HT HB HS
  go_wp2_with fail
  refine (lastq_any T mb c M cl q cd1 tm1 id1 cn1 st1 lv1 ge1 fr1 lf1 du1 tl1 a1 n1 ca1 nt1 de1 _ HT2.out (by omega) hv).mono ?_
  rintro e w3 ⟨rfl, hb⟩
  have HT3 := Lib.hid (HT2.out.kept hb)
  have HB3 := Lib.hid (HB2.out.trans (hb.mono HB2.out.size))
  have HS3 := Lib.hid (ex_below HS2.out hb)
  clear hb HT2 HB2 HS2 hv
  go_wp2_with fail
  go_ret
  exact ⟨rfl, HB3.out⟩
def upC (M : Lit → Option Value) (l : Lit) (c : Nat) : Nat := if (M l).isSome then c else c + 1
theorem upC_le (M : Lit → Option Value) (l : Lit) (c : Nat) : upC M l c ≤ c + 1 := by unfold upC; split <;> omega
theorem below_grown {w w1 w2 : World} {r : Option Nat} (h : Below w.heap.size w w1) (g : w1.grownBy w2 r) : w.grownBy w2 r :=
  ⟨g.os.trans h.os, g.tape.trans h.tape, g.output.trans h.output, Nat.le_trans h.size g.size, fun k hk hr => (g.block k (Nat.lt_of_lt_of_le hk h.size) hr).trans (h.block k hk)⟩
theorem ou_grown {w w' : World} {base mb : Nat} {a : Option Addr} {n c : Nat} {l : List Nat} (h : OU w base (.slice a n c) l) (g : w.grownBy w' (some mb)) (hb : mb < base) : OU w' base (.slice a n c) l := by
  unfold OU at h ⊢
  rcases h with ⟨hl, h⟩
  refine ⟨hl, ?_⟩
  rcases h with h | ⟨b, cap, cur, hv, hg, hh, hr⟩
  · exact .inl h
  · exact .inr ⟨b, cap, cur, hv, hg, (g.block b (ex_lt hh) (by intro e; injection e with e; omega)).trans hh, hr⟩
set_option maxRecDepth 100000 in
set_option maxHeartbeats 8000000 in
theorem done_ok (T mb c : Nat) (M : Lit → Option Value) (cl rq : Int) (cd tm id cn st lv ge fr lf du tl : Int) (a : Option Addr) (n ca : Nat) (nt de : Int) (w : World) (h : Tab w T mb c M) (q : Int) (cd1 tm1 id1 cn1 st1 lv1 ge1 fr1 lf1 du1 tl1 : Int) (a1 : Option Addr) (n1 ca1 : Nat) (nt1 de1 : Int) (hv : (M (.int .u64 cl)).getD (.agg #[.int .u64 0, .int .i64 0, .int .i64 0, .int .u64 0, .int .i64 0, .int .i64 0, .int .i64 0, .int .u64 0, .int .i64 0, .int .i64 0, .int .i64 0, .int .i64 0, .slice none 0 0, .int .u64 0, .int .i64 0]) = .agg #[.int .u64 q, .int .i64 cd1, .int .i64 tm1, .int .u64 id1, .int .i64 cn1, .int .i64 st1, .int .i64 lv1, .int .u64 ge1, .int .i64 fr1, .int .i64 lf1, .int .i64 du1, .int .i64 tl1, .slice a1 n1 ca1, .int .u64 nt1, .int .i64 de1]) (xs : List Nat) (hU : Us w a n xs) (hc : 1 ≤ cl ∧ cl ≤ 8) (hn : n ≤ 100000) (hcm : c < maxLen) (hfr : fr ≤ 9223372036854775807) (hs : repS cd tm id cn st lv ge fr lf du tl n de = true) (hq : q < rq) :
    Calls Try.prog 36 #[.pointer (some ⟨T, 0, none⟩), .int .u64 cl, .int .u64 rq, repV cd tm id cn st lv ge fr lf du tl a n ca nt de] w fun e w' => e = .returned (.int .i64 0) ∧ ∃ ac cc M', Tab w' T mb (upC M (.int .u64 cl) c) M' ∧ (M' (.int .u64 cl) = some (.agg #[.int .u64 rq, .int .i64 cd, .int .i64 tm, .int .u64 id, .int .i64 cn, .int .i64 st, .int .i64 lv, .int .u64 ge, .int .i64 fr, .int .i64 lf, .int .i64 du, .int .i64 tl, .slice ac n cc, .int .u64 nt, .int .i64 de]) ∧ ∀ x, x ≠ .int .u64 cl → M' x = M x) ∧ OU w' w.heap.size (.slice ac n cc) xs ∧ w.grownBy w' (some mb) := by
  have d1 : decide (cl < 1) = false := decide_eq_false (by omega)
  have d2 : decide (8 < cl) = false := decide_eq_false (by omega)
  have d3 : decide (rq ≤ q) = false := decide_eq_false (by omega)
  have HSO := Lib.hid (fun W => rsound19 cd tm id cn st lv ge fr lf du tl a n ca nt de W hfr)
  rw [hs] at HSO
  have HU : Hid (∀ W, Below w.heap.size w W → Us W a n xs) := Lib.hid (fun W hb => hU.kept hb)
  have HN := Lib.hid hn
  have HLN := Lib.hid hU.1
  have HCM := Lib.hid hcm
  have HMB : Hid (mb < w.heap.size) := Lib.hid h.2.lt
  have HNE := Lib.hid h.ne
  clear hs hU hn hcm
  obtain ⟨B1, s0, sz⟩ := box1 w #[.int .i64 cd, .int .i64 tm, .int .u64 id, .int .i64 cn, .int .i64 st, .int .i64 lv, .int .u64 ge, .int .i64 fr, .int .i64 lf, .int .i64 du, .int .i64 tl, .slice a n ca, .int .u64 nt, .int .i64 de] 28
  have h1 := h.kept B1
  have HT := Lib.hid h1
  have HB := Lib.hid B1
  have HS := Lib.hid s0
  have HCR := Lib.hid (created_yes T mb c M _ h1)
  unfold repV at HSO
  clear h h1 B1 s0 sz
  unfold repV
  go_enter Try.func36, Try.ntmps36
  go_wp2_with fail
  generalize w.alloc (.cells #[.int .i64 cd, .int .i64 tm, .int .u64 id, .int .i64 cn, .int .i64 st, .int .i64 lv, .int .u64 ge, .int .i64 fr, .int .i64 lf, .int .i64 du, .int .i64 tl, .slice a n ca, .int .u64 nt, .int .i64 de] 28) = W0 at HT HB HS HCR ⊢
  refine HCR.out.mono ?_
  rintro e w1 ⟨rfl, rfl⟩
  clear HCR
  obtain ⟨q0, q1, q2, q3, q4, q5, q6, q7, q8, q9, q10, q11, q12, q13⟩ := rep_at HS.out
  go_wp2_with fail
  refine (HSO.out _).mono ?_
  rintro e w2 ⟨rfl, hb⟩
  have HT2 := Lib.hid (HT.out.kept hb)
  have HB2 := Lib.hid (HB.out.trans (hb.mono HB.out.size))
  have HS2 := Lib.hid (ex_below HS.out hb)
  clear hb q0 q1 q2 q3 q4 q5 q6 q7 q8 q9 q10 q11 q12 q13 HT HB HS
  go_wp2_with fail
  refine (lastq_any T mb c M cl q cd1 tm1 id1 cn1 st1 lv1 ge1 fr1 lf1 du1 tl1 a1 n1 ca1 nt1 de1 _ HT2.out (by omega) hv).mono ?_
  rintro e w3 ⟨rfl, hb⟩
  have HT3 := Lib.hid (HT2.out.kept hb)
  have HB3 := Lib.hid (HB2.out.trans (hb.mono HB2.out.size))
  have HS3 := Lib.hid (ex_below HS2.out hb)
  clear hb HT2 HB2 HS2 hv
  go_wp2_with fail
  have HS0 : Hid ((fun W => W.heap[w.heap.size]? = some (.cells #[.int .i64 cd, .int .i64 tm, .int .u64 id, .int .i64 cn, .int .i64 st, .int .i64 lv, .int .u64 ge, .int .i64 fr, .int .i64 lf, .int .i64 du, .int .i64 tl, .slice a n ca, .int .u64 nt, .int .i64 de] 28 (0, 0)) ∧ W.heap[T]? = some (.cells #[.map (some mb)] 82 (0, 0))) w3.drew) := Lib.hid ⟨HS3.out, HT3.out.1⟩
  have hd := (Below.refl w3.heap.size w3).drew
  have HT4 := Lib.hid (HT3.out.kept hd)
  have HB4 := Lib.hid (HB3.out.trans (hd.mono HB3.out.size))
  clear hd HS3 HT3 HB3
  refine wp_region_held_drew (S := fun W => W.heap[w.heap.size]? = some (.cells #[.int .i64 cd, .int .i64 tm, .int .u64 id, .int .i64 cn, .int .i64 st, .int .i64 lv, .int .u64 ge, .int .i64 fr, .int .i64 lf, .int .i64 du, .int .i64 tl, .slice a n ca, .int .u64 nt, .int .i64 de] 28 (0, 0)) ∧ W.heap[T]? = some (.cells #[.map (some mb)] 82 (0, 0))) (by kernel_rfl) HS0.out (fun hHeld => ?_)
  clear hHeld
  generalize w3.drew = V4 at HS0 HT4 HB4 ⊢
  refine wpAnyH_take (i := 0) (oi := { dst := some 31, op := Go.Op.move (Go.Operand.tmp 0), type := 57, pos := "session.go:58", after := #[], guard := none }) (v := ?_) rfl (by kernel_rfl) (by kernel_rfl) (by kernel_rfl) (fun _ _ _ h => h) (Or.inl ⟨by rfl, ?_⟩) HS0.out ?_
  case refine_2 => (intro w1 hS1; obtain ⟨k1, k2⟩ := hS1; obtain ⟨q0, q1, q2, q3, q4, q5, q6, q7, q8, q9, q10, q11, q12, q13⟩ := rep_at k1; have c0 := one_at k2; clear k1 k2; go_simp; try with_reducible rfl)
  try simp only [Act.put, List.setIfInBounds_toArray, List.set_cons_zero, List.set_cons_succ]
  refine wpAnyH_take (i := 1) (oi := { dst := some 32, op := Go.Op.nilCheck (Go.Operand.tmp 31), type := 0, pos := "session.go:58", after := #[{ on := 0, ground := Go.Ground.data }], guard := none }) (v := ?_) rfl (by kernel_rfl) (by kernel_rfl) (by kernel_rfl) (fun _ _ _ h => h) (Or.inl ⟨by rfl, ?_⟩) HS0.out ?_
  case refine_2 => (intro w1 hS1; obtain ⟨k1, k2⟩ := hS1; obtain ⟨q0, q1, q2, q3, q4, q5, q6, q7, q8, q9, q10, q11, q12, q13⟩ := rep_at k1; have c0 := one_at k2; clear k1 k2; go_simp; try with_reducible rfl)
  try simp only [Act.put, List.setIfInBounds_toArray, List.set_cons_zero, List.set_cons_succ]
  refine wpAnyH_take (i := 2) (oi := { dst := some 33, op := Go.Op.fieldAddr 82 (Go.Operand.tmp 32) 0, type := 0, pos := "session.go:58", after := #[{ on := 1, ground := Go.Ground.data }], guard := none }) (v := ?_) rfl (by kernel_rfl) (by kernel_rfl) (by kernel_rfl) (fun _ _ _ h => h) (Or.inl ⟨by rfl, ?_⟩) HS0.out ?_
  case refine_2 => (intro w1 hS1; obtain ⟨k1, k2⟩ := hS1; obtain ⟨q0, q1, q2, q3, q4, q5, q6, q7, q8, q9, q10, q11, q12, q13⟩ := rep_at k1; have c0 := one_at k2; clear k1 k2; go_simp; try with_reducible rfl)
  try simp only [Act.put, List.setIfInBounds_toArray, List.set_cons_zero, List.set_cons_succ]
  refine wpAnyH_take (i := 3) (oi := { dst := some 34, op := Go.Op.load 80 (Go.Operand.tmp 33), type := 80, pos := "session.go:58", after := #[{ on := 2, ground := Go.Ground.data }], guard := none }) (v := ?_) rfl (by kernel_rfl) (by kernel_rfl) (by kernel_rfl) (fun _ _ _ h => h) (Or.inl ⟨by rfl, ?_⟩) HS0.out ?_
  case refine_2 => (intro w1 hS1; obtain ⟨k1, k2⟩ := hS1; obtain ⟨q0, q1, q2, q3, q4, q5, q6, q7, q8, q9, q10, q11, q12, q13⟩ := rep_at k1; have c0 := one_at k2; clear k1 k2; go_simp; try with_reducible rfl)
  try simp only [Act.put, List.setIfInBounds_toArray, List.set_cons_zero, List.set_cons_succ]
  refine wpAnyH_take (i := 4) (oi := { dst := some 35, op := Go.Op.move (Go.Operand.tmp 1), type := 23, pos := "session.go:58", after := #[], guard := none }) (v := ?_) rfl (by kernel_rfl) (by kernel_rfl) (by kernel_rfl) (fun _ _ _ h => h) (Or.inl ⟨by rfl, ?_⟩) HS0.out ?_
  case refine_2 => (intro w1 hS1; obtain ⟨k1, k2⟩ := hS1; obtain ⟨q0, q1, q2, q3, q4, q5, q6, q7, q8, q9, q10, q11, q12, q13⟩ := rep_at k1; have c0 := one_at k2; clear k1 k2; go_simp; try with_reducible rfl)
  try simp only [Act.put, List.setIfInBounds_toArray, List.set_cons_zero, List.set_cons_succ]
  refine wpAnyH_take (i := 5) (oi := { dst := some 36, op := Go.Op.move (Go.Operand.tmp 2), type := 23, pos := "session.go:58", after := #[], guard := none }) (v := ?_) rfl (by kernel_rfl) (by kernel_rfl) (by kernel_rfl) (fun _ _ _ h => h) (Or.inl ⟨by rfl, ?_⟩) HS0.out ?_
  case refine_2 => (intro w1 hS1; obtain ⟨k1, k2⟩ := hS1; obtain ⟨q0, q1, q2, q3, q4, q5, q6, q7, q8, q9, q10, q11, q12, q13⟩ := rep_at k1; have c0 := one_at k2; clear k1 k2; go_simp; try with_reducible rfl)
  try simp only [Act.put, List.setIfInBounds_toArray, List.set_cons_zero, List.set_cons_succ]
  refine wpAnyH_take (i := 6) (oi := { dst := some 37, op := Go.Op.load 28 (Go.Operand.tmp 7), type := 28, pos := "session.go:58", after := #[], guard := none }) (v := ?_) rfl (by kernel_rfl) (by kernel_rfl) (by kernel_rfl) (fun _ _ _ h => h) (Or.inl ⟨by rfl, ?_⟩) HS0.out ?_
  case refine_2 => (intro w1 hS1; obtain ⟨k1, k2⟩ := hS1; obtain ⟨q0, q1, q2, q3, q4, q5, q6, q7, q8, q9, q10, q11, q12, q13⟩ := rep_at k1; have c0 := one_at k2; clear k1 k2; go_simp; try with_reducible rfl)
  try simp only [Act.put, List.setIfInBounds_toArray, List.set_cons_zero, List.set_cons_succ]
  refine wpAnyH_ready (rs := [7]) (by kernel_rfl) (by simp) ?_
  refine AllReadyH.cons (o := { dst := some 38, op := Go.Op.call { callee := Go.Callee.value (Go.Operand.func 12), args := #[Go.Operand.tmp 37], argTypes := #[28] }, type := 28, pos := "session.go:58", after := #[{ on := 6, ground := Go.Ground.data }], guard := none }) rfl (fun K hK => ?_) AllReadyH.nil
  go_simp
  refine (copy_any cd tm id cn st lv ge fr lf du tl a n ca nt de xs V4 (HU.out _ HB4.out) (by have := HN.out; omega)).mono ?_
  rintro e V5 ⟨ac, cc, rfl, ho, hb⟩
  rw [HLN.out] at ho ⊢
  have HO := Lib.hid ho
  have HT5 := Lib.hid (HT4.out.kept hb)
  have HB5 := Lib.hid (HB4.out.trans (hb.mono HB4.out.size))
  have HS0' : Hid ((fun W => W.heap[w.heap.size]? = some (.cells #[.int .i64 cd, .int .i64 tm, .int .u64 id, .int .i64 cn, .int .i64 st, .int .i64 lv, .int .u64 ge, .int .i64 fr, .int .i64 lf, .int .i64 du, .int .i64 tl, .slice a n ca, .int .u64 nt, .int .i64 de] 28 (0, 0)) ∧ W.heap[T]? = some (.cells #[.map (some mb)] 82 (0, 0))) V5) := Lib.hid ⟨ex_below HS0.out.1 hb, ex_below HS0.out.2 hb⟩
  have HLE : Hid (w.heap.size ≤ V4.heap.size) := Lib.hid HB4.out.size
  clear ho hb HT4 HB4
  clear HS0
  have HS0 := HS0'
  clear HS0'
  unfold repV
  refine hK.out _ _ HS0.out (fun hHeld => ?_)
  clear hK K hHeld
  try simp only [Act.put, List.setIfInBounds_toArray, List.set_cons_zero, List.set_cons_succ]
  refine wpAnyH_take (i := 8) (oi := { dst := some 39, op := Go.Op.build 113 #[(0, Go.Operand.tmp 36), (1, Go.Operand.tmp 38)], type := 113, pos := "session.go:58", after := #[{ on := 5, ground := Go.Ground.data }, { on := 7, ground := Go.Ground.data }], guard := none }) (v := ?_) rfl (by kernel_rfl) (by kernel_rfl) (by kernel_rfl) (fun _ _ _ h => h) (Or.inl ⟨by rfl, ?_⟩) HS0.out ?_
  case refine_2 => (intro w1 hS1; obtain ⟨k1, k2⟩ := hS1; obtain ⟨q0, q1, q2, q3, q4, q5, q6, q7, q8, q9, q10, q11, q12, q13⟩ := rep_at k1; have c0 := one_at k2; clear k1 k2; go_simp; try with_reducible rfl)
  try simp only [Act.put, List.setIfInBounds_toArray, List.set_cons_zero, List.set_cons_succ]
  obtain ⟨M', hM1, hM2⟩ := upV M (.int .u64 cl) (some (.agg #[.int .u64 rq, .int .i64 cd, .int .i64 tm, .int .u64 id, .int .i64 cn, .int .i64 st, .int .i64 lv, .int .u64 ge, .int .i64 fr, .int .i64 lf, .int .i64 du, .int .i64 tl, .slice ac n cc, .int .u64 nt, .int .i64 de]))
  obtain ⟨V6, hrun, hV6, hg6, hz6⟩ := HT5.out.2.put keyedU rq_und HCM.out (keyU (show 0 ≤ cl ∧ cl < 18446744073709551616 by omega)) _ hM1 hM2
  refine wpAnyH_ready (rs := [9]) (by kernel_rfl) (by simp) ?_
  refine AllReadyH.cons (o := { dst := none, op := Go.Op.mapUpdate 80 (Go.Operand.tmp 34) (Go.Operand.tmp 35) (Go.Operand.tmp 39), type := 0, pos := "session.go:58", after := #[{ on := 3, ground := Go.Ground.data }, { on := 4, ground := Go.Ground.data }, { on := 8, ground := Go.Ground.data }, { on := 7, ground := Go.Ground.chain }, { on := 0, ground := Go.Ground.phase }, { on := 1, ground := Go.Ground.phase }, { on := 2, ground := Go.Ground.phase }, { on := 3, ground := Go.Ground.phase }, { on := 4, ground := Go.Ground.phase }, { on := 5, ground := Go.Ground.phase }, { on := 6, ground := Go.Ground.phase }, { on := 7, ground := Go.Ground.phase }, { on := 8, ground := Go.Ground.phase }], guard := none }) rfl (fun K hK => ?_) AllReadyH.nil
  go_simp
  have HS0' : Hid ((fun W => W.heap[w.heap.size]? = some (.cells #[.int .i64 cd, .int .i64 tm, .int .u64 id, .int .i64 cn, .int .i64 st, .int .i64 lv, .int .u64 ge, .int .i64 fr, .int .i64 lf, .int .i64 du, .int .i64 tl, .slice a n ca, .int .u64 nt, .int .i64 de] 28 (0, 0)) ∧ W.heap[T]? = some (.cells #[.map (some mb)] 82 (0, 0))) V6) := Lib.hid ⟨(hg6.block _ (ex_lt HS0.out.1) (by have h1 := HMB.out; intro e; injection e with e; omega)).trans HS0.out.1, (hg6.block _ (ex_lt HS0.out.2) (fun e => HNE.out (by injection e))).trans HS0.out.2⟩
  have HTF : Hid (Tab V6 T mb (upC M (.int .u64 cl) c) M') := Lib.hid ⟨HS0'.out.2, hV6⟩
  have HOF : Hid (OU V6 w.heap.size (.slice ac n cc) xs) := Lib.hid (ou_grown (HO.out.mono HLE.out) hg6 HMB.out)
  have HGF : Hid (w.grownBy V6 (some mb)) := Lib.hid (below_grown HB5.out hg6)
  have HM := Lib.hid (And.intro hM1 hM2)
  clear hV6 hg6 hM1 hM2 HT5 HB5 HO
  clear HS0
  have HS0 := HS0'
  clear HS0'
  refine hK.out _ _ HS0.out (fun hHeld => ?_)
  clear hrun hz6 hK K hHeld
  try simp only [Act.put, List.setIfInBounds_toArray, List.set_cons_zero, List.set_cons_succ]
  refine wpAnyH_done (by kernel_rfl) ?_ _
  go_wp2_with fail
  go_ret
  exact ⟨rfl, ac, cc, M', HTF.out, HM.out, HOF.out, HGF.out⟩
/- Session: the chapter's example. -/
open Go.RowKit Go.Maps
theorem grown_below {B : Nat} {W w w' : World} {mb : Nat} (h : Below B W w) (g : w.grownBy w' (some mb)) (hmb : B ≤ mb) (hB : B ≤ w.heap.size) : Below B W w' :=
  ⟨g.os.trans h.os, g.tape.trans h.tape, g.output.trans h.output, Nat.le_trans h.size g.size, fun k hk => (g.block k (Nat.lt_of_lt_of_le hk hB) (by intro e; injection e with e; omega)).trans (h.block k hk)⟩
set_option maxRecDepth 100000 in
set_option maxHeartbeats 8000000 in
theorem lives20 (w : World) : Calls Try.prog 28 #[] w fun e w' => e = .returned (.bool true) ∧ Below w.heap.size w w' := by
  go_enter Try.func28, Try.ntmps28
  go_wp2_with fail
  refine (empty_any w).mono ?_
  rintro e w1 ⟨T, mb, rfl, hT, hmb, ht, hb⟩
  have HT1 := Lib.hid ht
  have HB1 := Lib.hid hb
  have HMB := Lib.hid hmb
  clear ht hb hT hmb
  have HD := Lib.hid (done_ok T mb 0 (fun _ => none) 1 5 0 7 0 0 0 0 0 0 0 0 0 none 0 0 0 0 w1 HT1.out 0 0 0 0 0 0 0 0 0 0 0 0 none 0 0 0 0 rfl [] (Us.none w1) (by omega) (by omega) (by unfold maxLen; omega) (by omega) (by decide) (by omega))
  unfold repV at HD
  go_wp2_with fail
  refine HD.out.mono ?_
  rintro e w2 ⟨rfl, ac, cc, M, ht, ⟨hM, -⟩, ho, hg⟩
  have HT2 := Lib.hid ht
  have HB2 := Lib.hid (grown_below HB1.out hg HMB.out HB1.out.size)
  have HU2 := Lib.hid ((ho.us (by simp)).2)
  have HV : Hid ((M (.int .u64 1)).getD (.agg #[.int .u64 0, .int .i64 0, .int .i64 0, .int .u64 0, .int .i64 0, .int .i64 0, .int .i64 0, .int .u64 0, .int .i64 0, .int .i64 0, .int .i64 0, .int .i64 0, .slice none 0 0, .int .u64 0, .int .i64 0]) = .agg #[.int .u64 5, .int .i64 0, .int .i64 7, .int .u64 0, .int .i64 0, .int .i64 0, .int .i64 0, .int .u64 0, .int .i64 0, .int .i64 0, .int .i64 0, .int .i64 0, .slice ac 0 cc, .int .u64 0, .int .i64 0]) := Lib.hid (by rw [hM]; rfl)
  clear ht hM ho hg HD HT1 HB1 HMB
  generalize upC (fun _ => none) (Lit.int .u64 1) 0 = c0 at HT2
  go_wp2_with fail
  refine (look_again T mb c0 M 1 5 5 0 7 0 0 0 0 0 0 0 0 0 ac 0 cc 0 0 w2 HT2.out (by omega) HV.out [] HU2.out (by omega) rfl (by omega)).mono ?_
  rintro e w3 ⟨a2, c2, rfl, -, hb⟩
  obtain ⟨X1, X2, -⟩ := box1 w3 #[.int .i64 0, .int .i64 7, .int .u64 0, .int .i64 0, .int .i64 0, .int .i64 0, .int .u64 0, .int .i64 0, .int .i64 0, .int .i64 0, .int .i64 0, .slice a2 0 c2, .int .u64 0, .int .i64 0] 28
  obtain ⟨Y1, Y2, -⟩ := box1 w3 #[.int .i64 0, .int .i64 0, .int .u64 0, .int .i64 0, .int .i64 0, .int .i64 0, .int .u64 0, .int .i64 0, .int .i64 0, .int .i64 0, .int .i64 0, .slice none 0 0, .int .u64 0, .int .i64 0] 28
  have HT3 := Lib.hid (HT2.out.kept (hb.trans (X1.mono hb.size)))
  have HB3 := Lib.hid (HB2.out.trans ((hb.trans (X1.mono hb.size)).mono HB2.out.size))
  obtain ⟨G, hG⟩ : ∃ y, w3.heap.size = y := ⟨_, rfl⟩
  obtain ⟨q0, q1, q2, q3, q4, q5, q6, q7, q8, q9, q10, q11, q12, q13⟩ := rep_at Y2
  have qf := rep_fr Y2
  rw [hG] at X2 q0 q1 q2 q3 q4 q5 q6 q7 q8 q9 q10 q11 q12 q13 qf
  have HX := Lib.hid X2
  clear hb X1 X2 Y1 Y2 HT2 HB2 HU2
  unfold repV
  go_wp2_with fail
  clear q0 q1 q2 q3 q4 q5 q6 q7 q8 q9 q10 q11 q12 q13 qf
  try rw [hG]
  clear hG
  generalize w3.alloc (.cells #[.int .i64 0, .int .i64 7, .int .u64 0, .int .i64 0, .int .i64 0, .int .i64 0, .int .u64 0, .int .i64 0, .int .i64 0, .int .i64 0, .int .i64 0, .slice a2 0 c2, .int .u64 0, .int .i64 0] 28) = w4 at HT3 HB3 HX ⊢
  refine (look_old T mb c0 M 1 5 4 0 7 0 0 0 0 0 0 0 0 0 ac 0 cc 0 0 w4 HT3.out (by omega) HV.out (by omega)).mono ?_
  rintro e w5 ⟨rfl, hb⟩
  obtain ⟨X1, X2, -⟩ := box1 w5 #[.int .i64 0, .int .i64 0, .int .u64 0, .int .i64 0, .int .i64 0, .int .i64 0, .int .u64 0, .int .i64 0, .int .i64 0, .int .i64 0, .int .i64 0, .slice none 0 0, .int .u64 0, .int .i64 0] 28
  have HT5 := Lib.hid (HT3.out.kept (hb.trans (X1.mono hb.size)))
  have HB5 := Lib.hid (HB3.out.trans ((hb.trans (X1.mono hb.size)).mono HB3.out.size))
  have HX5 := Lib.hid (ex_below HX.out (hb.trans (X1.mono hb.size)))
  obtain ⟨q0, q1, q2, q3, q4, q5, q6, q7, q8, q9, q10, q11, q12, q13⟩ := rep_at X2
  have qf := rep_fr X2
  clear hb X1 X2 HT3 HB3 HX
  go_wp2_with fail
  clear q0 q1 q2 q3 q4 q5 q6 q7 q8 q9 q10 q11 q12 q13 qf
  generalize w5.alloc (.cells #[.int .i64 0, .int .i64 0, .int .u64 0, .int .i64 0, .int .i64 0, .int .i64 0, .int .u64 0, .int .i64 0, .int .i64 0, .int .i64 0, .int .i64 0, .slice none 0 0, .int .u64 0, .int .i64 0] 28) = w6 at HT5 HB5 HX5 ⊢
  refine (look_new T mb c0 M 1 5 6 0 7 0 0 0 0 0 0 0 0 0 ac 0 cc 0 0 w6 HT5.out (by omega) HV.out (by omega)).mono ?_
  rintro e w7 ⟨rfl, hb⟩
  obtain ⟨X1, X2, -⟩ := box1 w7 #[.int .i64 0, .int .i64 0, .int .u64 0, .int .i64 0, .int .i64 0, .int .i64 0, .int .u64 0, .int .i64 0, .int .i64 0, .int .i64 0, .int .i64 0, .slice none 0 0, .int .u64 0, .int .i64 0] 28
  have HB7 := Lib.hid (HB5.out.trans ((hb.trans (X1.mono hb.size)).mono HB5.out.size))
  have hx7 := ex_below HX5.out (hb.trans (X1.mono hb.size))
  obtain ⟨q0, q1, q2, q3, q4, q5, q6, q7, q8, q9, q10, q11, q12, q13⟩ := rep_at X2
  obtain ⟨p0, p1, p2, p3, p4, p5, p6, p7, p8, p9, p10, p11, p12, p13⟩ := rep_at hx7
  have qf := rep_fr X2
  clear hb X1 X2 HT5 HB5 HX5 hx7
  go_wp2_with fail
  go_ret
  exact ⟨rfl, HB7.out⟩
end Go.Proofs.Ytnhaakdjijjinaa

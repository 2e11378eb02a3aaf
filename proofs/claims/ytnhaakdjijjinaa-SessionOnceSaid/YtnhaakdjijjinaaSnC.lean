/- Session: what a request is (Look). -/
import Derived.Test.YtnhaakdjijjinaaSnB
namespace Go.Proofs.Ytnhaakdjijjinaa
open Go.RowKit Go.Maps
set_option maxRecDepth 100000 in
set_option maxHeartbeats 8000000 in
theorem look_new (T mb c : Nat) (M : Lit → Option Value) (cl q rq : Int) (cd tm id cn st lv ge fr lf du tl : Int) (a : Option Addr) (n ca : Nat) (nt de : Int) (w : World) (h : Tab w T mb c M) (hcl : 0 ≤ cl ∧ cl < 18446744073709551616) (hv : (M (.int .u64 cl)).getD (.agg #[.int .u64 0, .int .i64 0, .int .i64 0, .int .u64 0, .int .i64 0, .int .i64 0, .int .i64 0, .int .u64 0, .int .i64 0, .int .i64 0, .int .i64 0, .int .i64 0, .slice none 0 0, .int .u64 0, .int .i64 0]) = .agg #[.int .u64 q, .int .i64 cd, .int .i64 tm, .int .u64 id, .int .i64 cn, .int .i64 st, .int .i64 lv, .int .u64 ge, .int .i64 fr, .int .i64 lf, .int .i64 du, .int .i64 tl, .slice a n ca, .int .u64 nt, .int .i64 de]) (hq : q < rq) :
    Calls Try.prog 35 #[.pointer (some ⟨T, 0, none⟩), .int .u64 cl, .int .u64 rq] w fun e w' => e = .returned (.tuple #[.int .i64 1, .agg #[.int .i64 0, .int .i64 0, .int .u64 0, .int .i64 0, .int .i64 0, .int .i64 0, .int .u64 0, .int .i64 0, .int .i64 0, .int .i64 0, .int .i64 0, .slice none 0 0, .int .u64 0, .int .i64 0]]) ∧ Below w.heap.size w w' := by
  have d1 : decide (q < rq) = true := decide_eq_true hq
  obtain ⟨B1, s0, sz⟩ := box1 w #[.int .i64 0, .int .i64 0, .int .u64 0, .int .i64 0, .int .i64 0, .int .i64 0, .int .u64 0, .int .i64 0, .int .i64 0, .int .i64 0, .int .i64 0, .slice none 0 0, .int .u64 0, .int .i64 0] 28
  have h1 := h.kept B1
  have HL := Lib.hid (last_any T mb c M cl q cd tm id cn st lv ge fr lf du tl a n ca nt de _ h1 hcl hv)
  have HT := Lib.hid h1
  have HB := Lib.hid B1
  have HS := Lib.hid s0
  clear h h1 B1 s0 sz hv
  go_enter Try.func35, Try.ntmps35
  go_wp2_with fail
  generalize w.alloc (.cells #[.int .i64 0, .int .i64 0, .int .u64 0, .int .i64 0, .int .i64 0, .int .i64 0, .int .u64 0, .int .i64 0, .int .i64 0, .int .i64 0, .int .i64 0, .slice none 0 0, .int .u64 0, .int .i64 0] 28) = W0 at HL HT HB HS ⊢
  refine HL.out.mono ?_
  rintro e w1 ⟨rfl, hb⟩
  obtain ⟨B2, s2, z2⟩ := box1 w1 #[.int .u64 q, .int .i64 cd, .int .i64 tm, .int .u64 id, .int .i64 cn, .int .i64 st, .int .i64 lv, .int .u64 ge, .int .i64 fr, .int .i64 lf, .int .i64 du, .int .i64 tl, .slice a n ca, .int .u64 nt, .int .i64 de] 113
  obtain ⟨B3, s3, z3⟩ := box1 w1 #[.int .u64 0, .int .i64 0, .int .i64 0, .int .u64 0, .int .i64 0, .int .i64 0, .int .i64 0, .int .u64 0, .int .i64 0, .int .i64 0, .int .i64 0, .int .i64 0, .slice none 0 0, .int .u64 0, .int .i64 0] 113
  have HT1 := Lib.hid (HT.out.kept (hb.trans (B2.mono hb.size)))
  have HB1 := Lib.hid (HB.out.trans ((hb.trans (B2.mono hb.size)).mono HB.out.size))
  have HS1 := Lib.hid (ex_below HS.out (hb.trans (B2.mono hb.size)))
  have HQ := Lib.hid s2
  have HCR := Lib.hid (created_yes T mb c M _ HT1.out)
  obtain ⟨t0, t1, t2, t3, t4, t5, t6, t7, t8, t9, t10, t11, t12, t13, t14⟩ := rq_at s3
  have tf := rq_fr s3
  clear hb B2 s2 z2 B3 s3 z3 HT HB HS HL
  go_wp2_with fail
  clear t0 t1 t2 t3 t4 t5 t6 t7 t8 t9 t10 t11 t12 t13 t14 tf
  obtain ⟨G, hG⟩ : ∃ y, w1.heap.size = y := ⟨_, rfl⟩
  rw [hG] at HQ
  try rw [hG]
  clear hG
  generalize w1.alloc (.cells #[.int .u64 q, .int .i64 cd, .int .i64 tm, .int .u64 id, .int .i64 cn, .int .i64 st, .int .i64 lv, .int .u64 ge, .int .i64 fr, .int .i64 lf, .int .i64 du, .int .i64 tl, .slice a n ca, .int .u64 nt, .int .i64 de] 113) = W2 at HT1 HB1 HS1 HQ HCR ⊢
  refine HCR.out.mono ?_
  rintro e w3 ⟨rfl, rfl⟩
  obtain ⟨q0, q1, q2, q3, q4, q5, q6, q7, q8, q9, q10, q11, q12, q13, q14⟩ := rq_at HQ.out
  obtain ⟨r0, r1, r2, r3, r4, r5, r6, r7, r8, r9, r10, r11, r12, r13⟩ := rep_at HS1.out
  have rf := rep_fr HS1.out
  clear HCR
  go_wp2_with fail
  clear q0 q1 q2 q3 q4 q5 q6 q7 q8 q9 q10 q11 q12 q13 q14 r0 r1 r2 r3 r4 r5 r6 r7 r8 r9 r10 r11 r12 r13 rf
  have hp := put14_at HS1.out (.int .i64 0) (.int .i64 0) (.int .u64 0) (.int .i64 0) (.int .i64 0) (.int .i64 0) (.int .u64 0) (.int .i64 0) (.int .i64 0) (.int .i64 0) (.int .i64 0) (.slice none 0 0) (.int .u64 0) (.int .i64 0)
  have hq := HB1.out.trans (put14_below (B := w.heap.size) W2 (N := w.heap.size) (Nat.le_refl _) (.int .i64 0) (.int .i64 0) (.int .u64 0) (.int .i64 0) (.int .i64 0) (.int .i64 0) (.int .u64 0) (.int .i64 0) (.int .i64 0) (.int .i64 0) (.int .i64 0) (.slice none 0 0) (.int .u64 0) (.int .i64 0))
  unfold put14 at hp hq
  obtain ⟨p0, p1, p2, p3, p4, p5, p6, p7, p8, p9, p10, p11, p12, p13⟩ := rep_at hp
  exact bodyPost_ret (v := .tuple #[.int .i64 1, .agg #[.int .i64 0, .int .i64 0, .int .u64 0, .int .i64 0, .int .i64 0, .int .i64 0, .int .u64 0, .int .i64 0, .int .i64 0, .int .i64 0, .int .i64 0, .slice none 0 0, .int .u64 0, .int .i64 0]]) (by simp [results, Try.results35, go_sem, p0, p1, p2, p3, p4, p5, p6, p7, p8, p9, p10, p11, p12, p13]) rfl ⟨rfl, hq⟩
set_option maxRecDepth 100000 in
set_option maxHeartbeats 8000000 in
theorem look_zero (T mb c : Nat) (M : Lit → Option Value) (cl q rq : Int) (cd tm id cn st lv ge fr lf du tl : Int) (a : Option Addr) (n ca : Nat) (nt de : Int) (w : World) (h : Tab w T mb c M) (hcl : 0 ≤ cl ∧ cl < 18446744073709551616) (hv : (M (.int .u64 cl)).getD (.agg #[.int .u64 0, .int .i64 0, .int .i64 0, .int .u64 0, .int .i64 0, .int .i64 0, .int .i64 0, .int .u64 0, .int .i64 0, .int .i64 0, .int .i64 0, .int .i64 0, .slice none 0 0, .int .u64 0, .int .i64 0]) = .agg #[.int .u64 q, .int .i64 cd, .int .i64 tm, .int .u64 id, .int .i64 cn, .int .i64 st, .int .i64 lv, .int .u64 ge, .int .i64 fr, .int .i64 lf, .int .i64 du, .int .i64 tl, .slice a n ca, .int .u64 nt, .int .i64 de]) (hq : rq = q) (h0 : rq = 0) :
    Calls Try.prog 35 #[.pointer (some ⟨T, 0, none⟩), .int .u64 cl, .int .u64 rq] w fun e w' => e = .returned (.tuple #[.int .i64 3, .agg #[.int .i64 0, .int .i64 0, .int .u64 0, .int .i64 0, .int .i64 0, .int .i64 0, .int .u64 0, .int .i64 0, .int .i64 0, .int .i64 0, .int .i64 0, .slice none 0 0, .int .u64 0, .int .i64 0]]) ∧ Below w.heap.size w w' := by
  have d1 : decide (q < rq) = false := decide_eq_false (by omega)
  have d2 : decide (rq = q) = true := decide_eq_true hq
  have d3 : decide (0 < rq) = false := decide_eq_false (by omega)
  obtain ⟨B1, s0, sz⟩ := box1 w #[.int .i64 0, .int .i64 0, .int .u64 0, .int .i64 0, .int .i64 0, .int .i64 0, .int .u64 0, .int .i64 0, .int .i64 0, .int .i64 0, .int .i64 0, .slice none 0 0, .int .u64 0, .int .i64 0] 28
  have h1 := h.kept B1
  have HL := Lib.hid (last_any T mb c M cl q cd tm id cn st lv ge fr lf du tl a n ca nt de _ h1 hcl hv)
  have HT := Lib.hid h1
  have HB := Lib.hid B1
  have HS := Lib.hid s0
  clear h h1 B1 s0 sz hv
  go_enter Try.func35, Try.ntmps35
  go_wp2_with fail
  generalize w.alloc (.cells #[.int .i64 0, .int .i64 0, .int .u64 0, .int .i64 0, .int .i64 0, .int .i64 0, .int .u64 0, .int .i64 0, .int .i64 0, .int .i64 0, .int .i64 0, .slice none 0 0, .int .u64 0, .int .i64 0] 28) = W0 at HL HT HB HS ⊢
  refine HL.out.mono ?_
  rintro e w1 ⟨rfl, hb⟩
  obtain ⟨B2, s2, z2⟩ := box1 w1 #[.int .u64 q, .int .i64 cd, .int .i64 tm, .int .u64 id, .int .i64 cn, .int .i64 st, .int .i64 lv, .int .u64 ge, .int .i64 fr, .int .i64 lf, .int .i64 du, .int .i64 tl, .slice a n ca, .int .u64 nt, .int .i64 de] 113
  obtain ⟨B3, s3, z3⟩ := box1 w1 #[.int .u64 0, .int .i64 0, .int .i64 0, .int .u64 0, .int .i64 0, .int .i64 0, .int .i64 0, .int .u64 0, .int .i64 0, .int .i64 0, .int .i64 0, .int .i64 0, .slice none 0 0, .int .u64 0, .int .i64 0] 113
  have HT1 := Lib.hid (HT.out.kept (hb.trans (B2.mono hb.size)))
  have HB1 := Lib.hid (HB.out.trans ((hb.trans (B2.mono hb.size)).mono HB.out.size))
  have HS1 := Lib.hid (ex_below HS.out (hb.trans (B2.mono hb.size)))
  have HQ := Lib.hid s2
  have HCR := Lib.hid (created_yes T mb c M _ HT1.out)
  obtain ⟨t0, t1, t2, t3, t4, t5, t6, t7, t8, t9, t10, t11, t12, t13, t14⟩ := rq_at s3
  have tf := rq_fr s3
  clear hb B2 s2 z2 B3 s3 z3 HT HB HS HL
  go_wp2_with fail
  clear t0 t1 t2 t3 t4 t5 t6 t7 t8 t9 t10 t11 t12 t13 t14 tf
  obtain ⟨G, hG⟩ : ∃ y, w1.heap.size = y := ⟨_, rfl⟩
  rw [hG] at HQ
  try rw [hG]
  clear hG
  generalize w1.alloc (.cells #[.int .u64 q, .int .i64 cd, .int .i64 tm, .int .u64 id, .int .i64 cn, .int .i64 st, .int .i64 lv, .int .u64 ge, .int .i64 fr, .int .i64 lf, .int .i64 du, .int .i64 tl, .slice a n ca, .int .u64 nt, .int .i64 de] 113) = W2 at HT1 HB1 HS1 HQ HCR ⊢
  refine HCR.out.mono ?_
  rintro e w3 ⟨rfl, rfl⟩
  obtain ⟨q0, q1, q2, q3, q4, q5, q6, q7, q8, q9, q10, q11, q12, q13, q14⟩ := rq_at HQ.out
  obtain ⟨r0, r1, r2, r3, r4, r5, r6, r7, r8, r9, r10, r11, r12, r13⟩ := rep_at HS1.out
  have rf := rep_fr HS1.out
  clear HCR
  go_wp2_with fail
  clear q0 q1 q2 q3 q4 q5 q6 q7 q8 q9 q10 q11 q12 q13 q14 r0 r1 r2 r3 r4 r5 r6 r7 r8 r9 r10 r11 r12 r13 rf
  have hp := put14_at HS1.out (.int .i64 0) (.int .i64 0) (.int .u64 0) (.int .i64 0) (.int .i64 0) (.int .i64 0) (.int .u64 0) (.int .i64 0) (.int .i64 0) (.int .i64 0) (.int .i64 0) (.slice none 0 0) (.int .u64 0) (.int .i64 0)
  have hq := HB1.out.trans (put14_below (B := w.heap.size) W2 (N := w.heap.size) (Nat.le_refl _) (.int .i64 0) (.int .i64 0) (.int .u64 0) (.int .i64 0) (.int .i64 0) (.int .i64 0) (.int .u64 0) (.int .i64 0) (.int .i64 0) (.int .i64 0) (.int .i64 0) (.slice none 0 0) (.int .u64 0) (.int .i64 0))
  unfold put14 at hp hq
  obtain ⟨p0, p1, p2, p3, p4, p5, p6, p7, p8, p9, p10, p11, p12, p13⟩ := rep_at hp
  exact bodyPost_ret (v := .tuple #[.int .i64 3, .agg #[.int .i64 0, .int .i64 0, .int .u64 0, .int .i64 0, .int .i64 0, .int .i64 0, .int .u64 0, .int .i64 0, .int .i64 0, .int .i64 0, .int .i64 0, .slice none 0 0, .int .u64 0, .int .i64 0]]) (by simp [results, Try.results35, go_sem, p0, p1, p2, p3, p4, p5, p6, p7, p8, p9, p10, p11, p12, p13]) rfl ⟨rfl, hq⟩
set_option maxRecDepth 100000 in
set_option maxHeartbeats 8000000 in
theorem look_old (T mb c : Nat) (M : Lit → Option Value) (cl q rq : Int) (cd tm id cn st lv ge fr lf du tl : Int) (a : Option Addr) (n ca : Nat) (nt de : Int) (w : World) (h : Tab w T mb c M) (hcl : 0 ≤ cl ∧ cl < 18446744073709551616) (hv : (M (.int .u64 cl)).getD (.agg #[.int .u64 0, .int .i64 0, .int .i64 0, .int .u64 0, .int .i64 0, .int .i64 0, .int .i64 0, .int .u64 0, .int .i64 0, .int .i64 0, .int .i64 0, .int .i64 0, .slice none 0 0, .int .u64 0, .int .i64 0]) = .agg #[.int .u64 q, .int .i64 cd, .int .i64 tm, .int .u64 id, .int .i64 cn, .int .i64 st, .int .i64 lv, .int .u64 ge, .int .i64 fr, .int .i64 lf, .int .i64 du, .int .i64 tl, .slice a n ca, .int .u64 nt, .int .i64 de]) (hq : rq < q) :
    Calls Try.prog 35 #[.pointer (some ⟨T, 0, none⟩), .int .u64 cl, .int .u64 rq] w fun e w' => e = .returned (.tuple #[.int .i64 3, .agg #[.int .i64 0, .int .i64 0, .int .u64 0, .int .i64 0, .int .i64 0, .int .i64 0, .int .u64 0, .int .i64 0, .int .i64 0, .int .i64 0, .int .i64 0, .slice none 0 0, .int .u64 0, .int .i64 0]]) ∧ Below w.heap.size w w' := by
  have d1 : decide (q < rq) = false := decide_eq_false (by omega)
  have d2 : decide (rq = q) = false := decide_eq_false (by omega)
  obtain ⟨B1, s0, sz⟩ := box1 w #[.int .i64 0, .int .i64 0, .int .u64 0, .int .i64 0, .int .i64 0, .int .i64 0, .int .u64 0, .int .i64 0, .int .i64 0, .int .i64 0, .int .i64 0, .slice none 0 0, .int .u64 0, .int .i64 0] 28
  have h1 := h.kept B1
  have HL := Lib.hid (last_any T mb c M cl q cd tm id cn st lv ge fr lf du tl a n ca nt de _ h1 hcl hv)
  have HT := Lib.hid h1
  have HB := Lib.hid B1
  have HS := Lib.hid s0
  clear h h1 B1 s0 sz hv
  go_enter Try.func35, Try.ntmps35
  go_wp2_with fail
  generalize w.alloc (.cells #[.int .i64 0, .int .i64 0, .int .u64 0, .int .i64 0, .int .i64 0, .int .i64 0, .int .u64 0, .int .i64 0, .int .i64 0, .int .i64 0, .int .i64 0, .slice none 0 0, .int .u64 0, .int .i64 0] 28) = W0 at HL HT HB HS ⊢
  refine HL.out.mono ?_
  rintro e w1 ⟨rfl, hb⟩
  obtain ⟨B2, s2, z2⟩ := box1 w1 #[.int .u64 q, .int .i64 cd, .int .i64 tm, .int .u64 id, .int .i64 cn, .int .i64 st, .int .i64 lv, .int .u64 ge, .int .i64 fr, .int .i64 lf, .int .i64 du, .int .i64 tl, .slice a n ca, .int .u64 nt, .int .i64 de] 113
  obtain ⟨B3, s3, z3⟩ := box1 w1 #[.int .u64 0, .int .i64 0, .int .i64 0, .int .u64 0, .int .i64 0, .int .i64 0, .int .i64 0, .int .u64 0, .int .i64 0, .int .i64 0, .int .i64 0, .int .i64 0, .slice none 0 0, .int .u64 0, .int .i64 0] 113
  have HT1 := Lib.hid (HT.out.kept (hb.trans (B2.mono hb.size)))
  have HB1 := Lib.hid (HB.out.trans ((hb.trans (B2.mono hb.size)).mono HB.out.size))
  have HS1 := Lib.hid (ex_below HS.out (hb.trans (B2.mono hb.size)))
  have HQ := Lib.hid s2
  have HCR := Lib.hid (created_yes T mb c M _ HT1.out)
  obtain ⟨t0, t1, t2, t3, t4, t5, t6, t7, t8, t9, t10, t11, t12, t13, t14⟩ := rq_at s3
  have tf := rq_fr s3
  clear hb B2 s2 z2 B3 s3 z3 HT HB HS HL
  go_wp2_with fail
  clear t0 t1 t2 t3 t4 t5 t6 t7 t8 t9 t10 t11 t12 t13 t14 tf
  obtain ⟨G, hG⟩ : ∃ y, w1.heap.size = y := ⟨_, rfl⟩
  rw [hG] at HQ
  try rw [hG]
  clear hG
  generalize w1.alloc (.cells #[.int .u64 q, .int .i64 cd, .int .i64 tm, .int .u64 id, .int .i64 cn, .int .i64 st, .int .i64 lv, .int .u64 ge, .int .i64 fr, .int .i64 lf, .int .i64 du, .int .i64 tl, .slice a n ca, .int .u64 nt, .int .i64 de] 113) = W2 at HT1 HB1 HS1 HQ HCR ⊢
  refine HCR.out.mono ?_
  rintro e w3 ⟨rfl, rfl⟩
  obtain ⟨q0, q1, q2, q3, q4, q5, q6, q7, q8, q9, q10, q11, q12, q13, q14⟩ := rq_at HQ.out
  obtain ⟨r0, r1, r2, r3, r4, r5, r6, r7, r8, r9, r10, r11, r12, r13⟩ := rep_at HS1.out
  have rf := rep_fr HS1.out
  clear HCR
  go_wp2_with fail
  clear q0 q1 q2 q3 q4 q5 q6 q7 q8 q9 q10 q11 q12 q13 q14 r0 r1 r2 r3 r4 r5 r6 r7 r8 r9 r10 r11 r12 r13 rf
  have hp := put14_at HS1.out (.int .i64 0) (.int .i64 0) (.int .u64 0) (.int .i64 0) (.int .i64 0) (.int .i64 0) (.int .u64 0) (.int .i64 0) (.int .i64 0) (.int .i64 0) (.int .i64 0) (.slice none 0 0) (.int .u64 0) (.int .i64 0)
  have hq := HB1.out.trans (put14_below (B := w.heap.size) W2 (N := w.heap.size) (Nat.le_refl _) (.int .i64 0) (.int .i64 0) (.int .u64 0) (.int .i64 0) (.int .i64 0) (.int .i64 0) (.int .u64 0) (.int .i64 0) (.int .i64 0) (.int .i64 0) (.int .i64 0) (.slice none 0 0) (.int .u64 0) (.int .i64 0))
  unfold put14 at hp hq
  obtain ⟨p0, p1, p2, p3, p4, p5, p6, p7, p8, p9, p10, p11, p12, p13⟩ := rep_at hp
  exact bodyPost_ret (v := .tuple #[.int .i64 3, .agg #[.int .i64 0, .int .i64 0, .int .u64 0, .int .i64 0, .int .i64 0, .int .i64 0, .int .u64 0, .int .i64 0, .int .i64 0, .int .i64 0, .int .i64 0, .slice none 0 0, .int .u64 0, .int .i64 0]]) (by simp [results, Try.results35, go_sem, p0, p1, p2, p3, p4, p5, p6, p7, p8, p9, p10, p11, p12, p13]) rfl ⟨rfl, hq⟩
set_option maxRecDepth 100000 in
set_option maxHeartbeats 8000000 in
theorem look_again (T mb c : Nat) (M : Lit → Option Value) (cl q rq : Int) (cd tm id cn st lv ge fr lf du tl : Int) (a : Option Addr) (n ca : Nat) (nt de : Int) (w : World) (h : Tab w T mb c M) (hcl : 0 ≤ cl ∧ cl < 18446744073709551616) (hv : (M (.int .u64 cl)).getD (.agg #[.int .u64 0, .int .i64 0, .int .i64 0, .int .u64 0, .int .i64 0, .int .i64 0, .int .i64 0, .int .u64 0, .int .i64 0, .int .i64 0, .int .i64 0, .int .i64 0, .slice none 0 0, .int .u64 0, .int .i64 0]) = .agg #[.int .u64 q, .int .i64 cd, .int .i64 tm, .int .u64 id, .int .i64 cn, .int .i64 st, .int .i64 lv, .int .u64 ge, .int .i64 fr, .int .i64 lf, .int .i64 du, .int .i64 tl, .slice a n ca, .int .u64 nt, .int .i64 de]) (xs : List Nat) (hU : Us w a n xs) (hn : n ≤ 100000) (hq : rq = q) (h0 : 0 < rq) :
    Calls Try.prog 35 #[.pointer (some ⟨T, 0, none⟩), .int .u64 cl, .int .u64 rq] w fun e w' => ∃ a' ca', e = .returned (.tuple #[.int .i64 2, repV cd tm id cn st lv ge fr lf du tl a' n ca' nt de]) ∧ OU w' w.heap.size (.slice a' n ca') xs ∧ Below w.heap.size w w' := by
  have d1 : decide (q < rq) = false := decide_eq_false (by omega)
  have d2 : decide (rq = q) = true := decide_eq_true hq
  have d3 : decide (0 < rq) = true := decide_eq_true h0
  have HU : Hid (∀ W, Below w.heap.size w W → Us W a n xs) := Lib.hid (fun W hb => hU.kept hb)
  have HN := Lib.hid hn
  have HLN := Lib.hid hU.1
  have HX : Hid (∀ y ∈ xs, y < 18446744073709551616) := Lib.hid hU.2.2.1
  clear hU hn
  obtain ⟨B1, s0, sz⟩ := box1 w #[.int .i64 0, .int .i64 0, .int .u64 0, .int .i64 0, .int .i64 0, .int .i64 0, .int .u64 0, .int .i64 0, .int .i64 0, .int .i64 0, .int .i64 0, .slice none 0 0, .int .u64 0, .int .i64 0] 28
  have h1 := h.kept B1
  have HL := Lib.hid (last_any T mb c M cl q cd tm id cn st lv ge fr lf du tl a n ca nt de _ h1 hcl hv)
  have HT := Lib.hid h1
  have HB := Lib.hid B1
  have HS := Lib.hid s0
  clear h h1 B1 s0 sz hv
  go_enter Try.func35, Try.ntmps35
  go_wp2_with fail
  generalize w.alloc (.cells #[.int .i64 0, .int .i64 0, .int .u64 0, .int .i64 0, .int .i64 0, .int .i64 0, .int .u64 0, .int .i64 0, .int .i64 0, .int .i64 0, .int .i64 0, .slice none 0 0, .int .u64 0, .int .i64 0] 28) = W0 at HL HT HB HS ⊢
  refine HL.out.mono ?_
  rintro e w1 ⟨rfl, hb⟩
  obtain ⟨B2, s2, z2⟩ := box1 w1 #[.int .u64 q, .int .i64 cd, .int .i64 tm, .int .u64 id, .int .i64 cn, .int .i64 st, .int .i64 lv, .int .u64 ge, .int .i64 fr, .int .i64 lf, .int .i64 du, .int .i64 tl, .slice a n ca, .int .u64 nt, .int .i64 de] 113
  obtain ⟨B3, s3, z3⟩ := box1 w1 #[.int .u64 0, .int .i64 0, .int .i64 0, .int .u64 0, .int .i64 0, .int .i64 0, .int .i64 0, .int .u64 0, .int .i64 0, .int .i64 0, .int .i64 0, .int .i64 0, .slice none 0 0, .int .u64 0, .int .i64 0] 113
  have HT1 := Lib.hid (HT.out.kept (hb.trans (B2.mono hb.size)))
  have HB1 := Lib.hid (HB.out.trans ((hb.trans (B2.mono hb.size)).mono HB.out.size))
  have HS1 := Lib.hid (ex_below HS.out (hb.trans (B2.mono hb.size)))
  have HQ := Lib.hid s2
  have HCR := Lib.hid (created_yes T mb c M _ HT1.out)
  obtain ⟨t0, t1, t2, t3, t4, t5, t6, t7, t8, t9, t10, t11, t12, t13, t14⟩ := rq_at s3
  have tf := rq_fr s3
  clear hb B2 s2 z2 B3 s3 z3 HT HB HS HL
  go_wp2_with fail
  clear t0 t1 t2 t3 t4 t5 t6 t7 t8 t9 t10 t11 t12 t13 t14 tf
  obtain ⟨G, hG⟩ : ∃ y, w1.heap.size = y := ⟨_, rfl⟩
  rw [hG] at HQ
  try rw [hG]
  clear hG
  generalize w1.alloc (.cells #[.int .u64 q, .int .i64 cd, .int .i64 tm, .int .u64 id, .int .i64 cn, .int .i64 st, .int .i64 lv, .int .u64 ge, .int .i64 fr, .int .i64 lf, .int .i64 du, .int .i64 tl, .slice a n ca, .int .u64 nt, .int .i64 de] 113) = W2 at HT1 HB1 HS1 HQ HCR ⊢
  refine HCR.out.mono ?_
  rintro e w3 ⟨rfl, rfl⟩
  obtain ⟨q0, q1, q2, q3, q4, q5, q6, q7, q8, q9, q10, q11, q12, q13, q14⟩ := rq_at HQ.out
  obtain ⟨r0, r1, r2, r3, r4, r5, r6, r7, r8, r9, r10, r11, r12, r13⟩ := rep_at HS1.out
  have rf := rep_fr HS1.out
  clear HCR
  go_wp2_with fail
  refine (copy_any cd tm id cn st lv ge fr lf du tl a n ca nt de xs W2 (HU.out _ HB1.out) HN.out).mono ?_
  rintro e w4 ⟨a', ca', rfl, ho, hb⟩
  rw [HLN.out] at ho ⊢
  have HO := Lib.hid ho
  have HB4 := Lib.hid (HB1.out.trans (hb.mono HB1.out.size))
  have HS4 := Lib.hid (ex_below HS1.out hb)
  have HLT : Hid (w.heap.size < W2.heap.size) := Lib.hid (ex_lt HS1.out)
  clear q0 q1 q2 q3 q4 q5 q6 q7 q8 q9 q10 q11 q12 q13 q14 r0 r1 r2 r3 r4 r5 r6 r7 r8 r9 r10 r11 r12 r13 rf hb ho HS1 HB1 HT1 HQ
  obtain ⟨r0, r1, r2, r3, r4, r5, r6, r7, r8, r9, r10, r11, r12, r13⟩ := rep_at HS4.out
  have rf := rep_fr HS4.out
  unfold repV
  go_wp2_with fail
  clear r0 r1 r2 r3 r4 r5 r6 r7 r8 r9 r10 r11 r12 r13 rf
  have hp := put14_at HS4.out (.int .i64 cd) (.int .i64 tm) (.int .u64 id) (.int .i64 cn) (.int .i64 st) (.int .i64 lv) (.int .u64 ge) (.int .i64 fr) (.int .i64 lf) (.int .i64 du) (.int .i64 tl) (.slice a' n ca') (.int .u64 nt) (.int .i64 de)
  have hq' := HB4.out.trans (put14_below (B := w.heap.size) w4 (N := w.heap.size) (Nat.le_refl _) (.int .i64 cd) (.int .i64 tm) (.int .u64 id) (.int .i64 cn) (.int .i64 st) (.int .i64 lv) (.int .u64 ge) (.int .i64 fr) (.int .i64 lf) (.int .i64 du) (.int .i64 tl) (.slice a' n ca') (.int .u64 nt) (.int .i64 de))
  have ho : OU (put14 w4 w.heap.size (.int .i64 cd) (.int .i64 tm) (.int .u64 id) (.int .i64 cn) (.int .i64 st) (.int .i64 lv) (.int .u64 ge) (.int .i64 fr) (.int .i64 lf) (.int .i64 du) (.int .i64 tl) (.slice a' n ca') (.int .u64 nt) (.int .i64 de)) W2.heap.size (.slice a' n ca') xs := by
    unfold put14
    have hlt := HLT.out
    exact ((((((((((((((HO.out.set (p := ⟨_, 0, none⟩) hlt _).set (p := ⟨_, 1, none⟩) hlt _).set (p := ⟨_, 2, none⟩) hlt _).set (p := ⟨_, 3, none⟩) hlt _).set (p := ⟨_, 4, none⟩) hlt _).set (p := ⟨_, 5, none⟩) hlt _).set (p := ⟨_, 6, none⟩) hlt _).set (p := ⟨_, 7, none⟩) hlt _).set (p := ⟨_, 8, none⟩) hlt _).set (p := ⟨_, 9, none⟩) hlt _).set (p := ⟨_, 10, none⟩) hlt _).set (p := ⟨_, 11, none⟩) hlt _).set (p := ⟨_, 12, none⟩) hlt _).set (p := ⟨_, 13, none⟩) hlt _)
  have hfin : ∃ a2 c2, Ending.returned (.tuple #[.int .i64 2, .agg #[.int .i64 cd, .int .i64 tm, .int .u64 id, .int .i64 cn, .int .i64 st, .int .i64 lv, .int .u64 ge, .int .i64 fr, .int .i64 lf, .int .i64 du, .int .i64 tl, .slice a' n ca', .int .u64 nt, .int .i64 de]]) = .returned (.tuple #[.int .i64 2, repV cd tm id cn st lv ge fr lf du tl a2 n c2 nt de]) ∧ OU (put14 w4 w.heap.size (.int .i64 cd) (.int .i64 tm) (.int .u64 id) (.int .i64 cn) (.int .i64 st) (.int .i64 lv) (.int .u64 ge) (.int .i64 fr) (.int .i64 lf) (.int .i64 du) (.int .i64 tl) (.slice a' n ca') (.int .u64 nt) (.int .i64 de)) w.heap.size (.slice a2 n c2) xs ∧ Below w.heap.size w (put14 w4 w.heap.size (.int .i64 cd) (.int .i64 tm) (.int .u64 id) (.int .i64 cn) (.int .i64 st) (.int .i64 lv) (.int .u64 ge) (.int .i64 fr) (.int .i64 lf) (.int .i64 du) (.int .i64 tl) (.slice a' n ca') (.int .u64 nt) (.int .i64 de)) := ⟨a', ca', rfl, ho.mono (Nat.le_of_lt HLT.out), hq'⟩
  unfold put14 at hp hfin
  obtain ⟨p0, p1, p2, p3, p4, p5, p6, p7, p8, p9, p10, p11, p12, p13⟩ := rep_at hp
  exact bodyPost_ret (v := .tuple #[.int .i64 2, .agg #[.int .i64 cd, .int .i64 tm, .int .u64 id, .int .i64 cn, .int .i64 st, .int .i64 lv, .int .u64 ge, .int .i64 fr, .int .i64 lf, .int .i64 du, .int .i64 tl, .slice a' n ca', .int .u64 nt, .int .i64 de]]) (by simp [results, Try.results35, go_sem, p0, p1, p2, p3, p4, p5, p6, p7, p8, p9, p10, p11, p12, p13]) rfl hfin
end Go.Proofs.Ytnhaakdjijjinaa

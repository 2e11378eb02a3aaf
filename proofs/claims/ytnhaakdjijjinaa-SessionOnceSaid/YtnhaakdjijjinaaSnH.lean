/- Session: nothing is new twice (the walk of the law). -/
import Derived.Test.YtnhaakdjijjinaaSnG
import Derived.Deep.QuietTactic
namespace Go.Proofs.Ytnhaakdjijjinaa
open Go.RowKit Go.Maps
theorem two_at {w : World} {N : Nat} {x y : Value} {t : TypeId} (h : w.heap[N]? = some (.cells #[x, y] t (0, 0))) : w.cell? ⟨N, 0, none⟩ = some x ∧ w.cell? ⟨N, 1, none⟩ = some y := by
  simp [World.cell?, h]
theorem two_fr {w : World} {N : Nat} {x y : Value} {t : TypeId} (h : w.heap[N]? = some (.cells #[x, y] t (0, 0))) : ∀ o, w.frozen? ⟨N, o, none⟩ = false := by
  simp [World.frozen?, h]
theorem op_field2 (y0 y1 q : Int) (cd tm id cn st lv ge fr lf du tl : Int) (a : Option Addr) (n ca : Nat) (nt de : Int) (w : World) : (Instr.field 64 (.agg #[.int .i64 y0, .int .u64 y1, .int .u64 q, .int .i64 cd, .int .i64 tm, .int .u64 id, .int .i64 cn, .int .i64 st, .int .i64 lv, .int .u64 ge, .int .i64 fr, .int .i64 lf, .int .i64 du, .int .i64 tl, .slice a n ca, .int .u64 nt, .int .i64 de]) 2).run Try.prog w = .ok (.int .u64 q) w := by kernel_rfl
theorem op_field3 (y0 y1 q : Int) (cd tm id cn st lv ge fr lf du tl : Int) (a : Option Addr) (n ca : Nat) (nt de : Int) (w : World) : (Instr.field 64 (.agg #[.int .i64 y0, .int .u64 y1, .int .u64 q, .int .i64 cd, .int .i64 tm, .int .u64 id, .int .i64 cn, .int .i64 st, .int .i64 lv, .int .u64 ge, .int .i64 fr, .int .i64 lf, .int .i64 du, .int .i64 tl, .slice a n ca, .int .u64 nt, .int .i64 de]) 3).run Try.prog w = .ok (.agg #[.int .i64 cd, .int .i64 tm, .int .u64 id, .int .i64 cn, .int .i64 st, .int .i64 lv, .int .u64 ge, .int .i64 fr, .int .i64 lf, .int .i64 du, .int .i64 tl, .slice a n ca, .int .u64 nt, .int .i64 de]) w := by kernel_rfl
theorem op_zero (w : World) : (zeroValue 64).run Try.prog w = .ok (.agg #[.int .i64 0, .int .u64 0, .int .u64 0, .int .i64 0, .int .i64 0, .int .u64 0, .int .i64 0, .int .i64 0, .int .i64 0, .int .u64 0, .int .i64 0, .int .i64 0, .int .i64 0, .int .i64 0, .slice none 0 0, .int .u64 0, .int .i64 0]) w := Try.zeroValue64 w
theorem bool_zero (w : World) : (zeroValue 4).run Try.prog w = .ok (.bool false) w := by kernel_rfl
theorem und_done : Try.prog.underlying 71 = some (.map 73 4) := Try.underlying71
theorem und_ops : Try.prog.underlying 72 = some (.map 23 64) := Try.underlying72
theorem done_fail (T mb c : Nat) (M : Lit → Option Value) (cl rq : Int) (cd tm id cn st lv ge fr lf du tl : Int) (a : Option Addr) (n ca : Nat) (nt de : Int) (w : World) (h : Tab w T mb c M) (q : Int) (cd1 tm1 id1 cn1 st1 lv1 ge1 fr1 lf1 du1 tl1 : Int) (a1 : Option Addr) (n1 ca1 : Nat) (nt1 de1 : Int) (hv : (M (.int .u64 cl)).getD (.agg #[.int .u64 0, .int .i64 0, .int .i64 0, .int .u64 0, .int .i64 0, .int .i64 0, .int .i64 0, .int .u64 0, .int .i64 0, .int .i64 0, .int .i64 0, .int .i64 0, .slice none 0 0, .int .u64 0, .int .i64 0]) = .agg #[.int .u64 q, .int .i64 cd1, .int .i64 tm1, .int .u64 id1, .int .i64 cn1, .int .i64 st1, .int .i64 lv1, .int .u64 ge1, .int .i64 fr1, .int .i64 lf1, .int .i64 du1, .int .i64 tl1, .slice a1 n1 ca1, .int .u64 nt1, .int .i64 de1]) (hfr : fr ≤ 9223372036854775807) (hq : rq ≤ q) : Calls Try.prog 36 #[.pointer (some ⟨T, 0, none⟩), .int .u64 cl, .int .u64 rq, repV cd tm id cn st lv ge fr lf du tl a n ca nt de] w fun e w' => ∃ f : Int, f ≠ 0 ∧ e = .returned (.int .i64 f) ∧ Below w.heap.size w w' := by
  by_cases h1 : cl < 1
  · exact (done_lo T mb c M cl rq cd tm id cn st lv ge fr lf du tl a n ca nt de w h h1).mono fun e w' hh => ⟨2, by decide, hh⟩
  by_cases h2 : 8 < cl
  · exact (done_hi T mb c M cl rq cd tm id cn st lv ge fr lf du tl a n ca nt de w h h2).mono fun e w' hh => ⟨2, by decide, hh⟩
  cases hs : repS cd tm id cn st lv ge fr lf du tl n de with
  | false => exact (done_bad T mb c M cl rq cd tm id cn st lv ge fr lf du tl a n ca nt de w h (by omega) hfr hs).mono fun e w' hh => ⟨2, by decide, hh⟩
  | true => exact (done_old T mb c M cl rq cd tm id cn st lv ge fr lf du tl a n ca nt de w h q cd1 tm1 id1 cn1 st1 lv1 ge1 fr1 lf1 du1 tl1 a1 n1 ca1 nt1 de1 hv (by omega) hfr hs hq).mono fun e w' hh => ⟨34, by decide, hh⟩
theorem done_both (T mb c : Nat) (M : Lit → Option Value) (cl rq : Int) (cd tm id cn st lv ge fr lf du tl : Int) (a : Option Addr) (n ca : Nat) (nt de : Int) (w : World) (h : Tab w T mb c M) (q : Int) (cd1 tm1 id1 cn1 st1 lv1 ge1 fr1 lf1 du1 tl1 : Int) (a1 : Option Addr) (n1 ca1 : Nat) (nt1 de1 : Int) (hv : (M (.int .u64 cl)).getD (.agg #[.int .u64 0, .int .i64 0, .int .i64 0, .int .u64 0, .int .i64 0, .int .i64 0, .int .i64 0, .int .u64 0, .int .i64 0, .int .i64 0, .int .i64 0, .int .i64 0, .slice none 0 0, .int .u64 0, .int .i64 0]) = .agg #[.int .u64 q, .int .i64 cd1, .int .i64 tm1, .int .u64 id1, .int .i64 cn1, .int .i64 st1, .int .i64 lv1, .int .u64 ge1, .int .i64 fr1, .int .i64 lf1, .int .i64 du1, .int .i64 tl1, .slice a1 n1 ca1, .int .u64 nt1, .int .i64 de1]) (hfr : fr ≤ 9223372036854775807) (xs : List Nat) (hU : Us w a n xs) (hn : n ≤ 100000) (hcm : c < maxLen) (hq : q < rq) : Calls Try.prog 36 #[.pointer (some ⟨T, 0, none⟩), .int .u64 cl, .int .u64 rq, repV cd tm id cn st lv ge fr lf du tl a n ca nt de] w fun e w' => (∃ f : Int, f ≠ 0 ∧ e = .returned (.int .i64 f) ∧ Below w.heap.size w w') ∨ (e = .returned (.int .i64 0) ∧ ∃ ac cc M', Tab w' T mb (upC M (.int .u64 cl) c) M' ∧ (M' (.int .u64 cl) = some (.agg #[.int .u64 rq, .int .i64 cd, .int .i64 tm, .int .u64 id, .int .i64 cn, .int .i64 st, .int .i64 lv, .int .u64 ge, .int .i64 fr, .int .i64 lf, .int .i64 du, .int .i64 tl, .slice ac n cc, .int .u64 nt, .int .i64 de]) ∧ ∀ x, x ≠ .int .u64 cl → M' x = M x) ∧ OU w' w.heap.size (.slice ac n cc) xs ∧ w.grownBy w' (some mb)) := by
  by_cases h1 : cl < 1
  · exact (done_lo T mb c M cl rq cd tm id cn st lv ge fr lf du tl a n ca nt de w h h1).mono fun e w' hh => .inl ⟨2, by decide, hh⟩
  by_cases h2 : 8 < cl
  · exact (done_hi T mb c M cl rq cd tm id cn st lv ge fr lf du tl a n ca nt de w h h2).mono fun e w' hh => .inl ⟨2, by decide, hh⟩
  cases hs : repS cd tm id cn st lv ge fr lf du tl n de with
  | false => exact (done_bad T mb c M cl rq cd tm id cn st lv ge fr lf du tl a n ca nt de w h (by omega) hfr hs).mono fun e w' hh => .inl ⟨2, by decide, hh⟩
  | true => exact (done_ok T mb c M cl rq cd tm id cn st lv ge fr lf du tl a n ca nt de w h q cd1 tm1 id1 cn1 st1 lv1 ge1 fr1 lf1 du1 tl1 a1 n1 ca1 nt1 de1 hv xs hU (by omega) hn hcm hfr hs hq).mono fun e w' hh => .inr hh
set_option maxRecDepth 100000 in
set_option maxHeartbeats 8000000 in
theorem once_any (a0 : Option Addr) (len cap : Nat) (O : Nat → Opn) (w : World) (h : Ops w a0 len O) :
    Calls Try.prog 7 #[.slice a0 len cap] w fun e w' => e = .returned (.bool true) ∧ Below w.heap.size w w' := by
  have HO := Lib.hid h
  have hmm := @run_makeMap Try.prog
  clear h
  go_enter Try.func7, Try.ntmps7
  go_wp2_with fail
  refine (light20 a0 len cap O w HO.out).mono ?_
  rintro e w1 ⟨z, rfl, hz, hb⟩
  have HB1 := Lib.hid hb
  clear hb
  cases z
  case false =>
    clear hz
    go_wp2_with fail
    refine (lives20 _).mono ?_
    rintro e w2 ⟨rfl, hb⟩
    have HB2 := Lib.hid (HB1.out.trans (hb.mono HB1.out.size))
    clear hb
    go_wp2_with fail
    go_ret
    exact ⟨rfl, HB2.out⟩
  case true =>
  have HZ := Lib.hid (hz rfl)
  clear hz
  go_wp2_with fail
  refine (empty_any w1).mono ?_
  rintro e w2 ⟨T, mb, rfl, hT, hmb, ht, hb⟩
  have A1 : Below w2.heap.size w2 (w2.alloc (.map #[] 0)) := (Below.refl _ _).alloc (Nat.le_refl _) _
  have A2 : Below (w2.alloc (.map #[] 0)).heap.size (w2.alloc (.map #[] 0)) ((w2.alloc (.map #[] 0)).alloc (.map #[] 0)) := (Below.refl _ _).alloc (Nat.le_refl _) _
  have hB2 := HB1.out.trans (hb.mono HB1.out.size)
  have hs1 : (w2.alloc (.map #[] 0)).heap.size = w2.heap.size + 1 := by simp
  have HB2 := Lib.hid (hB2.trans ((A1.trans (A2.mono A1.size)).mono hB2.size))
  have hvm := VM.made 23 (w2.alloc (.map #[] 0))
  have HR := Lib.hid (show Rel ((w2.alloc (.map #[] 0)).alloc (.map #[] 0)) T mb w2.heap.size (w2.heap.size + 1) 0 (fun _ => none) (fun _ => none) (fun _ => none) 0 0 0 from ⟨(ht.kept A1).kept A2, (VM.made 73 w2).kept A2, by rw [← hs1]; exact hvm, ⟨Nat.le_refl _, Nat.le_refl _, Nat.le_refl _⟩, (fun l v h => by cases h), fun cl hcl => .inl ⟨rfl, fun _ _ _ => rfl⟩⟩)
  have HMM : Hid (w.heap.size ≤ mb ∧ mb < w2.heap.size ∧ T < w2.heap.size ∧ w.heap.size ≤ w2.heap.size ∧ w2.heap.size < w2.heap.size + 1) := Lib.hid ⟨Nat.le_trans HB1.out.size hmb, ht.2.lt, ex_lt ht.1, hB2.size, Nat.lt_succ_self _⟩
  clear hT hmb ht hb A1 A2 hB2 hvm
  go_wp2_with fail
  try rw [hs1]
  clear hs1
  generalize (w2.alloc (.map #[] 0)).alloc (.map #[] 0) = W3 at HB2 HR ⊢
  obtain ⟨m2, hm2⟩ : ∃ y, w2.heap.size + 1 = y := ⟨_, rfl⟩
  rw [hm2] at HR HMM ⊢
  clear hm2
  generalize w2.heap.size = m1 at HR HMM ⊢
  clear HB1
  go_loopw [21] (fun i wr => ∃ (k : Nat) (M D L : Lit → Option Value) (c c1 c2 : Nat), k ≤ len ∧ i = .int .i64 k ∧ Hid (Rel wr T mb m1 m2 k M D L c c1 c2) ∧ Hid (Below w.heap.size w wr)) (fun i _ => len - (intOf i).toNat)
  case atStart => exact ⟨0, _, _, _, 0, 0, 0, Nat.zero_le _, rfl, HR, HB2⟩
  case round =>
    clear HR HB2 W3
    obtain ⟨k, M, D, L, c, c1, c2, hk, rfl, HR, HB⟩ := hrel
    by_cases hlt : k < len
    · have h1 := HO.out.kept HB.out
      obtain ⟨ab, ao, rfl, hab, hcs⟩ := h1.2.1 (by omega)
      have hc := hcs k hlt
      unfold OpCells at hc
      have hin := h1.2.2 k hlt
      have hn2 := HZ.out.1 k hlt
      have hlen := HZ.out.2
      obtain ⟨x, hx⟩ : ∃ x, O k = x := ⟨_, rfl⟩
      rw [hx] at hc hin hn2
      obtain ⟨kd, cl, rq, cd, tm, id, cn, st, lv, ge, fr, lf, du, tl, a, n, ca, nt, de, xs⟩ := x
      clear hx
      dsimp only at hc hn2
      obtain ⟨q0, q1, q2, q3, q4, q5, q6, q7, q8, q9, q10, q11, q12, q13, q14, q15, q16⟩ := hc
      obtain ⟨q, cd1, tm1, id1, cn1, st1, lv1, ge1, fr1, lf1, du1, tl1, a1, n1, ca1, nt1, de1, xs1, hv, hU1, hn1, hDQ, hLQ⟩ := HR.out.last hin.2.1
      have HN2 := Lib.hid hn2
      have HN1 := Lib.hid hn1
      have HU1 := Lib.hid hU1
      have HDQ : Hid (∀ r l, q < r → keyOf Try.prog 73 (kA cl r) = some l → (D l).getD (.bool false) = .bool false) := Lib.hid hDQ
      have HLQ := Lib.hid hLQ
      have HXL : Hid (∀ y ∈ xs, y < 18446744073709551616) := Lib.hid hin.1.2.2.1
      have hkk := HR.out.2.2.2.1
      have HC0 : Hid (c < maxLen) := Lib.hid (by unfold maxLen; omega)
      have HCC : Hid (c1 < maxLen ∧ c2 < maxLen) := Lib.hid (by unfold maxLen; omega)
      have k0 : (0 : Int) ≤ (k : Int) := by omega
      have kl : (k : Int) < (len : Int) := by omega
      have d4 : decide ((k : Int) < (len : Int)) = true := by simp [hlt]
      have hw64 : wrap64 ((k : Int) + 1) = (k : Int) + 1 := IntWalk.wrap64_in _ (by omega)
      obtain ⟨P1, P2, P3, -⟩ := box2 wr #[.int .i64 kd, .int .u64 cl, .int .u64 rq, .int .i64 cd, .int .i64 tm, .int .u64 id, .int .i64 cn, .int .i64 st, .int .i64 lv, .int .u64 ge, .int .i64 fr, .int .i64 lf, .int .i64 du, .int .i64 tl, .slice a n ca, .int .u64 nt, .int .i64 de] #[.int .u64 cl, .int .u64 rq] 64 73
      obtain ⟨Y1, Y2, -⟩ := box1 wr #[.int .i64 0, .int .u64 0, .int .u64 0, .int .i64 0, .int .i64 0, .int .u64 0, .int .i64 0, .int .i64 0, .int .i64 0, .int .u64 0, .int .i64 0, .int .i64 0, .int .i64 0, .int .i64 0, .slice none 0 0, .int .u64 0, .int .i64 0] 64
      obtain ⟨X1, X2, -⟩ := box1 wr #[.int .i64 kd, .int .u64 cl, .int .u64 rq, .int .i64 cd, .int .i64 tm, .int .u64 id, .int .i64 cn, .int .i64 st, .int .i64 lv, .int .u64 ge, .int .i64 fr, .int .i64 lf, .int .i64 du, .int .i64 tl, .slice a n ca, .int .u64 nt, .int .i64 de] 64
      obtain ⟨-, U2, -⟩ := box1 (wr.alloc (.cells #[.int .i64 kd, .int .u64 cl, .int .u64 rq, .int .i64 cd, .int .i64 tm, .int .u64 id, .int .i64 cn, .int .i64 st, .int .i64 lv, .int .u64 ge, .int .i64 fr, .int .i64 lf, .int .i64 du, .int .i64 tl, .slice a n ca, .int .u64 nt, .int .i64 de] 64)) #[.int .u64 0, .int .u64 0] 73
      have e1 : (wr.alloc (.cells #[.int .i64 kd, .int .u64 cl, .int .u64 rq, .int .i64 cd, .int .i64 tm, .int .u64 id, .int .i64 cn, .int .i64 st, .int .i64 lv, .int .u64 ge, .int .i64 fr, .int .i64 lf, .int .i64 du, .int .i64 tl, .slice a n ca, .int .u64 nt, .int .i64 de] 64)).heap.size = wr.heap.size + 1 := by simp
      rw [e1] at U2
      obtain ⟨r0, r1, r2, r3, r4, r5, r6, r7, r8, r9, r10, r11, r12, r13, r14, r15, r16⟩ := op_at Y2
      have rf := op_fr Y2
      obtain ⟨s0, s1, s2, s3, s4, s5, s6, s7, s8, s9, s10, s11, s12, s13, s14, s15, s16⟩ := op_at X2
      obtain ⟨v0, v1⟩ := two_at U2
      have vf := two_fr U2
      obtain ⟨t0, t1, t2, t3, t4, t5, t6, t7, t8, t9, t10, t11, t12, t13, t14, t15, t16⟩ := op_at P2
      obtain ⟨G7, h7⟩ : ∃ y, wr.heap.size = y := ⟨_, rfl⟩
      have HGG : Hid (mb < G7 ∧ m1 < G7 ∧ m2 < G7 ∧ G7 < G7 + 1) := Lib.hid ⟨by rw [← h7]; exact HR.out.1.2.lt, by rw [← h7]; exact HR.out.2.1.lt, by rw [← h7]; exact HR.out.2.2.1.lt, Nat.lt_succ_self _⟩
      have HB38 := Lib.hid P1
      have HR8 := Lib.hid (HR.out.kept P1)
      have HB8 := Lib.hid (HB.out.trans (P1.mono HB.out.size))
      have HIN := Lib.hid (hin.kept P1)
      have HS7 := Lib.hid P2
      have HS8 := Lib.hid P3
      rw [h7] at HS7 HS8
      clear P1 P2 P3 Y1 Y2 X1 X2 U2 h1 hcs hab hin hn2 hn1 hU1 hDQ hLQ hkk HR HB hlen
      go_wp2_with fail
      try rw [h7]
      clear q0 q1 q2 q3 q4 q5 q6 q7 q8 q9 q10 q11 q12 q13 q14 q15 q16 r0 r1 r2 r3 r4 r5 r6 r7 r8 r9 r10 r11 r12 r13 r14 r15 r16 rf s0 s1 s2 s3 s4 s5 s6 s7 s8 s9 s10 s11 s12 s13 s14 s15 s16 v0 v1 vf t0 t1 t2 t3 t4 t5 t6 t7 t8 t9 t10 t11 t12 t13 t14 t15 t16 e1
      generalize (wr.alloc (.cells #[.int .i64 kd, .int .u64 cl, .int .u64 rq, .int .i64 cd, .int .i64 tm, .int .u64 id, .int .i64 cn, .int .i64 st, .int .i64 lv, .int .u64 ge, .int .i64 fr, .int .i64 lf, .int .i64 du, .int .i64 tl, .slice a n ca, .int .u64 nt, .int .i64 de] 64)).alloc (.cells #[.int .u64 cl, .int .u64 rq] 73) = W8 at HB38 HR8 HB8 HIN HS7 HS8 ⊢
      obtain ⟨G8, h8⟩ : ∃ y, G7 + 1 = y := ⟨_, rfl⟩
      rw [h8] at HS8 HGG ⊢
      clear h7 h8
      by_cases hq : q < rq
      · as_aux_lemma =>
          refine (look_new T mb c M cl q rq cd1 tm1 id1 cn1 st1 lv1 ge1 fr1 lf1 du1 tl1 a1 n1 ca1 nt1 de1 W8 HR8.out.1 HIN.out.2.1 hv hq).mono ?_
          rintro e w9 ⟨rfl, hb⟩
          obtain ⟨X1, X2, -⟩ := box1 w9 #[.int .i64 0, .int .i64 0, .int .u64 0, .int .i64 0, .int .i64 0, .int .i64 0, .int .u64 0, .int .i64 0, .int .i64 0, .int .i64 0, .int .i64 0, .slice none 0 0, .int .u64 0, .int .i64 0] 28
          obtain ⟨Y1, Y2, -⟩ := box1 w9 #[.int .i64 0, .int .i64 0, .int .u64 0, .int .i64 0, .int .i64 0, .int .i64 0, .int .u64 0, .int .i64 0, .int .i64 0, .int .i64 0, .int .i64 0, .slice none 0 0, .int .u64 0, .int .i64 0] 28
          have hb10 := hb.trans (X1.mono hb.size)
          have HR10 := Lib.hid (HR8.out.kept hb10)
          have HB10 := Lib.hid (HB8.out.trans (hb10.mono HB8.out.size))
          have HS7' := Lib.hid (ex_below HS7.out hb10)
          have HS8' := Lib.hid (ex_below HS8.out hb10)
          have HIN10 := Lib.hid (HIN.out.kept hb10)
          obtain ⟨t0, t1, t2, t3, t4, t5, t6, t7, t8, t9, t10, t11, t12, t13⟩ := rep_at Y2
          have tf := rep_fr Y2
          obtain ⟨p0, p1, p2, p3, p4, p5, p6, p7, p8, p9, p10, p11, p12, p13⟩ := rep_at X2
          obtain ⟨s0, s1, s2, s3, s4, s5, s6, s7, s8, s9, s10, s11, s12, s13, s14, s15, s16⟩ := op_at HS7'.out
          obtain ⟨z0, z1⟩ := two_at HS8'.out
          obtain ⟨l0, hl0⟩ := kA_ex HIN.out.2.1 HIN.out.2.2.1
          have HL0 := Lib.hid hl0
          have hlk := HR10.out.2.1.look keyedA und_done (bool_zero _) hl0
          rw [HDQ.out rq l0 hq hl0] at hlk
          unfold kA at hlk
          clear hl0
          clear hb hb10 X1 X2 Y1 Y2 HS7 HS8 HR8 HB8 HIN
          have HS7 := HS7'
          have HS8 := HS8'
          clear HS7' HS8'
          have HQ := Lib.hid hq
          clear hq
          go_wp2_with fail
          clear t0 t1 t2 t3 t4 t5 t6 t7 t8 t9 t10 t11 t12 t13 tf p0 p1 p2 p3 p4 p5 p6 p7 p8 p9 p10 p11 p12 p13 s0 s1 s2 s3 s4 s5 s6 s7 s8 s9 s10 s11 s12 s13 s14 s15 s16 z0 z1 hlk
          try rw [h9]
          generalize w9.alloc (.cells #[.int .i64 0, .int .i64 0, .int .u64 0, .int .i64 0, .int .i64 0, .int .i64 0, .int .u64 0, .int .i64 0, .int .i64 0, .int .i64 0, .int .i64 0, .slice none 0 0, .int .u64 0, .int .i64 0] 28) = W10 at HR10 HB10 HS7 HS8 HIN10 ⊢
          refine (done_both T mb c M cl rq cd tm id cn st lv ge fr lf du tl a n ca nt de W10 HR10.out.1 q cd1 tm1 id1 cn1 st1 lv1 ge1 fr1 lf1 du1 tl1 a1 n1 ca1 nt1 de1 hv HIN10.out.2.2.2 xs HIN10.out.1 (by have := HN2.out; omega) HC0.out HQ.out).mono ?_
          rintro e w11 hh
          rcases hh with hh | hh
          · revert hh
            rintro ⟨f, hf, rfl, hb⟩
            have df : decide (f = 0) = false := decide_eq_false hf
            have df2 : (f == 0) = false := by simpa using hf
            have HRF := Lib.hid ((HR10.out.kept hb).mono (Nat.le_succ k))
            have HBF := Lib.hid (HB10.out.trans (hb.mono HB10.out.size))
            clear hb HR10 HB10 HS7 HS8
            go_wp2_with fail
            go_roundw
            case rel => exact ⟨k + 1, M, D, L, c, c1, c2, hlt, by rw [hw64]; rfl, HRF, HBF⟩
            case measure => exact meas_lt len k _ (by rw [hw64]) hlt
          · obtain ⟨rfl, ac, cc, M', ht, ⟨hm1, hm2⟩, ho, hg⟩ := hh
            have HT11 := Lib.hid ht
            have HM1 := Lib.hid hm1
            have HM2 := Lib.hid hm2
            have HUC := Lib.hid (ho.us HXL.out).2
            have hmap := HR10.out.1.2.isMap
            have HUS : Hid (∀ a n xs, Us W10 a n xs → Us w11 a n xs) := Lib.hid (fun a n xs h => h.grown hg hmap)
            have HVD : Hid (VM 73 w11 m1 c1 D) := Lib.hid (HR10.out.2.1.block (hg.block m1 HR10.out.2.1.lt (by intro e; injection e with e; have := HMM.out; omega)))
            have HVL : Hid (VM 23 w11 m2 c2 L) := Lib.hid (HR10.out.2.2.1.block (hg.block m2 HR10.out.2.2.1.lt (by intro e; injection e with e; have := HMM.out; omega)))
            have HB11 := Lib.hid (grown_below HB10.out hg (by have := HMM.out; omega) HB10.out.size)
            have HS7' := Lib.hid ((hg.block G7 (ex_lt HS7.out) (by intro e; injection e with e; have := HGG.out; omega)).trans HS7.out)
            have HS8' := Lib.hid ((hg.block G8 (ex_lt HS8.out) (by intro e; injection e with e; have := HGG.out; omega)).trans HS8.out)
            clear ht hm1 hm2 ho hg hmap HB10
            clear HS7 HS8
            have HS7 := HS7'
            have HS8 := HS8'
            clear HS7' HS8'
            go_wp2_with fail
            have HS0 : Hid ((fun W => W.heap[G7]? = some (.cells #[.int .i64 kd, .int .u64 cl, .int .u64 rq, .int .i64 cd, .int .i64 tm, .int .u64 id, .int .i64 cn, .int .i64 st, .int .i64 lv, .int .u64 ge, .int .i64 fr, .int .i64 lf, .int .i64 du, .int .i64 tl, .slice a n ca, .int .u64 nt, .int .i64 de] 64 (0, 0)) ∧ W.heap[G8]? = some (.cells #[.int .u64 cl, .int .u64 rq] 73 (0, 0))) w11.drew) := Lib.hid ⟨HS7.out, HS8.out⟩
            refine wp_region_held_drew (S := fun W => W.heap[G7]? = some (.cells #[.int .i64 kd, .int .u64 cl, .int .u64 rq, .int .i64 cd, .int .i64 tm, .int .u64 id, .int .i64 cn, .int .i64 st, .int .i64 lv, .int .u64 ge, .int .i64 fr, .int .i64 lf, .int .i64 du, .int .i64 tl, .slice a n ca, .int .u64 nt, .int .i64 de] 64 (0, 0)) ∧ W.heap[G8]? = some (.cells #[.int .u64 cl, .int .u64 rq] 73 (0, 0))) (by kernel_rfl) HS0.out (fun hHeld => ?_)
            clear hHeld
            obtain ⟨D', hD1, hD2⟩ := upV D l0 (some (.bool true))
            obtain ⟨L', hL1, hL2⟩ := upV L (.int .u64 cl) (some (.agg #[.int .i64 kd, .int .u64 cl, .int .u64 rq, .int .i64 cd, .int .i64 tm, .int .u64 id, .int .i64 cn, .int .i64 st, .int .i64 lv, .int .u64 ge, .int .i64 fr, .int .i64 lf, .int .i64 du, .int .i64 tl, .slice a n ca, .int .u64 nt, .int .i64 de]))
            have hvd : VM 73 w11.drew m1 c1 D := HVD.out
            have hvl : VM 23 w11.drew m2 c2 L := HVL.out
            obtain ⟨w12, hrun1, hV12, hg12, hz12⟩ := hvd.put keyedA und_done HCC.out.1 HL0.out (.bool true) hD1 hD2
            have hvl2 : VM 23 w12 m2 c2 L := hvl.block (hg12.block m2 hvl.lt (by intro e; injection e with e; have := HMM.out; omega))
            obtain ⟨w13, hrun2, hV13, hg13, hz13⟩ := hvl2.put keyedU und_ops HCC.out.2 (keyU HIN10.out.2.1) (.agg #[.int .i64 kd, .int .u64 cl, .int .u64 rq, .int .i64 cd, .int .i64 tm, .int .u64 id, .int .i64 cn, .int .i64 st, .int .i64 lv, .int .u64 ge, .int .i64 fr, .int .i64 lf, .int .i64 du, .int .i64 tl, .slice a n ca, .int .u64 nt, .int .i64 de]) hL1 hL2
            have HRUN := Lib.hid (And.intro hrun1 hrun2)
            have HS12 : Hid ((fun W => W.heap[G7]? = some (.cells #[.int .i64 kd, .int .u64 cl, .int .u64 rq, .int .i64 cd, .int .i64 tm, .int .u64 id, .int .i64 cn, .int .i64 st, .int .i64 lv, .int .u64 ge, .int .i64 fr, .int .i64 lf, .int .i64 du, .int .i64 tl, .slice a n ca, .int .u64 nt, .int .i64 de] 64 (0, 0)) ∧ W.heap[G8]? = some (.cells #[.int .u64 cl, .int .u64 rq] 73 (0, 0))) w12) := Lib.hid ⟨(hg12.block G7 (ex_lt HS0.out.1) (by intro e; injection e with e; have := HGG.out; omega)).trans HS0.out.1, (hg12.block G8 (ex_lt HS0.out.2) (by intro e; injection e with e; have := HGG.out; omega)).trans HS0.out.2⟩
            have HS13 : Hid ((fun W => W.heap[G7]? = some (.cells #[.int .i64 kd, .int .u64 cl, .int .u64 rq, .int .i64 cd, .int .i64 tm, .int .u64 id, .int .i64 cn, .int .i64 st, .int .i64 lv, .int .u64 ge, .int .i64 fr, .int .i64 lf, .int .i64 du, .int .i64 tl, .slice a n ca, .int .u64 nt, .int .i64 de] 64 (0, 0)) ∧ W.heap[G8]? = some (.cells #[.int .u64 cl, .int .u64 rq] 73 (0, 0))) w13) := Lib.hid ⟨(hg13.block G7 (ex_lt HS12.out.1) (by intro e; injection e with e; have := HGG.out; omega)).trans HS12.out.1, (hg13.block G8 (ex_lt HS12.out.2) (by intro e; injection e with e; have := HGG.out; omega)).trans HS12.out.2⟩
            have hdr : Below w11.heap.size w11 w11.drew := (Below.refl _ _).drew
            have HBF : Hid (Below w.heap.size w w13) := Lib.hid (grown_below (grown_below (HB11.out.trans (hdr.mono HB11.out.size)) hg12 (by have := HMM.out; omega) (Nat.le_trans HB11.out.size hdr.size)) hg13 (by have := HMM.out; omega) (Nat.le_trans (Nat.le_trans HB11.out.size hdr.size) hg12.size))
            have hT13 : Tab w13 T mb (upC M (.int .u64 cl) c) M' := by
              have e12 := hg12.block T (Nat.lt_of_lt_of_le (ex_lt HT11.out.1) hdr.size) (by intro e; injection e with e; have := HMM.out; omega)
              have f12 := hg12.block mb (Nat.lt_of_lt_of_le HT11.out.2.lt hdr.size) (by intro e; injection e with e; have := HMM.out; omega)
              have l12 : T < w12.heap.size := Nat.lt_of_lt_of_le (Nat.lt_of_lt_of_le (ex_lt HT11.out.1) hdr.size) hg12.size
              have m12 : mb < w12.heap.size := Nat.lt_of_lt_of_le (Nat.lt_of_lt_of_le HT11.out.2.lt hdr.size) hg12.size
              have e13 := hg13.block T l12 (by intro e; injection e with e; have := HMM.out; omega)
              have f13 := hg13.block mb m12 (by intro e; injection e with e; have := HMM.out; omega)
              exact ⟨(e13.trans e12).trans HT11.out.1, (HT11.out.2.kept hdr).block (f13.trans f12)⟩
            have hV12' : VM 73 w13 m1 (if (D l0).isSome then c1 else c1 + 1) D' := hV12.block (hg13.block m1 (Nat.lt_of_lt_of_le hvd.lt hg12.size) (by intro e; injection e with e; have := HMM.out; omega))
            have hus : ∀ a n xs, Us w11 a n xs → Us w13 a n xs := fun a n xs h => ((h.kept hdr).grown hg12 hvd.isMap).grown hg13 hvl2.isMap
            have hkk := HR10.out.2.2.2.1
            have HRF : Hid (Rel w13 T mb m1 m2 (k + 1) M' D' L' (upC M (.int .u64 cl) c) (if (D l0).isSome then c1 else c1 + 1) (if (L (.int .u64 cl)).isSome then c2 else c2 + 1)) := Lib.hid (HR10.out.put (Opn.mk kd cl rq cd tm id cn st lv ge fr lf du tl a n ca nt de xs) ac cc q hT13 hV12' hV13 ⟨by have := upC_le M (.int .u64 cl) c; omega, by split <;> omega, by split <;> omega⟩ (fun a n xs h => hus a n xs (HUS.out a n xs h)) HM1.out HM2.out hL1 hL2 HL0.out hD2 (hus _ _ _ HUC.out) (hus _ _ _ (HUS.out _ _ _ HIN10.out.1)) HN2.out HDQ.out hD1 HQ.out)
            clear hD1 hD2 hL1 hL2 hvd hvl hrun1 hV12 hg12 hz12 hvl2 hrun2 hV13 hg13 hz13 hdr hT13 hV12' hus hkk HR10 HUS HUC HM1 HM2 HDQ
            refine wpAnyH_take (i := 0) (oi := { dst := some 82, op := Go.Op.move (Go.Operand.tmp 4), type := 71, pos := "law.go:99", after := #[], guard := none }) (v := ?_) rfl (by kernel_rfl) (by kernel_rfl) (by kernel_rfl) (fun _ _ _ h => h) (Or.inl ⟨by rfl, ?_⟩) HS0.out ?_
            case refine_2 => (intro w1 hS1; obtain ⟨k1, k2⟩ := hS1; obtain ⟨q0, q1, q2, q3, q4, q5, q6, q7, q8, q9, q10, q11, q12, q13, q14, q15, q16⟩ := op_at k1; obtain ⟨z0, z1⟩ := two_at k2; clear k1 k2; go_simp; try with_reducible rfl)
            try simp only [Act.put, List.setIfInBounds_toArray, List.set_cons_zero, List.set_cons_succ]
            refine wpAnyH_take (i := 1) (oi := { dst := some 83, op := Go.Op.load 73 (Go.Operand.tmp 8), type := 73, pos := "law.go:99", after := #[], guard := none }) (v := ?_) rfl (by kernel_rfl) (by kernel_rfl) (by kernel_rfl) (fun _ _ _ h => h) (Or.inl ⟨by rfl, ?_⟩) HS0.out ?_
            case refine_2 => (intro w1 hS1; obtain ⟨k1, k2⟩ := hS1; obtain ⟨q0, q1, q2, q3, q4, q5, q6, q7, q8, q9, q10, q11, q12, q13, q14, q15, q16⟩ := op_at k1; obtain ⟨z0, z1⟩ := two_at k2; clear k1 k2; go_simp; try with_reducible rfl)
            try simp only [Act.put, List.setIfInBounds_toArray, List.set_cons_zero, List.set_cons_succ]
            refine wpAnyH_take (i := 2) (oi := { dst := some 84, op := Go.Op.move (Go.Operand.tmp 5), type := 72, pos := "law.go:99", after := #[{ on := 6, ground := Go.Ground.gcOnly Go.Departure.lateStores }], guard := none }) (v := ?_) rfl (by kernel_rfl) (by kernel_rfl) (by kernel_rfl) (fun _ _ _ h => h) (Or.inl ⟨by rfl, ?_⟩) HS0.out ?_
            case refine_2 => (intro w1 hS1; obtain ⟨k1, k2⟩ := hS1; obtain ⟨q0, q1, q2, q3, q4, q5, q6, q7, q8, q9, q10, q11, q12, q13, q14, q15, q16⟩ := op_at k1; obtain ⟨z0, z1⟩ := two_at k2; clear k1 k2; go_simp; try with_reducible rfl)
            try simp only [Act.put, List.setIfInBounds_toArray, List.set_cons_zero, List.set_cons_succ]
            refine wpAnyH_take (i := 3) (oi := { dst := some 85, op := Go.Op.fieldAddr 64 (Go.Operand.tmp 7) 1, type := 0, pos := "law.go:99", after := #[], guard := none }) (v := ?_) rfl (by kernel_rfl) (by kernel_rfl) (by kernel_rfl) (fun _ _ _ h => h) (Or.inl ⟨by rfl, ?_⟩) HS0.out ?_
            case refine_2 => (intro w1 hS1; obtain ⟨k1, k2⟩ := hS1; obtain ⟨q0, q1, q2, q3, q4, q5, q6, q7, q8, q9, q10, q11, q12, q13, q14, q15, q16⟩ := op_at k1; obtain ⟨z0, z1⟩ := two_at k2; clear k1 k2; go_simp; try with_reducible rfl)
            try simp only [Act.put, List.setIfInBounds_toArray, List.set_cons_zero, List.set_cons_succ]
            refine wpAnyH_take (i := 4) (oi := { dst := some 86, op := Go.Op.load 23 (Go.Operand.tmp 85), type := 23, pos := "law.go:99", after := #[{ on := 3, ground := Go.Ground.data }], guard := none }) (v := ?_) rfl (by kernel_rfl) (by kernel_rfl) (by kernel_rfl) (fun _ _ _ h => h) (Or.inl ⟨by rfl, ?_⟩) HS0.out ?_
            case refine_2 => (intro w1 hS1; obtain ⟨k1, k2⟩ := hS1; obtain ⟨q0, q1, q2, q3, q4, q5, q6, q7, q8, q9, q10, q11, q12, q13, q14, q15, q16⟩ := op_at k1; obtain ⟨z0, z1⟩ := two_at k2; clear k1 k2; go_simp; try with_reducible rfl)
            try simp only [Act.put, List.setIfInBounds_toArray, List.set_cons_zero, List.set_cons_succ]
            refine wpAnyH_take (i := 5) (oi := { dst := some 87, op := Go.Op.load 64 (Go.Operand.tmp 7), type := 64, pos := "law.go:99", after := #[{ on := 6, ground := Go.Ground.gcOnly Go.Departure.lateStores }], guard := none }) (v := ?_) rfl (by kernel_rfl) (by kernel_rfl) (by kernel_rfl) (fun _ _ _ h => h) (Or.inl ⟨by rfl, ?_⟩) HS0.out ?_
            case refine_2 => (intro w1 hS1; obtain ⟨k1, k2⟩ := hS1; obtain ⟨q0, q1, q2, q3, q4, q5, q6, q7, q8, q9, q10, q11, q12, q13, q14, q15, q16⟩ := op_at k1; obtain ⟨z0, z1⟩ := two_at k2; clear k1 k2; go_simp; try with_reducible rfl)
            try simp only [Act.put, List.setIfInBounds_toArray, List.set_cons_zero, List.set_cons_succ]
            refine wpAnyH_ready (rs := [6]) (by kernel_rfl) (by simp) ?_
            refine AllReadyH.cons (o := { dst := none, op := Go.Op.mapUpdate 71 (Go.Operand.tmp 82) (Go.Operand.tmp 83) (Go.Operand.const (Go.Value.bool true)), type := 0, pos := "law.go:99", after := #[{ on := 0, ground := Go.Ground.data }, { on := 1, ground := Go.Ground.data }, { on := 0, ground := Go.Ground.phase }, { on := 1, ground := Go.Ground.phase }, { on := 2, ground := Go.Ground.textOnly Go.Departure.lateStores }, { on := 3, ground := Go.Ground.textOnly Go.Departure.lateStoresUnsure }, { on := 4, ground := Go.Ground.textOnly Go.Departure.lateStoresUnsure }, { on := 5, ground := Go.Ground.textOnly Go.Departure.lateStores }], guard := none }) rfl (fun K hK => ?_) AllReadyH.nil
            have hrun1 := HRUN.out.1
            unfold kA at hrun1
            go_simp
            clear hrun1
            refine hK.out _ _ HS12.out (fun hHeld => ?_)
            clear hK K hHeld
            try simp only [Act.put, List.setIfInBounds_toArray, List.set_cons_zero, List.set_cons_succ]
            refine wpAnyH_ready (rs := [7]) (by kernel_rfl) (by simp) ?_
            refine AllReadyH.cons (o := { dst := none, op := Go.Op.mapUpdate 72 (Go.Operand.tmp 84) (Go.Operand.tmp 86) (Go.Operand.tmp 87), type := 0, pos := "law.go:99", after := #[{ on := 2, ground := Go.Ground.data }, { on := 4, ground := Go.Ground.data }, { on := 5, ground := Go.Ground.data }, { on := 6, ground := Go.Ground.chain }, { on := 0, ground := Go.Ground.phase }, { on := 1, ground := Go.Ground.phase }, { on := 2, ground := Go.Ground.phase }, { on := 3, ground := Go.Ground.phase }, { on := 4, ground := Go.Ground.phase }, { on := 5, ground := Go.Ground.phase }, { on := 6, ground := Go.Ground.phase }], guard := none }) rfl (fun K hK => ?_) AllReadyH.nil
            have hrun2 := HRUN.out.2
            go_simp
            clear hrun2
            refine hK.out _ _ HS13.out (fun hHeld => ?_)
            clear hK K hHeld
            try simp only [Act.put, List.setIfInBounds_toArray, List.set_cons_zero, List.set_cons_succ]
            refine wpAnyH_done (by kernel_rfl) ?_ _
            go_wp2_with fail
            go_roundw
            case rel => exact ⟨k + 1, M', D', L', _, _, _, hlt, by rw [hw64]; rfl, HRF, HBF⟩
            case measure => exact meas_lt len k _ (by rw [hw64]) hlt
      · by_cases hq2 : rq < q
        · clear hq
          as_aux_lemma =>
            refine (look_old T mb c M cl q rq cd1 tm1 id1 cn1 st1 lv1 ge1 fr1 lf1 du1 tl1 a1 n1 ca1 nt1 de1 W8 HR8.out.1 HIN.out.2.1 hv hq2).mono ?_
            rintro e w9 ⟨rfl, hb⟩
            obtain ⟨X1, X2, -⟩ := box1 w9 #[.int .i64 0, .int .i64 0, .int .u64 0, .int .i64 0, .int .i64 0, .int .i64 0, .int .u64 0, .int .i64 0, .int .i64 0, .int .i64 0, .int .i64 0, .slice none 0 0, .int .u64 0, .int .i64 0] 28
            obtain ⟨Y1, Y2, -⟩ := box1 w9 #[.int .i64 0, .int .i64 0, .int .u64 0, .int .i64 0, .int .i64 0, .int .i64 0, .int .u64 0, .int .i64 0, .int .i64 0, .int .i64 0, .int .i64 0, .slice none 0 0, .int .u64 0, .int .i64 0] 28
            have hb10 := hb.trans (X1.mono hb.size)
            have HR10 := Lib.hid (HR8.out.kept hb10)
            have HB10 := Lib.hid (HB8.out.trans (hb10.mono HB8.out.size))
            have HS7' := Lib.hid (ex_below HS7.out hb10)
            have HS8' := Lib.hid (ex_below HS8.out hb10)
            have HIN10 := Lib.hid (HIN.out.kept hb10)
            obtain ⟨t0, t1, t2, t3, t4, t5, t6, t7, t8, t9, t10, t11, t12, t13⟩ := rep_at Y2
            have tf := rep_fr Y2
            obtain ⟨p0, p1, p2, p3, p4, p5, p6, p7, p8, p9, p10, p11, p12, p13⟩ := rep_at X2
            obtain ⟨s0, s1, s2, s3, s4, s5, s6, s7, s8, s9, s10, s11, s12, s13, s14, s15, s16⟩ := op_at HS7'.out
            obtain ⟨z0, z1⟩ := two_at HS8'.out
            clear hb hb10 X1 X2 Y1 Y2 HS7 HS8 HR8 HB8 HIN
            have HS7 := HS7'
            have HS8 := HS8'
            clear HS7' HS8'
            go_wp2_with fail
            clear t0 t1 t2 t3 t4 t5 t6 t7 t8 t9 t10 t11 t12 t13 tf p0 p1 p2 p3 p4 p5 p6 p7 p8 p9 p10 p11 p12 p13 s0 s1 s2 s3 s4 s5 s6 s7 s8 s9 s10 s11 s12 s13 s14 s15 s16 z0 z1
            try rw [h9]
            generalize w9.alloc (.cells #[.int .i64 0, .int .i64 0, .int .u64 0, .int .i64 0, .int .i64 0, .int .i64 0, .int .u64 0, .int .i64 0, .int .i64 0, .int .i64 0, .int .i64 0, .slice none 0 0, .int .u64 0, .int .i64 0] 28) = W10 at HR10 HB10 HS7 HS8 HIN10 ⊢
            refine (done_fail T mb c M cl rq cd tm id cn st lv ge fr lf du tl a n ca nt de W10 HR10.out.1 q cd1 tm1 id1 cn1 st1 lv1 ge1 fr1 lf1 du1 tl1 a1 n1 ca1 nt1 de1 hv HIN10.out.2.2.2 (by omega)).mono ?_
            rintro e w11 ⟨f, hf, rfl, hb⟩
            have df : decide (f = 0) = false := decide_eq_false hf
            have df2 : (f == 0) = false := by simpa using hf
            have HRF := Lib.hid ((HR10.out.kept hb).mono (Nat.le_succ k))
            have HBF := Lib.hid (HB10.out.trans (hb.mono HB10.out.size))
            clear hb HR10 HB10 HS7 HS8
            go_wp2_with fail
            go_roundw
            case rel => exact ⟨k + 1, M, D, L, c, c1, c2, hlt, by rw [hw64]; rfl, HRF, HBF⟩
            case measure => exact meas_lt len k _ (by rw [hw64]) hlt
        · by_cases hq3 : 0 < rq
          · as_aux_lemma =>
              obtain rfl : rq = q := by omega
              obtain ⟨y0, y1, a4, c4, hl4, hu4⟩ := HLQ.out (by omega)
              have HU4 := Lib.hid (hu4.kept HB38.out)
              refine (look_again T mb c M cl rq rq cd1 tm1 id1 cn1 st1 lv1 ge1 fr1 lf1 du1 tl1 a1 n1 ca1 nt1 de1 W8 HR8.out.1 HIN.out.2.1 hv xs1 (HU1.out.kept HB38.out) (by have := HN1.out; omega) rfl (by omega)).mono ?_
              rintro e w9 ⟨a3, c3, rfl, ho, hb⟩
              unfold repV
              obtain ⟨X1, X2, -⟩ := box1 w9 #[.int .i64 cd1, .int .i64 tm1, .int .u64 id1, .int .i64 cn1, .int .i64 st1, .int .i64 lv1, .int .u64 ge1, .int .i64 fr1, .int .i64 lf1, .int .i64 du1, .int .i64 tl1, .slice a3 n1 c3, .int .u64 nt1, .int .i64 de1] 28
              obtain ⟨Y1, Y2, -⟩ := box1 w9 #[.int .i64 0, .int .i64 0, .int .u64 0, .int .i64 0, .int .i64 0, .int .i64 0, .int .u64 0, .int .i64 0, .int .i64 0, .int .i64 0, .int .i64 0, .slice none 0 0, .int .u64 0, .int .i64 0] 28
              have hb10 := hb.trans (X1.mono hb.size)
              have HR10 := Lib.hid (HR8.out.kept hb10)
              have HB10 := Lib.hid (HB8.out.trans (hb10.mono HB8.out.size))
              have HS7' := Lib.hid (ex_below HS7.out hb10)
              have HS8' := Lib.hid (ex_below HS8.out hb10)
              have HIN10 := Lib.hid (HIN.out.kept hb10)
              obtain ⟨t0, t1, t2, t3, t4, t5, t6, t7, t8, t9, t10, t11, t12, t13⟩ := rep_at Y2
              have tf := rep_fr Y2
              obtain ⟨p0, p1, p2, p3, p4, p5, p6, p7, p8, p9, p10, p11, p12, p13⟩ := rep_at X2
              obtain ⟨s0, s1, s2, s3, s4, s5, s6, s7, s8, s9, s10, s11, s12, s13, s14, s15, s16⟩ := op_at HS7'.out
              obtain ⟨z0, z1⟩ := two_at HS8'.out
              have HX10 := Lib.hid X2
              have HU3 := Lib.hid ((ho.us HU1.out.2.2.1).2.kept X1)
              have HU4' := Lib.hid (HU4.out.kept hb10)
              clear HU4
              have hlk := HR10.out.2.2.1.look keyedU und_ops (op_zero _) (keyU HIN10.out.2.1)
              rw [hl4] at hlk
              have hf2 := op_field2 y0 y1 rq cd1 tm1 id1 cn1 st1 lv1 ge1 fr1 lf1 du1 tl1 a4 n1 c4 nt1 de1 (w9.alloc (.cells #[.int .i64 cd1, .int .i64 tm1, .int .u64 id1, .int .i64 cn1, .int .i64 st1, .int .i64 lv1, .int .u64 ge1, .int .i64 fr1, .int .i64 lf1, .int .i64 du1, .int .i64 tl1, .slice a3 n1 c3, .int .u64 nt1, .int .i64 de1] 28))
              have hf3 := op_field3 y0 y1 rq cd1 tm1 id1 cn1 st1 lv1 ge1 fr1 lf1 du1 tl1 a4 n1 c4 nt1 de1 (w9.alloc (.cells #[.int .i64 cd1, .int .i64 tm1, .int .u64 id1, .int .i64 cn1, .int .i64 st1, .int .i64 lv1, .int .u64 ge1, .int .i64 fr1, .int .i64 lf1, .int .i64 du1, .int .i64 tl1, .slice a3 n1 c3, .int .u64 nt1, .int .i64 de1] 28))
              clear ho hu4 hl4
              clear hb hb10 X1 X2 Y1 Y2 HS7 HS8 HR8 HB8 HIN
              have HS7 := HS7'
              have HS8 := HS8'
              clear HS7' HS8'
              go_wp2_with fail
              clear t0 t1 t2 t3 t4 t5 t6 t7 t8 t9 t10 t11 t12 t13 tf p0 p1 p2 p3 p4 p5 p6 p7 p8 p9 p10 p11 p12 p13 s0 s1 s2 s3 s4 s5 s6 s7 s8 s9 s10 s11 s12 s13 s14 s15 s16 z0 z1 hlk hf2 hf3
              try rw [h9]
              generalize w9.alloc (.cells #[.int .i64 cd1, .int .i64 tm1, .int .u64 id1, .int .i64 cn1, .int .i64 st1, .int .i64 lv1, .int .u64 ge1, .int .i64 fr1, .int .i64 lf1, .int .i64 du1, .int .i64 tl1, .slice a3 n1 c3, .int .u64 nt1, .int .i64 de1] 28) = W10 at HR10 HB10 HS7 HS8 HIN10 HX10 HU3 HU4' ⊢
              have hsm := rrep_same cd1 tm1 id1 cn1 st1 lv1 ge1 fr1 lf1 du1 tl1 a3 n1 c3 nt1 de1 xs1 cd1 tm1 id1 cn1 st1 lv1 ge1 fr1 lf1 du1 tl1 a4 n1 c4 nt1 de1 xs1 W10 HU3.out HU4'.out
              rw [repEq_refl] at hsm
              refine hsm.mono ?_
              rintro e w10 ⟨rfl, hb⟩
              have HR10' := Lib.hid (HR10.out.kept hb)
              have HB10' := Lib.hid (HB10.out.trans (hb.mono HB10.out.size))
              have HS7' := Lib.hid (ex_below HS7.out hb)
              have HS8' := Lib.hid (ex_below HS8.out hb)
              have HIN10' := Lib.hid (HIN10.out.kept hb)
              clear hsm hb HX10 HU3 HU4'
              clear HR10 HB10 HS7 HS8 HIN10
              have HR10 := HR10'
              have HB10 := HB10'
              have HS7 := HS7'
              have HS8 := HS8'
              have HIN10 := HIN10'
              clear HR10' HB10' HS7' HS8' HIN10'
              obtain ⟨s0, s1, s2, s3, s4, s5, s6, s7, s8, s9, s10, s11, s12, s13, s14, s15, s16⟩ := op_at HS7.out
              go_wp2_with fail
              clear s0 s1 s2 s3 s4 s5 s6 s7 s8 s9 s10 s11 s12 s13 s14 s15 s16
              refine (done_fail T mb c M cl rq cd tm id cn st lv ge fr lf du tl a n ca nt de w10 HR10.out.1 rq cd1 tm1 id1 cn1 st1 lv1 ge1 fr1 lf1 du1 tl1 a1 n1 ca1 nt1 de1 hv HIN10.out.2.2.2 (by omega)).mono ?_
              rintro e w11 ⟨f, hf, rfl, hb⟩
              have df : decide (f = 0) = false := decide_eq_false hf
              have df2 : (f == 0) = false := by simpa using hf
              have HRF := Lib.hid ((HR10.out.kept hb).mono (Nat.le_succ k))
              have HBF := Lib.hid (HB10.out.trans (hb.mono HB10.out.size))
              clear hb HR10 HB10 HS7 HS8
              go_wp2_with fail
              go_roundw
              case rel => exact ⟨k + 1, M, D, L, c, c1, c2, hlt, by rw [hw64]; rfl, HRF, HBF⟩
              case measure => exact meas_lt len k _ (by rw [hw64]) hlt
          · as_aux_lemma =>
              refine (look_zero T mb c M cl q rq cd1 tm1 id1 cn1 st1 lv1 ge1 fr1 lf1 du1 tl1 a1 n1 ca1 nt1 de1 W8 HR8.out.1 HIN.out.2.1 hv (by omega) (by have h0 := HIN.out.2.2.1.1; dsimp only at h0; omega)).mono ?_
              rintro e w9 ⟨rfl, hb⟩
              obtain ⟨X1, X2, -⟩ := box1 w9 #[.int .i64 0, .int .i64 0, .int .u64 0, .int .i64 0, .int .i64 0, .int .i64 0, .int .u64 0, .int .i64 0, .int .i64 0, .int .i64 0, .int .i64 0, .slice none 0 0, .int .u64 0, .int .i64 0] 28
              obtain ⟨Y1, Y2, -⟩ := box1 w9 #[.int .i64 0, .int .i64 0, .int .u64 0, .int .i64 0, .int .i64 0, .int .i64 0, .int .u64 0, .int .i64 0, .int .i64 0, .int .i64 0, .int .i64 0, .slice none 0 0, .int .u64 0, .int .i64 0] 28
              have hb10 := hb.trans (X1.mono hb.size)
              have HR10 := Lib.hid (HR8.out.kept hb10)
              have HB10 := Lib.hid (HB8.out.trans (hb10.mono HB8.out.size))
              have HS7' := Lib.hid (ex_below HS7.out hb10)
              have HS8' := Lib.hid (ex_below HS8.out hb10)
              have HIN10 := Lib.hid (HIN.out.kept hb10)
              obtain ⟨t0, t1, t2, t3, t4, t5, t6, t7, t8, t9, t10, t11, t12, t13⟩ := rep_at Y2
              have tf := rep_fr Y2
              obtain ⟨p0, p1, p2, p3, p4, p5, p6, p7, p8, p9, p10, p11, p12, p13⟩ := rep_at X2
              obtain ⟨s0, s1, s2, s3, s4, s5, s6, s7, s8, s9, s10, s11, s12, s13, s14, s15, s16⟩ := op_at HS7'.out
              obtain ⟨z0, z1⟩ := two_at HS8'.out
              clear hb hb10 X1 X2 Y1 Y2 HS7 HS8 HR8 HB8 HIN
              have HS7 := HS7'
              have HS8 := HS8'
              clear HS7' HS8'
              go_wp2_with fail
              clear t0 t1 t2 t3 t4 t5 t6 t7 t8 t9 t10 t11 t12 t13 tf p0 p1 p2 p3 p4 p5 p6 p7 p8 p9 p10 p11 p12 p13 s0 s1 s2 s3 s4 s5 s6 s7 s8 s9 s10 s11 s12 s13 s14 s15 s16 z0 z1
              try rw [h9]
              generalize w9.alloc (.cells #[.int .i64 0, .int .i64 0, .int .u64 0, .int .i64 0, .int .i64 0, .int .i64 0, .int .u64 0, .int .i64 0, .int .i64 0, .int .i64 0, .int .i64 0, .slice none 0 0, .int .u64 0, .int .i64 0] 28) = W10 at HR10 HB10 HS7 HS8 HIN10 ⊢
              refine (done_fail T mb c M cl rq cd tm id cn st lv ge fr lf du tl a n ca nt de W10 HR10.out.1 q cd1 tm1 id1 cn1 st1 lv1 ge1 fr1 lf1 du1 tl1 a1 n1 ca1 nt1 de1 hv HIN10.out.2.2.2 (by omega)).mono ?_
              rintro e w11 ⟨f, hf, rfl, hb⟩
              have df : decide (f = 0) = false := decide_eq_false hf
              have df2 : (f == 0) = false := by simpa using hf
              have HRF := Lib.hid ((HR10.out.kept hb).mono (Nat.le_succ k))
              have HBF := Lib.hid (HB10.out.trans (hb.mono HB10.out.size))
              clear hb HR10 HB10 HS7 HS8
              go_wp2_with fail
              go_roundw
              case rel => exact ⟨k + 1, M, D, L, c, c1, c2, hlt, by rw [hw64]; rfl, HRF, HBF⟩
              case measure => exact meas_lt len k _ (by rw [hw64]) hlt
    · obtain rfl : k = len := by omega
      go_wp2_with fail
      refine (lives20 _).mono ?_
      rintro e w2 ⟨rfl, hb⟩
      have HB2 := Lib.hid (HB.out.trans (hb.mono HB.out.size))
      clear hb
      go_wp2_with fail
      go_ret
      exact ⟨rfl, HB2.out⟩
end Go.Proofs.Ytnhaakdjijjinaa

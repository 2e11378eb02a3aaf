/- ChainNobody. -/
import Derived.Test.YthnnbmofpmedhaaChN
import Derived.WalkMore
namespace Go.Proofs.Ythnnbmofpmedhaa
open Go.RowKit
set_option maxRecDepth 100000 in
set_option maxHeartbeats 4000000 in
theorem run_nil (lv f0 b d0 now : Int) (w : World) :
    Calls Try.prog 42 #[.pointer none, stepV lv f0 b d0, .int .i64 now] w fun e w' => e = .returned (.tuple #[stepV 0 0 0 0, .int .i64 1]) ∧ Below w.heap.size w w' := by
  obtain ⟨B2, s0, s1, sz⟩ := box2 w #[.int .i64 lv, .int .i64 f0, .int .i64 b, .int .i64 d0] #[.int .i64 0, .int .i64 0, .int .i64 0, .int .i64 0] 29 29
  have c2 := (four_at s0).2.2.1
  have HB := Lib.hid B2
  have HS := Lib.hid (And.intro s0 (And.intro s1 sz))
  unfold stepV
  clear B2 s0 s1 sz
  go_enter Try.func42, Try.ntmps42
  go_wp2_with fail
  generalize ((w.alloc (.cells #[.int .i64 lv, .int .i64 f0, .int .i64 b, .int .i64 d0] 29)).alloc (.cells #[.int .i64 0, .int .i64 0, .int .i64 0, .int .i64 0] 29)) = W at HB HS c2 ⊢
  refine (due_none none W now b (ccreated_nil _)).mono ?_
  rintro e w3 ⟨rfl, hb3⟩
  have t1 := (hb3.block (w.heap.size + 1) (by have := HS.out.2.2; omega)).trans HS.out.2.1
  have HB3 := Lib.hid (HB.out.trans (hb3.mono HB.out.size))
  obtain ⟨q0, q1, q2, q3, z0, z1, z2, z3⟩ := four_at t1
  have HT := Lib.hid t1
  clear hb3 t1 c2
  go_wp2_with fail
  have ho := below_put4 HB3.out (N := w.heap.size + 1) (by omega) (.int .i64 0) (.int .i64 0) (.int .i64 0) (.int .i64 0)
  obtain ⟨p0, p1, p2, p3⟩ := put4_cells HT.out (.int .i64 0) (.int .i64 0) (.int .i64 0) (.int .i64 0)
  unfold put4 at p0 p1 p2 p3 ho
  exact bodyPost_ret (v := .tuple #[.agg #[.int .i64 0, .int .i64 0, .int .i64 0, .int .i64 0], .int .i64 1]) (by simp [results, Try.results42, go_sem, p0, p1, p2, p3]) rfl ⟨rfl, ho⟩
set_option maxRecDepth 100000 in
set_option maxHeartbeats 4000000 in
theorem go_nil (now : Int) (w : World) :
    Calls Try.prog 19 #[.pointer none, stepV 0 0 1 0, .int .i64 now] w fun e w' => e = .returned (.tuple #[stepV 0 0 0 0, .int .i64 1]) ∧ Below w.heap.size w w' := by
  obtain ⟨B2, s0, s1, sz⟩ := box2 w #[.int .i64 0, .int .i64 0, .int .i64 1, .int .i64 0] #[.int .i64 0, .int .i64 0, .int .i64 0, .int .i64 0] 29 29
  obtain ⟨c0, c1, c2, c3, -⟩ := four_at s0
  have HB := Lib.hid B2
  have HS := Lib.hid (And.intro s1 sz)
  unfold stepV
  clear B2 s0 s1 sz
  go_enter Try.func19, Try.ntmps19
  go_wp2_with fail
  generalize ((w.alloc (.cells #[.int .i64 0, .int .i64 0, .int .i64 1, .int .i64 0] 29)).alloc (.cells #[.int .i64 0, .int .i64 0, .int .i64 0, .int .i64 0] 29)) = W at HB HS c0 c1 c2 c3 ⊢
  refine (run_nil 0 0 1 0 now W).mono ?_
  rintro e w3 ⟨rfl, hb3⟩
  have t1 := (hb3.block (w.heap.size + 1) (by have := HS.out.2; omega)).trans HS.out.1
  have HB3 := Lib.hid (HB.out.trans (hb3.mono HB.out.size))
  obtain ⟨q0, q1, q2, q3, z0, z1, z2, z3⟩ := four_at t1
  have HT := Lib.hid t1
  clear hb3 t1 c0 c1 c2 c3
  unfold stepV
  go_wp2_with fail
  have ho := below_put4 HB3.out (N := w.heap.size + 1) (by omega) (.int .i64 0) (.int .i64 0) (.int .i64 0) (.int .i64 0)
  obtain ⟨p0, p1, p2, p3⟩ := put4_cells HT.out (.int .i64 0) (.int .i64 0) (.int .i64 0) (.int .i64 0)
  unfold put4 at p0 p1 p2 p3 ho
  exact bodyPost_ret (v := .tuple #[.agg #[.int .i64 0, .int .i64 0, .int .i64 0, .int .i64 0], .int .i64 1]) (by simp [results, Try.results19, go_sem, p0, p1, p2, p3]) rfl ⟨rfl, ho⟩
set_option maxRecDepth 100000 in
set_option maxHeartbeats 4000000 in
theorem first_nil (c : Int) (a : Option Addr) (n ca : Nat) (r b : Int) (B P : Nat → Int) (now : Int) (w : World) (hS : Sps w a n B P) (hg : goodC c n r b B P = true) :
    Calls Try.prog 13 #[.pointer none, conV c a n ca r b, .int .i64 now] w fun e w' => e = .returned (.tuple #[stepV 0 0 0 0, .int .i64 1]) ∧ Below w.heap.size w w' := by
  obtain ⟨B2, s0, s1, sz⟩ := box2 w #[.int .i64 c, .slice a n ca, .int .i64 r, .int .i64 b] #[.int .i64 0, .int .i64 0, .int .i64 0, .int .i64 0] 27 29
  obtain ⟨c0, c1, c2, c3, -⟩ := four_at s0
  have hck := check_any c a n ca r b B P ((w.alloc (.cells #[.int .i64 c, .slice a n ca, .int .i64 r, .int .i64 b] 27)).alloc (.cells #[.int .i64 0, .int .i64 0, .int .i64 0, .int .i64 0] 29)) (hS.kept B2)
  rw [hg] at hck
  obtain ⟨_, _, n1, n6, hlv⟩ := goodC_n hg
  obtain ⟨ab, ao, rfl, habw, hcell⟩ := hS.2 (show 0 < n by omega)
  have d00 := (hcell 0 (by omega)).1
  rw [Nat.zero_mul, Nat.add_zero] at d00
  have HD0 := Lib.hid d00
  have HB := Lib.hid B2
  have HS := Lib.hid (And.intro s1 (And.intro sz s0))
  unfold stepV
  unfold conV at *
  clear B2 s0 s1 sz hS hg hlv hcell d00
  go_enter Try.func13, Try.ntmps13
  go_wp2_with fail
  generalize ((w.alloc (.cells #[.int .i64 c, .slice (some ⟨ab, ao, none⟩) n ca, .int .i64 r, .int .i64 b] 27)).alloc (.cells #[.int .i64 0, .int .i64 0, .int .i64 0, .int .i64 0] 29)) = W at HB HS hck c0 c1 c2 c3 ⊢
  refine hck.mono ?_
  rintro e w3 ⟨rfl, hb3⟩
  have t0 := (hb3.block w.heap.size (by have := HS.out.2.1; omega)).trans HS.out.2.2
  have t1 := (hb3.block (w.heap.size + 1) (by have := HS.out.2.1; omega)).trans HS.out.1
  have HB3 := Lib.hid (HB.out.trans (hb3.mono HB.out.size))
  have d0 := (HB3.out.cell (p := ⟨ab, ao, none⟩) habw).trans HD0.out
  obtain ⟨_, k1, -⟩ := four_at t0
  have HT := Lib.hid t1
  have n0 : (0 : Int) < (n : Int) := by omega
  have z3 := hb3.size
  clear hck hb3 t0 t1 c0 c1 c2 c3
  simp only [errG]
  go_wp2_with fail
  refine (run_nil 0 0 (B 0) 0 now w3).mono ?_
  rintro e w4 ⟨rfl, hb4⟩
  have t1 := (hb4.block (w.heap.size + 1) (by have := HS.out.2.1; omega)).trans HT.out
  have HB4 := Lib.hid (HB3.out.trans (hb4.mono HB3.out.size))
  obtain ⟨q0, q1, q2, q3, y0, y1, y2, y3⟩ := four_at t1
  have HT := Lib.hid t1
  unfold stepV
  clear hb4 t1 d0 k1
  go_wp2_with fail
  have ho := below_put4 HB4.out (N := w.heap.size + 1) (by omega) (.int .i64 0) (.int .i64 0) (.int .i64 0) (.int .i64 0)
  obtain ⟨p0, p1, p2, p3⟩ := put4_cells HT.out (.int .i64 0) (.int .i64 0) (.int .i64 0) (.int .i64 0)
  unfold put4 at p0 p1 p2 p3 ho
  exact bodyPost_ret (v := .tuple #[.agg #[.int .i64 0, .int .i64 0, .int .i64 0, .int .i64 0], .int .i64 1]) (by simp [results, Try.results13, go_sem, p0, p1, p2, p3]) rfl ⟨rfl, ho⟩
set_option maxRecDepth 100000 in
set_option maxHeartbeats 4000000 in
theorem plan_err (k : Option Addr) (c : Int) (a : Option Addr) (n ca : Nat) (r b now er : Int) (w : World) (her : (er != 0) = true)
    (hF : ∀ W, Below w.heap.size w W → Calls Try.prog 13 #[.pointer k, conV c a n ca r b, .int .i64 now] W fun e w' => e = .returned (.tuple #[stepV 0 0 0 0, .int .i64 er]) ∧ Below W.heap.size W w') :
    Calls Try.prog 21 #[.pointer k, conV c a n ca r b, .int .i64 now] w fun e w' => e = .returned (.tuple #[.slice none 0 0, .int .i64 er]) ∧ Below w.heap.size w w' := by
  obtain ⟨B2, s0, sz⟩ := box1 w #[.int .i64 c, .slice a n ca, .int .i64 r, .int .i64 b] 27
  obtain ⟨c0, c1, c2, c3, -⟩ := four_at s0
  have hf := hF _ B2
  have HB := Lib.hid B2
  have her2 : (er == 0) = false := by simpa using her
  unfold stepV at *
  unfold conV at *
  clear B2 s0 sz hF
  go_enter Try.func21, Try.ntmps21
  go_wp2_with fail
  go_step3
  go_wp2_with fail
  generalize (w.alloc (.cells #[.int .i64 c, .slice a n ca, .int .i64 r, .int .i64 b] 27)) = W at HB hf c0 c1 c2 c3 ⊢
  refine hf.mono ?_
  rintro e w3 ⟨rfl, hb3⟩
  have HB3 := Lib.hid (HB.out.trans (hb3.mono HB.out.size))
  obtain ⟨bx, bn, bz⟩ := box1 w3 #[.int .i64 0, .int .i64 0, .int .i64 0, .int .i64 0] 29
  have HB4 := Lib.hid (HB3.out.trans (bx.mono HB3.out.size))
  clear hf hb3 c0 c1 c2 c3 bx bn bz
  go_wp2_with fail
  go_step3
  go_wp2_with fail
  go_loopw [9, 11, 12] (fun s9 s11 s12 wr => s9 = .slice none 0 0 ∧ s11 = .int .i64 er ∧ s12 = .bool false ∧ Hid (Below w.heap.size w wr)) (fun _ _ _ _ => 0)
  case atStart => exact ⟨rfl, rfl, rfl, HB4⟩
  case round =>
    obtain ⟨rfl, rfl, rfl, HBR⟩ := hrel
    go_wp2_with fail
    rw [Exit.noGoto_ret]
    go_ret2
    exact ⟨rfl, HBR.out⟩
set_option maxRecDepth 100000 in
set_option maxHeartbeats 16000000 in
theorem nobody_walk (c : Int) (a : Option Addr) (n ca : Nat) (r b : Int) (B P : Nat → Int) (now : Int) (w : World) (hS : Sps w a n B P) :
    Calls Try.prog 7 #[conV c a n ca r b, .int .i64 now] w fun e w' => e = .returned (.bool true) ∧ Below w.heap.size w w' := by
  obtain ⟨B2, s0, sz⟩ := box1 w #[.int .i64 c, .slice a n ca, .int .i64 r, .int .i64 b] 27
  have HE0_0 := Lib.hid s0
  have HB0 := Lib.hid B2
  have HZ0 := Lib.hid sz
  have hgd := rgood_any c a n ca r b B P (w.alloc (.cells #[.int .i64 c, .slice a n ca, .int .i64 r, .int .i64 b] 27)) (hS.kept B2)
  obtain ⟨y0, d0⟩ : ∃ z, decide (60 < (n : Int)) = z := ⟨_, rfl⟩
  have hml := hS.1
  unfold maxLen at hml
  obtain ⟨g, hg⟩ : ∃ z, goodC c n r b B P = z := ⟨_, rfl⟩
  have HFN := Lib.hid (fun (h : g = true) W (hb : Below w.heap.size w W) => first_nil c a n ca r b B P now W (hS.kept hb) (hg.trans h))
  have HPL := Lib.hid (fun (h : g = true) W (hb : Below w.heap.size w W) => plan_err none c a n ca r b now 1 W (by decide) (fun W' hb' => HFN.out h W' (hb.trans (hb'.mono hb.size))))
  rw [hg] at hgd
  clear hg
  obtain ⟨e0_0, e0_1, e0_2, e0_3, -⟩ := four_at HE0_0.out
  clear B2 sz s0
  clear hS
  unfold conV at *
  cases y0
  case true =>
    go_enter Try.func7, Try.ntmps7
    go_wp2_with fail
    generalize (w.alloc (.cells #[.int .i64 c, .slice a n ca, .int .i64 r, .int .i64 b] 27)) = W0 at HB0 HZ0 HE0_0 e0_0 e0_1 e0_2 e0_3 hgd ⊢
    refine (lives15 W0).mono ?_
    rintro e wl ⟨rfl, hb⟩
    have HBL := Lib.hid (HB0.out.trans (hb.mono HB0.out.size))
    clear hb
    go_wp2_with fail
    go_ret
    exact ⟨rfl, HBL.out⟩
  cases g
  case false =>
    go_enter Try.func7, Try.ntmps7
    go_wp2_with fail
    generalize (w.alloc (.cells #[.int .i64 c, .slice a n ca, .int .i64 r, .int .i64 b] 27)) = W0 at HB0 HZ0 HE0_0 e0_0 e0_1 e0_2 e0_3 hgd ⊢
    refine (hgd).mono ?_
    rintro e W1 ⟨rfl, hb⟩
    have HB1 := Lib.hid (HB0.out.trans (hb.mono HB0.out.size))
    have HE0_1 := Lib.hid (ex_below HE0_0.out hb)
    clear e0_0 e0_1 e0_2 e0_3 hb
    obtain ⟨e0_0, e0_1, e0_2, e0_3, -⟩ := four_at HE0_1.out
    go_wp2_with fail
    refine (lives15 W1).mono ?_
    rintro e wl ⟨rfl, hb⟩
    have HBL := Lib.hid (HB1.out.trans (hb.mono HB1.out.size))
    clear e0_0 e0_1 e0_2 e0_3 hb
    go_wp2_with fail
    go_ret
    exact ⟨rfl, HBL.out⟩
  go_enter Try.func7, Try.ntmps7
  go_wp2_with fail
  generalize (w.alloc (.cells #[.int .i64 c, .slice a n ca, .int .i64 r, .int .i64 b] 27)) = W0 at HB0 HZ0 HE0_0 e0_0 e0_1 e0_2 e0_3 hgd ⊢
  refine (hgd).mono ?_
  rintro e W1 ⟨rfl, hb⟩
  have HB1 := Lib.hid (HB0.out.trans (hb.mono HB0.out.size))
  have HE0_1 := Lib.hid (ex_below HE0_0.out hb)
  clear e0_0 e0_1 e0_2 e0_3 hb
  obtain ⟨e0_0, e0_1, e0_2, e0_3, -⟩ := four_at HE0_1.out
  go_wp2_with fail
  refine (HFN.out trivial W1 HB1.out).mono ?_
  rintro e W2 ⟨rfl, hb⟩
  have HB2 := Lib.hid (HB1.out.trans (hb.mono HB1.out.size))
  have HE0_2 := Lib.hid (ex_below HE0_1.out hb)
  unfold stepV at *
  clear e0_0 e0_1 e0_2 e0_3 hb
  obtain ⟨e0_0, e0_1, e0_2, e0_3, -⟩ := four_at HE0_2.out
  obtain ⟨bx, bn, -⟩ := box1 W2 #[.int .i64 0, .int .i64 0, .int .i64 0, .int .i64 0] 29
  have HB3 := Lib.hid (HB2.out.trans (bx.mono HB2.out.size))
  have HE0_3 := Lib.hid (ex_below HE0_2.out bx)
  have HE1_3 := Lib.hid bn
  clear e0_0 e0_1 e0_2 e0_3 bx bn
  obtain ⟨e0_0, e0_1, e0_2, e0_3, -⟩ := four_at HE0_3.out
  obtain ⟨e1_0, e1_1, e1_2, e1_3, -⟩ := four_at HE1_3.out
  go_wp2_with fail
  generalize W2.alloc (.cells #[.int .i64 0, .int .i64 0, .int .i64 0, .int .i64 0] 29) = W3 at HB3 HE0_3 HE1_3 e0_0 e0_1 e0_2 e0_3 e1_0 e1_1 e1_2 e1_3 ⊢
  go_wp2_with fail
  refine (go_nil now W3).mono ?_
  rintro e W4 ⟨rfl, hb⟩
  have HB4 := Lib.hid (HB3.out.trans (hb.mono HB3.out.size))
  have HE0_4 := Lib.hid (ex_below HE0_3.out hb)
  have HE1_4 := Lib.hid (ex_below HE1_3.out hb)
  unfold stepV at *
  clear e0_0 e0_1 e0_2 e0_3 e1_0 e1_1 e1_2 e1_3 hb
  obtain ⟨e0_0, e0_1, e0_2, e0_3, -⟩ := four_at HE0_4.out
  obtain ⟨e1_0, e1_1, e1_2, e1_3, -⟩ := four_at HE1_4.out
  obtain ⟨bx, bn, -⟩ := box1 W4 #[.int .i64 0, .int .i64 0, .int .i64 0, .int .i64 0] 29
  have HB5 := Lib.hid (HB4.out.trans (bx.mono HB4.out.size))
  have HE0_5 := Lib.hid (ex_below HE0_4.out bx)
  have HE1_5 := Lib.hid (ex_below HE1_4.out bx)
  have HE2_5 := Lib.hid bn
  clear e0_0 e0_1 e0_2 e0_3 e1_0 e1_1 e1_2 e1_3 bx bn
  obtain ⟨e0_0, e0_1, e0_2, e0_3, -⟩ := four_at HE0_5.out
  obtain ⟨e1_0, e1_1, e1_2, e1_3, -⟩ := four_at HE1_5.out
  obtain ⟨e2_0, e2_1, e2_2, e2_3, -⟩ := four_at HE2_5.out
  go_wp2_with fail
  generalize W4.alloc (.cells #[.int .i64 0, .int .i64 0, .int .i64 0, .int .i64 0] 29) = W5 at HB5 HE0_5 HE1_5 HE2_5 e0_0 e0_1 e0_2 e0_3 e1_0 e1_1 e1_2 e1_3 e2_0 e2_1 e2_2 e2_3 ⊢
  go_wp2_with fail
  refine (HPL.out trivial W5 HB5.out).mono ?_
  rintro e W6 ⟨rfl, hb⟩
  have HB6 := Lib.hid (HB5.out.trans (hb.mono HB5.out.size))
  have HE0_6 := Lib.hid (ex_below HE0_5.out hb)
  have HE1_6 := Lib.hid (ex_below HE1_5.out hb)
  have HE2_6 := Lib.hid (ex_below HE2_5.out hb)
  clear e0_0 e0_1 e0_2 e0_3 e1_0 e1_1 e1_2 e1_3 e2_0 e2_1 e2_2 e2_3 hb
  obtain ⟨e0_0, e0_1, e0_2, e0_3, -⟩ := four_at HE0_6.out
  obtain ⟨e1_0, e1_1, e1_2, e1_3, -⟩ := four_at HE1_6.out
  obtain ⟨e2_0, e2_1, e2_2, e2_3, -⟩ := four_at HE2_6.out
  have q2 := fun (w : World) => eql_step 0 0 0 0 w
  have g2 := guard_step .eql
  go_wp2_with fail
  refine (lives15 W6).mono ?_
  rintro e wl ⟨rfl, hb⟩
  have HBL := Lib.hid (HB6.out.trans (hb.mono HB6.out.size))
  clear e0_0 e0_1 e0_2 e0_3 e1_0 e1_1 e1_2 e1_3 e2_0 e2_1 e2_2 e2_3 hb
  go_wp2_with fail
  go_ret
  exact ⟨rfl, HBL.out⟩
end Go.Proofs.Ythnnbmofpmedhaa

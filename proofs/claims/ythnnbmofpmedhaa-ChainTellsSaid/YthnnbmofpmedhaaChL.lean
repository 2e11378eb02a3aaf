/- ChainTells. -/
import Derived.Test.YthnnbmofpmedhaaChK
namespace Go.Proofs.Ythnnbmofpmedhaa
open Go.RowKit
set_option maxRecDepth 100000 in
set_option maxHeartbeats 16000000 in
theorem tells_skip (off : Int) (a0 : Option Addr) (n0 ca0 : Nat) (b0 : Option Addr) (m0 cb0 : Nat) (F T G U : Nat → Int) (c : Int) (a : Option Addr) (n ca : Nat) (r b : Int) (B P : Nat → Int) (lv x1 x2 x3 : Int) (now : Int) (w : World) (hS0 : Sps w a0 n0 F T) (hR0 : Sps w b0 m0 G U) (hS : Sps w a n B P) (hz : ¬ ((n0 ≤ 60 ∧ m0 ≤ 60) ∧ n ≤ 60) ∨ checkE off F T n0 G U m0 ≠ 0) :
    Calls Try.prog 3 #[calV off a0 n0 ca0 b0 m0 cb0, conV c a n ca r b, stepV lv x1 x2 x3, .int .i64 now] w fun e w' => e = .returned (.bool true) ∧ Below w.heap.size w w' := by
  obtain ⟨B2, s0, s1, s2, sz⟩ := box3 w #[.int .i64 off, .slice a0 n0 ca0, .slice b0 m0 cb0] #[.int .i64 c, .slice a n ca, .int .i64 r, .int .i64 b] #[.int .i64 lv, .int .i64 x1, .int .i64 x2, .int .i64 x3] 24 27 29
  have HE0_0 := Lib.hid s0
  have HE1_0 := Lib.hid s1
  have HE2_0 := Lib.hid s2
  have HB0 := Lib.hid B2
  have HZ0 := Lib.hid sz
  have hli := light15 off a0 n0 ca0 b0 m0 cb0 c a n ca r b (((w.alloc (.cells #[.int .i64 off, .slice a0 n0 ca0, .slice b0 m0 cb0] 24)).alloc (.cells #[.int .i64 c, .slice a n ca, .int .i64 r, .int .i64 b] 27)).alloc (.cells #[.int .i64 lv, .int .i64 x1, .int .i64 x2, .int .i64 x3] 29)) hS0.1 hR0.1 hS.1
  have HCK := Lib.hid (fun W (hb : Below w.heap.size w W) => rcheck10 off a0 n0 ca0 F T b0 m0 cb0 G U W (hS0.kept hb) (hR0.kept hb))
  obtain ⟨x, hx⟩ : ∃ x, (decide (n0 ≤ 60 ∧ m0 ≤ 60) && decide (n ≤ 60)) = x := ⟨_, rfl⟩
  obtain ⟨z0, ez⟩ : ∃ z, checkE off F T n0 G U m0 = z := ⟨_, rfl⟩
  have hor : x = false ∨ (x = true ∧ (z0 != 0) = true) := by
    rw [← hx, ← ez]
    by_cases hl : (n0 ≤ 60 ∧ m0 ≤ 60) ∧ n ≤ 60
    · exact .inr ⟨by rw [decide_eq_true hl.1, decide_eq_true hl.2]; rfl, by simpa using hz.resolve_left (fun h => h hl)⟩
    · refine .inl ?_
      by_cases h1 : n0 ≤ 60 ∧ m0 ≤ 60
      · rw [decide_eq_false (fun h => hl ⟨h1, h⟩), Bool.and_false]
      · rw [decide_eq_false h1]; rfl
  rw [hx] at hli
  rw [ez] at HCK
  clear hx ez hz
  have e0_0 := cells_heap HE0_0.out 0
  have e0_1 := cells_heap HE0_0.out 1
  have e0_2 := cells_heap HE0_0.out 2
  obtain ⟨e1_0, e1_1, e1_2, e1_3, -⟩ := four_at HE1_0.out
  obtain ⟨e2_0, e2_1, e2_2, e2_3, -⟩ := four_at HE2_0.out
  clear B2 sz s0 s1 s2
  clear hS0 hR0 hS
  unfold stepV at *
  unfold conV at *
  unfold calV at *
  rcases hor with rfl | ⟨rfl, hzz⟩
  · go_enter Try.func3, Try.ntmps3
    go_wp2_with fail
    generalize (((w.alloc (.cells #[.int .i64 off, .slice a0 n0 ca0, .slice b0 m0 cb0] 24)).alloc (.cells #[.int .i64 c, .slice a n ca, .int .i64 r, .int .i64 b] 27)).alloc (.cells #[.int .i64 lv, .int .i64 x1, .int .i64 x2, .int .i64 x3] 29)) = W0 at HB0 HZ0 HE0_0 HE1_0 HE2_0 e0_0 e0_1 e0_2 e1_0 e1_1 e1_2 e1_3 e2_0 e2_1 e2_2 e2_3 hli ⊢
    refine (hli).mono ?_
    rintro e W1 ⟨rfl, hb⟩
    have HB1 := Lib.hid (HB0.out.trans (hb.mono HB0.out.size))
    have HE0_1 := Lib.hid (ex_below HE0_0.out hb)
    have HE1_1 := Lib.hid (ex_below HE1_0.out hb)
    have HE2_1 := Lib.hid (ex_below HE2_0.out hb)
    clear e0_0 e0_1 e0_2 e1_0 e1_1 e1_2 e1_3 e2_0 e2_1 e2_2 e2_3 hb
    have e0_0 := cells_heap HE0_1.out 0
    have e0_1 := cells_heap HE0_1.out 1
    have e0_2 := cells_heap HE0_1.out 2
    obtain ⟨e1_0, e1_1, e1_2, e1_3, -⟩ := four_at HE1_1.out
    obtain ⟨e2_0, e2_1, e2_2, e2_3, -⟩ := four_at HE2_1.out
    go_wp2_with fail
    refine (lives15 W1).mono ?_
    rintro e wl ⟨rfl, hb⟩
    have HBL := Lib.hid (HB1.out.trans (hb.mono HB1.out.size))
    clear e0_0 e0_1 e0_2 e1_0 e1_1 e1_2 e1_3 e2_0 e2_1 e2_2 e2_3 hb
    go_wp2_with fail
    go_ret
    exact ⟨rfl, HBL.out⟩
  · go_enter Try.func3, Try.ntmps3
    go_wp2_with fail
    generalize (((w.alloc (.cells #[.int .i64 off, .slice a0 n0 ca0, .slice b0 m0 cb0] 24)).alloc (.cells #[.int .i64 c, .slice a n ca, .int .i64 r, .int .i64 b] 27)).alloc (.cells #[.int .i64 lv, .int .i64 x1, .int .i64 x2, .int .i64 x3] 29)) = W0 at HB0 HZ0 HE0_0 HE1_0 HE2_0 e0_0 e0_1 e0_2 e1_0 e1_1 e1_2 e1_3 e2_0 e2_1 e2_2 e2_3 hli ⊢
    refine (hli).mono ?_
    rintro e W1 ⟨rfl, hb⟩
    have HB1 := Lib.hid (HB0.out.trans (hb.mono HB0.out.size))
    have HE0_1 := Lib.hid (ex_below HE0_0.out hb)
    have HE1_1 := Lib.hid (ex_below HE1_0.out hb)
    have HE2_1 := Lib.hid (ex_below HE2_0.out hb)
    clear e0_0 e0_1 e0_2 e1_0 e1_1 e1_2 e1_3 e2_0 e2_1 e2_2 e2_3 hb
    have e0_0 := cells_heap HE0_1.out 0
    have e0_1 := cells_heap HE0_1.out 1
    have e0_2 := cells_heap HE0_1.out 2
    obtain ⟨e1_0, e1_1, e1_2, e1_3, -⟩ := four_at HE1_1.out
    obtain ⟨e2_0, e2_1, e2_2, e2_3, -⟩ := four_at HE2_1.out
    go_wp2_with fail
    refine (HCK.out W1 HB1.out).mono ?_
    rintro e W2 ⟨rfl, hb⟩
    have HB2 := Lib.hid (HB1.out.trans (hb.mono HB1.out.size))
    have HE0_2 := Lib.hid (ex_below HE0_1.out hb)
    have HE1_2 := Lib.hid (ex_below HE1_1.out hb)
    have HE2_2 := Lib.hid (ex_below HE2_1.out hb)
    clear e0_0 e0_1 e0_2 e1_0 e1_1 e1_2 e1_3 e2_0 e2_1 e2_2 e2_3 hb
    have e0_0 := cells_heap HE0_2.out 0
    have e0_1 := cells_heap HE0_2.out 1
    have e0_2 := cells_heap HE0_2.out 2
    obtain ⟨e1_0, e1_1, e1_2, e1_3, -⟩ := four_at HE1_2.out
    obtain ⟨e2_0, e2_1, e2_2, e2_3, -⟩ := four_at HE2_2.out
    go_wp2_with fail
    refine (lives15 W2).mono ?_
    rintro e wl ⟨rfl, hb⟩
    have HBL := Lib.hid (HB2.out.trans (hb.mono HB2.out.size))
    clear e0_0 e0_1 e0_2 e1_0 e1_1 e1_2 e1_3 e2_0 e2_1 e2_2 e2_3 hb
    go_wp2_with fail
    go_ret
    exact ⟨rfl, HBL.out⟩
set_option maxRecDepth 100000 in
set_option maxHeartbeats 16000000 in
theorem tells_ok (off : Int) (a0 : Option Addr) (n0 ca0 : Nat) (b0 : Option Addr) (m0 cb0 : Nat) (F T G U : Nat → Int) (c : Int) (a : Option Addr) (n ca : Nat) (r b : Int) (B P : Nat → Int) (lv x1 x2 x3 : Int) (now : Int) (w : World) (hS0 : Sps w a0 n0 F T) (hR0 : Sps w b0 m0 G U) (hS : Sps w a n B P) (hl : n0 ≤ 60 ∧ m0 ≤ 60) (hl2 : n ≤ 60) (hz : checkE off F T n0 G U m0 = 0) :
    Calls Try.prog 3 #[calV off a0 n0 ca0 b0 m0 cb0, conV c a n ca r b, stepV lv x1 x2 x3, .int .i64 now] w fun e w' => e = .returned (.bool true) ∧ Below w.heap.size w w' := by
  obtain ⟨B2, s0, s1, s2, sz⟩ := box3 w #[.int .i64 off, .slice a0 n0 ca0, .slice b0 m0 cb0] #[.int .i64 c, .slice a n ca, .int .i64 r, .int .i64 b] #[.int .i64 lv, .int .i64 x1, .int .i64 x2, .int .i64 x3] 24 27 29
  have HE0_0 := Lib.hid s0
  have HE1_0 := Lib.hid s1
  have HE2_0 := Lib.hid s2
  have HB0 := Lib.hid B2
  have HZ0 := Lib.hid sz
  have hli := light15 off a0 n0 ca0 b0 m0 cb0 c a n ca r b (((w.alloc (.cells #[.int .i64 off, .slice a0 n0 ca0, .slice b0 m0 cb0] 24)).alloc (.cells #[.int .i64 c, .slice a n ca, .int .i64 r, .int .i64 b] 27)).alloc (.cells #[.int .i64 lv, .int .i64 x1, .int .i64 x2, .int .i64 x3] 29)) hS0.1 hR0.1 hS.1
  rw [decide_eq_true hl, decide_eq_true hl2] at hli
  have hd := checkE_ok hz
  have HCK := Lib.hid (fun W (hb : Below w.heap.size w W) => rcheck10 off a0 n0 ca0 F T b0 m0 cb0 G U W (hS0.kept hb) (hR0.kept hb))
  have HNW := Lib.hid (fun W (hb : Below w.heap.size w W) => clock_in off a0 n0 ca0 b0 m0 cb0 F T G U W (hS0.kept hb) (hR0.kept hb) hz)
  have HFI := Lib.hid (fun W L (hb : Below w.heap.size w W) (hC : Ck L (⟨F, T, n0, G, U, m0, off⟩ : Cal) W) => first_all hC hd c a n ca r b B P now (hS.kept hb))
  have HNX := Lib.hid (fun W L (hb : Below w.heap.size w W) (hC : Ck L (⟨F, T, n0, G, U, m0, off⟩ : Cal) W) => next_all hC hd c a n ca r b B P lv x1 x2 x3 now (hS.kept hb))
  have HRF : Hid (∀ W, Below w.heap.size w W → Calls Try.prog 14 #[calV off a0 n0 ca0 b0 m0 cb0, conV c a n ca r b, .int .i64 now] W (RGave W (Fst (⟨F, T, n0, G, U, m0, off⟩ : Cal) (goodC c n r b B P) (B 0) now))) := Lib.hid (fun W hb => rfirst_all (D := (⟨F, T, n0, G, U, m0, off⟩ : Cal)) hd a0 ca0 b0 cb0 c a n ca r b B P now W (hS0.kept hb) (hR0.kept hb) (hS.kept hb))
  have HRN : Hid (∀ W, Below w.heap.size w W → Calls Try.prog 16 #[calV off a0 n0 ca0 b0 m0 cb0, conV c a n ca r b, stepV lv x1 x2 x3, .int .i64 now] W (RGave3 W (Nx (⟨F, T, n0, G, U, m0, off⟩ : Cal) (goodC c n r b B P) n B lv now))) := Lib.hid (fun W hb => rnext_all (D := (⟨F, T, n0, G, U, m0, off⟩ : Cal)) hd a0 ca0 b0 cb0 c a n ca r b B P lv x1 x2 x3 now W (hS0.kept hb) (hR0.kept hb) (hS.kept hb))
  rw [hz] at HCK
  obtain ⟨D, eD⟩ : ∃ D : Cal, (⟨F, T, n0, G, U, m0, off⟩ : Cal) = D := ⟨_, rfl⟩
  rw [eD] at HNW HFI HNX HRF HRN
  clear hz eD hd
  have e0_0 := cells_heap HE0_0.out 0
  have e0_1 := cells_heap HE0_0.out 1
  have e0_2 := cells_heap HE0_0.out 2
  obtain ⟨e1_0, e1_1, e1_2, e1_3, -⟩ := four_at HE1_0.out
  obtain ⟨e2_0, e2_1, e2_2, e2_3, -⟩ := four_at HE2_0.out
  clear B2 sz s0 s1 s2
  clear hS0 hR0 hS hl hl2
  unfold stepV at *
  unfold conV at *
  unfold calV at *
  go_enter Try.func3, Try.ntmps3
  go_wp2_with fail
  generalize (((w.alloc (.cells #[.int .i64 off, .slice a0 n0 ca0, .slice b0 m0 cb0] 24)).alloc (.cells #[.int .i64 c, .slice a n ca, .int .i64 r, .int .i64 b] 27)).alloc (.cells #[.int .i64 lv, .int .i64 x1, .int .i64 x2, .int .i64 x3] 29)) = W0 at HB0 HZ0 HE0_0 HE1_0 HE2_0 e0_0 e0_1 e0_2 e1_0 e1_1 e1_2 e1_3 e2_0 e2_1 e2_2 e2_3 hli ⊢
  refine (hli).mono ?_
  rintro e W1 ⟨rfl, hb⟩
  have HB1 := Lib.hid (HB0.out.trans (hb.mono HB0.out.size))
  have HE0_1 := Lib.hid (ex_below HE0_0.out hb)
  have HE1_1 := Lib.hid (ex_below HE1_0.out hb)
  have HE2_1 := Lib.hid (ex_below HE2_0.out hb)
  clear e0_0 e0_1 e0_2 e1_0 e1_1 e1_2 e1_3 e2_0 e2_1 e2_2 e2_3 hb
  have e0_0 := cells_heap HE0_1.out 0
  have e0_1 := cells_heap HE0_1.out 1
  have e0_2 := cells_heap HE0_1.out 2
  obtain ⟨e1_0, e1_1, e1_2, e1_3, -⟩ := four_at HE1_1.out
  obtain ⟨e2_0, e2_1, e2_2, e2_3, -⟩ := four_at HE2_1.out
  go_wp2_with fail
  refine (HCK.out W1 HB1.out).mono ?_
  rintro e W2 ⟨rfl, hb⟩
  have HB2 := Lib.hid (HB1.out.trans (hb.mono HB1.out.size))
  have HE0_2 := Lib.hid (ex_below HE0_1.out hb)
  have HE1_2 := Lib.hid (ex_below HE1_1.out hb)
  have HE2_2 := Lib.hid (ex_below HE2_1.out hb)
  clear e0_0 e0_1 e0_2 e1_0 e1_1 e1_2 e1_3 e2_0 e2_1 e2_2 e2_3 hb
  have e0_0 := cells_heap HE0_2.out 0
  have e0_1 := cells_heap HE0_2.out 1
  have e0_2 := cells_heap HE0_2.out 2
  obtain ⟨e1_0, e1_1, e1_2, e1_3, -⟩ := four_at HE1_2.out
  obtain ⟨e2_0, e2_1, e2_2, e2_3, -⟩ := four_at HE2_2.out
  go_wp2_with fail
  refine (HNW.out W2 HB2.out).mono ?_
  rintro e W3 ⟨L, rfl, hC, hle, hb⟩
  have HB3 := Lib.hid (HB2.out.trans (hb.mono HB2.out.size))
  have HE0_3 := Lib.hid (ex_below HE0_2.out hb)
  have HE1_3 := Lib.hid (ex_below HE1_2.out hb)
  have HE2_3 := Lib.hid (ex_below HE2_2.out hb)
  have HN0 : Hid (w.heap.size ≠ L.C) := Lib.hid (by have := ex_lt HE0_2.out; omega)
  have HN1 : Hid (w.heap.size + 1 ≠ L.C) := Lib.hid (by have := ex_lt HE1_2.out; omega)
  have HN2 : Hid (w.heap.size + 1 + 1 ≠ L.C) := Lib.hid (by have := ex_lt HE2_2.out; omega)
  have HC3 := Lib.hid hC
  have HL : Hid (w.heap.size ≤ L.C) := Lib.hid (Nat.le_trans HB2.out.size hle)
  clear e0_0 e0_1 e0_2 e1_0 e1_1 e1_2 e1_3 e2_0 e2_1 e2_2 e2_3 hb hC hle
  have e0_0 := cells_heap HE0_3.out 0
  have e0_1 := cells_heap HE0_3.out 1
  have e0_2 := cells_heap HE0_3.out 2
  obtain ⟨e1_0, e1_1, e1_2, e1_3, -⟩ := four_at HE1_3.out
  obtain ⟨e2_0, e2_1, e2_2, e2_3, -⟩ := four_at HE2_3.out
  go_wp2_with fail
  refine (HFI.out W3 L HB3.out HC3.out).mono ?_
  rintro e W4 ⟨l, f, cc, d, er, rfl, hR, hC, ho⟩
  have HB4 := Lib.hid (HB3.out.trans (ho.toBelow HB3.out.size (fun k hk => hk ▸ HL.out)))
  have HE0_4 := Lib.hid (ex_only HE0_3.out ho HN0.out)
  have HE1_4 := Lib.hid (ex_only HE1_3.out ho HN1.out)
  have HE2_4 := Lib.hid (ex_only HE2_3.out ho HN2.out)
  have HC4 := Lib.hid hC
  have HR1 := Lib.hid hR
  clear hR
  unfold stepV at *
  clear e0_0 e0_1 e0_2 e1_0 e1_1 e1_2 e1_3 e2_0 e2_1 e2_2 e2_3 ho hC
  have e0_0 := cells_heap HE0_4.out 0
  have e0_1 := cells_heap HE0_4.out 1
  have e0_2 := cells_heap HE0_4.out 2
  obtain ⟨e1_0, e1_1, e1_2, e1_3, -⟩ := four_at HE1_4.out
  obtain ⟨e2_0, e2_1, e2_2, e2_3, -⟩ := four_at HE2_4.out
  obtain ⟨bx, bn, -⟩ := box1 W4 #[.int .i64 l, .int .i64 f, .int .i64 cc, .int .i64 d] 29
  have HB5 := Lib.hid (HB4.out.trans (bx.mono HB4.out.size))
  have HE0_5 := Lib.hid (ex_below HE0_4.out bx)
  have HE1_5 := Lib.hid (ex_below HE1_4.out bx)
  have HE2_5 := Lib.hid (ex_below HE2_4.out bx)
  have HE3_5 := Lib.hid bn
  have HN3 : Hid (W4.heap.size ≠ L.C) := Lib.hid (by have := HC4.out.pl.lt; omega)
  have HC5 := Lib.hid (HC4.out.kept bx)
  clear e0_0 e0_1 e0_2 e1_0 e1_1 e1_2 e1_3 e2_0 e2_1 e2_2 e2_3 bx bn
  have e0_0 := cells_heap HE0_5.out 0
  have e0_1 := cells_heap HE0_5.out 1
  have e0_2 := cells_heap HE0_5.out 2
  obtain ⟨e1_0, e1_1, e1_2, e1_3, -⟩ := four_at HE1_5.out
  obtain ⟨e2_0, e2_1, e2_2, e2_3, -⟩ := four_at HE2_5.out
  obtain ⟨e3_0, e3_1, e3_2, e3_3, -⟩ := four_at HE3_5.out
  go_wp2_with fail
  generalize W4.alloc (.cells #[.int .i64 l, .int .i64 f, .int .i64 cc, .int .i64 d] 29) = W5 at HB5 HE0_5 HE1_5 HE2_5 HE3_5 HC5 e0_0 e0_1 e0_2 e1_0 e1_1 e1_2 e1_3 e2_0 e2_1 e2_2 e2_3 e3_0 e3_1 e3_2 e3_3 ⊢
  go_wp2_with fail
  refine (HRF.out W5 HB5.out).mono ?_
  rintro e W6 ⟨l', f', c', d', er', rfl, hR', hb⟩
  have HB6 := Lib.hid (HB5.out.trans (hb.mono HB5.out.size))
  have HE0_6 := Lib.hid (ex_below HE0_5.out hb)
  have HE1_6 := Lib.hid (ex_below HE1_5.out hb)
  have HE2_6 := Lib.hid (ex_below HE2_5.out hb)
  have HE3_6 := Lib.hid (ex_below HE3_5.out hb)
  have HC6 := Lib.hid (HC5.out.kept hb)
  obtain ⟨rfl, rfl, rfl, rfl, rfl⟩ := HR1.out.same hR'
  clear hR'
  unfold stepV at *
  clear e0_0 e0_1 e0_2 e1_0 e1_1 e1_2 e1_3 e2_0 e2_1 e2_2 e2_3 e3_0 e3_1 e3_2 e3_3 hb
  have e0_0 := cells_heap HE0_6.out 0
  have e0_1 := cells_heap HE0_6.out 1
  have e0_2 := cells_heap HE0_6.out 2
  obtain ⟨e1_0, e1_1, e1_2, e1_3, -⟩ := four_at HE1_6.out
  obtain ⟨e2_0, e2_1, e2_2, e2_3, -⟩ := four_at HE2_6.out
  obtain ⟨e3_0, e3_1, e3_2, e3_3, -⟩ := four_at HE3_6.out
  obtain ⟨bx, bn, -⟩ := box1 W6 #[.int .i64 l, .int .i64 f, .int .i64 cc, .int .i64 d] 39
  have HB7 := Lib.hid (HB6.out.trans (bx.mono HB6.out.size))
  have HE0_7 := Lib.hid (ex_below HE0_6.out bx)
  have HE1_7 := Lib.hid (ex_below HE1_6.out bx)
  have HE2_7 := Lib.hid (ex_below HE2_6.out bx)
  have HE3_7 := Lib.hid (ex_below HE3_6.out bx)
  have HE4_7 := Lib.hid bn
  have HN4 : Hid (W6.heap.size ≠ L.C) := Lib.hid (by have := HC6.out.pl.lt; omega)
  have HC7 := Lib.hid (HC6.out.kept bx)
  clear e0_0 e0_1 e0_2 e1_0 e1_1 e1_2 e1_3 e2_0 e2_1 e2_2 e2_3 e3_0 e3_1 e3_2 e3_3 bx bn
  have e0_0 := cells_heap HE0_7.out 0
  have e0_1 := cells_heap HE0_7.out 1
  have e0_2 := cells_heap HE0_7.out 2
  obtain ⟨e1_0, e1_1, e1_2, e1_3, -⟩ := four_at HE1_7.out
  obtain ⟨e2_0, e2_1, e2_2, e2_3, -⟩ := four_at HE2_7.out
  obtain ⟨e3_0, e3_1, e3_2, e3_3, -⟩ := four_at HE3_7.out
  obtain ⟨e4_0, e4_1, e4_2, e4_3, -⟩ := four_at HE4_7.out
  go_wp2_with fail
  generalize W6.alloc (.cells #[.int .i64 l, .int .i64 f, .int .i64 cc, .int .i64 d] 39) = W7 at HB7 HE0_7 HE1_7 HE2_7 HE3_7 HE4_7 HC7 e0_0 e0_1 e0_2 e1_0 e1_1 e1_2 e1_3 e2_0 e2_1 e2_2 e2_3 e3_0 e3_1 e3_2 e3_3 e4_0 e4_1 e4_2 e4_3 ⊢
  go_wp2_with fail
  refine (HNX.out W7 L HB7.out HC7.out).mono ?_
  rintro e W8 ⟨u0, u1, u2, u3, ok, en, rfl, hR, hC, ho⟩
  have HB8 := Lib.hid (HB7.out.trans (ho.toBelow HB7.out.size (fun k hk => hk ▸ HL.out)))
  have HE0_8 := Lib.hid (ex_only HE0_7.out ho HN0.out)
  have HE1_8 := Lib.hid (ex_only HE1_7.out ho HN1.out)
  have HE2_8 := Lib.hid (ex_only HE2_7.out ho HN2.out)
  have HE3_8 := Lib.hid (ex_only HE3_7.out ho HN3.out)
  have HE4_8 := Lib.hid (ex_only HE4_7.out ho HN4.out)
  have HC8 := Lib.hid hC
  have HR2 := Lib.hid hR
  clear hR
  unfold stepV at *
  clear e0_0 e0_1 e0_2 e1_0 e1_1 e1_2 e1_3 e2_0 e2_1 e2_2 e2_3 e3_0 e3_1 e3_2 e3_3 e4_0 e4_1 e4_2 e4_3 ho hC
  have e0_0 := cells_heap HE0_8.out 0
  have e0_1 := cells_heap HE0_8.out 1
  have e0_2 := cells_heap HE0_8.out 2
  obtain ⟨e1_0, e1_1, e1_2, e1_3, -⟩ := four_at HE1_8.out
  obtain ⟨e2_0, e2_1, e2_2, e2_3, -⟩ := four_at HE2_8.out
  obtain ⟨e3_0, e3_1, e3_2, e3_3, -⟩ := four_at HE3_8.out
  obtain ⟨e4_0, e4_1, e4_2, e4_3, -⟩ := four_at HE4_8.out
  obtain ⟨bx, bn, -⟩ := box1 W8 #[.int .i64 u0, .int .i64 u1, .int .i64 u2, .int .i64 u3] 29
  have HB9 := Lib.hid (HB8.out.trans (bx.mono HB8.out.size))
  have HE0_9 := Lib.hid (ex_below HE0_8.out bx)
  have HE1_9 := Lib.hid (ex_below HE1_8.out bx)
  have HE2_9 := Lib.hid (ex_below HE2_8.out bx)
  have HE3_9 := Lib.hid (ex_below HE3_8.out bx)
  have HE4_9 := Lib.hid (ex_below HE4_8.out bx)
  have HE5_9 := Lib.hid bn
  have HN5 : Hid (W8.heap.size ≠ L.C) := Lib.hid (by have := HC8.out.pl.lt; omega)
  have HC9 := Lib.hid (HC8.out.kept bx)
  clear e0_0 e0_1 e0_2 e1_0 e1_1 e1_2 e1_3 e2_0 e2_1 e2_2 e2_3 e3_0 e3_1 e3_2 e3_3 e4_0 e4_1 e4_2 e4_3 bx bn
  have e0_0 := cells_heap HE0_9.out 0
  have e0_1 := cells_heap HE0_9.out 1
  have e0_2 := cells_heap HE0_9.out 2
  obtain ⟨e1_0, e1_1, e1_2, e1_3, -⟩ := four_at HE1_9.out
  obtain ⟨e2_0, e2_1, e2_2, e2_3, -⟩ := four_at HE2_9.out
  obtain ⟨e3_0, e3_1, e3_2, e3_3, -⟩ := four_at HE3_9.out
  obtain ⟨e4_0, e4_1, e4_2, e4_3, -⟩ := four_at HE4_9.out
  obtain ⟨e5_0, e5_1, e5_2, e5_3, -⟩ := four_at HE5_9.out
  go_wp2_with fail
  generalize W8.alloc (.cells #[.int .i64 u0, .int .i64 u1, .int .i64 u2, .int .i64 u3] 29) = W9 at HB9 HE0_9 HE1_9 HE2_9 HE3_9 HE4_9 HE5_9 HC9 e0_0 e0_1 e0_2 e1_0 e1_1 e1_2 e1_3 e2_0 e2_1 e2_2 e2_3 e3_0 e3_1 e3_2 e3_3 e4_0 e4_1 e4_2 e4_3 e5_0 e5_1 e5_2 e5_3 ⊢
  go_wp2_with fail
  refine (HRN.out W9 HB9.out).mono ?_
  rintro e W10 ⟨u0', u1', u2', u3', ok', en', rfl, hR', hb⟩
  have HB10 := Lib.hid (HB9.out.trans (hb.mono HB9.out.size))
  have HE0_10 := Lib.hid (ex_below HE0_9.out hb)
  have HE1_10 := Lib.hid (ex_below HE1_9.out hb)
  have HE2_10 := Lib.hid (ex_below HE2_9.out hb)
  have HE3_10 := Lib.hid (ex_below HE3_9.out hb)
  have HE4_10 := Lib.hid (ex_below HE4_9.out hb)
  have HE5_10 := Lib.hid (ex_below HE5_9.out hb)
  have HC10 := Lib.hid (HC9.out.kept hb)
  obtain ⟨rfl, rfl, rfl, rfl, rfl, rfl⟩ := HR2.out.same hR'
  clear hR'
  unfold stepV at *
  clear e0_0 e0_1 e0_2 e1_0 e1_1 e1_2 e1_3 e2_0 e2_1 e2_2 e2_3 e3_0 e3_1 e3_2 e3_3 e4_0 e4_1 e4_2 e4_3 e5_0 e5_1 e5_2 e5_3 hb
  have e0_0 := cells_heap HE0_10.out 0
  have e0_1 := cells_heap HE0_10.out 1
  have e0_2 := cells_heap HE0_10.out 2
  obtain ⟨e1_0, e1_1, e1_2, e1_3, -⟩ := four_at HE1_10.out
  obtain ⟨e2_0, e2_1, e2_2, e2_3, -⟩ := four_at HE2_10.out
  obtain ⟨e3_0, e3_1, e3_2, e3_3, -⟩ := four_at HE3_10.out
  obtain ⟨e4_0, e4_1, e4_2, e4_3, -⟩ := four_at HE4_10.out
  obtain ⟨e5_0, e5_1, e5_2, e5_3, -⟩ := four_at HE5_10.out
  obtain ⟨bx, bn, -⟩ := box1 W10 #[.int .i64 u0, .int .i64 u1, .int .i64 u2, .int .i64 u3] 39
  have HB11 := Lib.hid (HB10.out.trans (bx.mono HB10.out.size))
  have HE0_11 := Lib.hid (ex_below HE0_10.out bx)
  have HE1_11 := Lib.hid (ex_below HE1_10.out bx)
  have HE2_11 := Lib.hid (ex_below HE2_10.out bx)
  have HE3_11 := Lib.hid (ex_below HE3_10.out bx)
  have HE4_11 := Lib.hid (ex_below HE4_10.out bx)
  have HE5_11 := Lib.hid (ex_below HE5_10.out bx)
  have HE6_11 := Lib.hid bn
  have HN6 : Hid (W10.heap.size ≠ L.C) := Lib.hid (by have := HC10.out.pl.lt; omega)
  have HC11 := Lib.hid (HC10.out.kept bx)
  clear e0_0 e0_1 e0_2 e1_0 e1_1 e1_2 e1_3 e2_0 e2_1 e2_2 e2_3 e3_0 e3_1 e3_2 e3_3 e4_0 e4_1 e4_2 e4_3 e5_0 e5_1 e5_2 e5_3 bx bn
  have e0_0 := cells_heap HE0_11.out 0
  have e0_1 := cells_heap HE0_11.out 1
  have e0_2 := cells_heap HE0_11.out 2
  obtain ⟨e1_0, e1_1, e1_2, e1_3, -⟩ := four_at HE1_11.out
  obtain ⟨e2_0, e2_1, e2_2, e2_3, -⟩ := four_at HE2_11.out
  obtain ⟨e3_0, e3_1, e3_2, e3_3, -⟩ := four_at HE3_11.out
  obtain ⟨e4_0, e4_1, e4_2, e4_3, -⟩ := four_at HE4_11.out
  obtain ⟨e5_0, e5_1, e5_2, e5_3, -⟩ := four_at HE5_11.out
  obtain ⟨e6_0, e6_1, e6_2, e6_3, -⟩ := four_at HE6_11.out
  go_wp2_with fail
  generalize W10.alloc (.cells #[.int .i64 u0, .int .i64 u1, .int .i64 u2, .int .i64 u3] 39) = W11 at HB11 HE0_11 HE1_11 HE2_11 HE3_11 HE4_11 HE5_11 HE6_11 HC11 e0_0 e0_1 e0_2 e1_0 e1_1 e1_2 e1_3 e2_0 e2_1 e2_2 e2_3 e3_0 e3_1 e3_2 e3_3 e4_0 e4_1 e4_2 e4_3 e5_0 e5_1 e5_2 e5_3 e6_0 e6_1 e6_2 e6_3 ⊢
  have q1 := fun (w : World) => eql_rstep l f cc d w
  have q2 := fun (w : World) => eql_rstep u0 u1 u2 u3 w
  have g1 := guard_rstep .eql
  go_wp2_with fail
  refine (lives15 W11).mono ?_
  rintro e wl ⟨rfl, hb⟩
  have HBL := Lib.hid (HB11.out.trans (hb.mono HB11.out.size))
  clear e0_0 e0_1 e0_2 e1_0 e1_1 e1_2 e1_3 e2_0 e2_1 e2_2 e2_3 e3_0 e3_1 e3_2 e3_3 e4_0 e4_1 e4_2 e4_3 e5_0 e5_1 e5_2 e5_3 e6_0 e6_1 e6_2 e6_3 hb
  go_wp2_with fail
  go_ret
  exact ⟨rfl, HBL.out⟩
theorem tells_walk (off : Int) (a0 : Option Addr) (n0 ca0 : Nat) (b0 : Option Addr) (m0 cb0 : Nat) (F T G U : Nat → Int) (c : Int) (a : Option Addr) (n ca : Nat) (r b : Int) (B P : Nat → Int) (lv x1 x2 x3 : Int) (now : Int) (w : World) (hS0 : Sps w a0 n0 F T) (hR0 : Sps w b0 m0 G U) (hS : Sps w a n B P) :
    Calls Try.prog 3 #[calV off a0 n0 ca0 b0 m0 cb0, conV c a n ca r b, stepV lv x1 x2 x3, .int .i64 now] w fun e w' => e = .returned (.bool true) ∧ Below w.heap.size w w' := by
  by_cases hz : ¬ ((n0 ≤ 60 ∧ m0 ≤ 60) ∧ n ≤ 60) ∨ checkE off F T n0 G U m0 ≠ 0
  · exact tells_skip off a0 n0 ca0 b0 m0 cb0 F T G U c a n ca r b B P lv x1 x2 x3 now w hS0 hR0 hS hz
  · simp only [not_or, Decidable.not_not] at hz
    exact tells_ok off a0 n0 ca0 b0 m0 cb0 F T G U c a n ca r b B P lv x1 x2 x3 now w hS0 hR0 hS hz.1.1 hz.1.2 hz.2
end Go.Proofs.Ythnnbmofpmedhaa

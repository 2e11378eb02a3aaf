/- ChainStands. -/
import Derived.Test.YthnnbmofpmedhaaChK
namespace Go.Proofs.Ythnnbmofpmedhaa
open Go.RowKit
set_option maxRecDepth 100000 in
set_option maxHeartbeats 4000000 in
theorem go_state (k : Option Addr) (lv fr b d now : Int) (w : World) (hd0 : d ≠ 0) :
    Calls Try.prog 19 #[.pointer k, stepV lv fr b d, .int .i64 now] w fun e w' => e = .returned (.tuple #[stepV 0 0 0 0, .int .i64 33]) ∧ Below w.heap.size w w' := by
  obtain ⟨B2, s0, s1, sz⟩ := box2 w #[.int .i64 lv, .int .i64 fr, .int .i64 b, .int .i64 d] #[.int .i64 0, .int .i64 0, .int .i64 0, .int .i64 0] 29 29
  obtain ⟨c0, c1, c2, c3, -⟩ := four_at s0
  obtain ⟨q0, q1, q2, q3, y0, y1, y2, y3⟩ := four_at s1
  have HB := Lib.hid B2
  unfold stepV
  have d0 : (d != 0) = true := by simpa using hd0
  clear B2 s0 s1 sz
  go_enter Try.func19, Try.ntmps19
  go_wp2_with fail
  exact bodyPost_ret (v := .tuple #[.agg #[.int .i64 0, .int .i64 0, .int .i64 0, .int .i64 0], .int .i64 33]) (by simp [results, Try.results19, go_sem, q0, q1, q2, q3]) rfl ⟨rfl, HB.out⟩
theorem go_two {L : Loc} {D : Cal} {w : World} (hd : D.ok) (lv fr b d now : Int) (h : d = 0 → Ck L D w) (b1 : b ≤ 9223372036854775807) :
    Calls Try.prog 19 #[.pointer (some ⟨L.K, 0, none⟩), stepV lv fr b d, .int .i64 now] w fun e w' => ∃ l f c x er, e = .returned (.tuple #[stepV l f c x, .int .i64 er]) ∧ Went D lv b d now l f c x er ∧ Only (· = L.C) w w' := by
  by_cases hd0 : d = 0
  · refine (go_any (h hd0) hd lv fr b d now b1).mono ?_
    rintro e w' ⟨l, f, c, x, er, rfl, hR, _, ho⟩
    exact ⟨l, f, c, x, er, rfl, hR, ho⟩
  · refine (go_state _ lv fr b d now w hd0).mono ?_
    rintro e w' ⟨rfl, hb⟩
    exact ⟨0, 0, 0, 0, 33, rfl, .inl ⟨hd0, rfl, rfl, rfl, rfl, rfl⟩, Only.below hb⟩
set_option maxRecDepth 100000 in
set_option maxHeartbeats 16000000 in
theorem stands_skip (off : Int) (a0 : Option Addr) (n0 ca0 : Nat) (b0 : Option Addr) (m0 cb0 : Nat) (F T G U : Nat → Int) (lv x1 x2 x3 : Int) (now : Int) (w : World) (hS0 : Sps w a0 n0 F T) (hR0 : Sps w b0 m0 G U) (hz : ¬ (n0 ≤ 60 ∧ m0 ≤ 60) ∨ checkE off F T n0 G U m0 ≠ 0) :
    Calls Try.prog 4 #[calV off a0 n0 ca0 b0 m0 cb0, stepV lv x1 x2 x3, .int .i64 now] w fun e w' => e = .returned (.bool true) ∧ Below w.heap.size w w' := by
  obtain ⟨B2, s0, s1, sz⟩ := box2 w #[.int .i64 off, .slice a0 n0 ca0, .slice b0 m0 cb0] #[.int .i64 lv, .int .i64 x1, .int .i64 x2, .int .i64 x3] 24 29
  have HE0_0 := Lib.hid s0
  have HE1_0 := Lib.hid s1
  have HB0 := Lib.hid B2
  have HZ0 := Lib.hid sz
  have hli := light15 off a0 n0 ca0 b0 m0 cb0 0 none 0 0 0 0 ((w.alloc (.cells #[.int .i64 off, .slice a0 n0 ca0, .slice b0 m0 cb0] 24)).alloc (.cells #[.int .i64 lv, .int .i64 x1, .int .i64 x2, .int .i64 x3] 29)) hS0.1 hR0.1 (by decide)
  have HCK := Lib.hid (fun W (hb : Below w.heap.size w W) => rcheck10 off a0 n0 ca0 F T b0 m0 cb0 G U W (hS0.kept hb) (hR0.kept hb))
  obtain ⟨x, hx⟩ : ∃ x, (decide (n0 ≤ 60 ∧ m0 ≤ 60) && decide (0 ≤ 60)) = x := ⟨_, rfl⟩
  obtain ⟨z0, ez⟩ : ∃ z, checkE off F T n0 G U m0 = z := ⟨_, rfl⟩
  have hor : x = false ∨ (x = true ∧ (z0 != 0) = true) := by
    rw [← hx, ← ez]
    by_cases hl : n0 ≤ 60 ∧ m0 ≤ 60
    · exact .inr ⟨by rw [decide_eq_true hl]; rfl, by simpa using hz.resolve_left (fun h => h hl)⟩
    · exact .inl (by rw [decide_eq_false hl]; rfl)
  rw [hx] at hli
  rw [ez] at HCK
  clear hx ez hz
  have e0_0 := cells_heap HE0_0.out 0
  have e0_1 := cells_heap HE0_0.out 1
  have e0_2 := cells_heap HE0_0.out 2
  obtain ⟨e1_0, e1_1, e1_2, e1_3, -⟩ := four_at HE1_0.out
  clear B2 sz s0 s1
  clear hS0 hR0
  unfold stepV at *
  unfold conV at *
  unfold calV at *
  rcases hor with rfl | ⟨rfl, hzz⟩
  · go_enter Try.func4, Try.ntmps4
    go_wp2_with fail
    generalize ((w.alloc (.cells #[.int .i64 off, .slice a0 n0 ca0, .slice b0 m0 cb0] 24)).alloc (.cells #[.int .i64 lv, .int .i64 x1, .int .i64 x2, .int .i64 x3] 29)) = W0 at HB0 HZ0 HE0_0 HE1_0 e0_0 e0_1 e0_2 e1_0 e1_1 e1_2 e1_3 hli ⊢
    refine (hli).mono ?_
    rintro e W1 ⟨rfl, hb⟩
    have HB1 := Lib.hid (HB0.out.trans (hb.mono HB0.out.size))
    have HE0_1 := Lib.hid (ex_below HE0_0.out hb)
    have HE1_1 := Lib.hid (ex_below HE1_0.out hb)
    clear e0_0 e0_1 e0_2 e1_0 e1_1 e1_2 e1_3 hb
    have e0_0 := cells_heap HE0_1.out 0
    have e0_1 := cells_heap HE0_1.out 1
    have e0_2 := cells_heap HE0_1.out 2
    obtain ⟨e1_0, e1_1, e1_2, e1_3, -⟩ := four_at HE1_1.out
    go_wp2_with fail
    refine (lives15 W1).mono ?_
    rintro e wl ⟨rfl, hb⟩
    have HBL := Lib.hid (HB1.out.trans (hb.mono HB1.out.size))
    clear e0_0 e0_1 e0_2 e1_0 e1_1 e1_2 e1_3 hb
    go_wp2_with fail
    go_ret
    exact ⟨rfl, HBL.out⟩
  · go_enter Try.func4, Try.ntmps4
    go_wp2_with fail
    generalize ((w.alloc (.cells #[.int .i64 off, .slice a0 n0 ca0, .slice b0 m0 cb0] 24)).alloc (.cells #[.int .i64 lv, .int .i64 x1, .int .i64 x2, .int .i64 x3] 29)) = W0 at HB0 HZ0 HE0_0 HE1_0 e0_0 e0_1 e0_2 e1_0 e1_1 e1_2 e1_3 hli ⊢
    refine (hli).mono ?_
    rintro e W1 ⟨rfl, hb⟩
    have HB1 := Lib.hid (HB0.out.trans (hb.mono HB0.out.size))
    have HE0_1 := Lib.hid (ex_below HE0_0.out hb)
    have HE1_1 := Lib.hid (ex_below HE1_0.out hb)
    clear e0_0 e0_1 e0_2 e1_0 e1_1 e1_2 e1_3 hb
    have e0_0 := cells_heap HE0_1.out 0
    have e0_1 := cells_heap HE0_1.out 1
    have e0_2 := cells_heap HE0_1.out 2
    obtain ⟨e1_0, e1_1, e1_2, e1_3, -⟩ := four_at HE1_1.out
    go_wp2_with fail
    refine (HCK.out W1 HB1.out).mono ?_
    rintro e W2 ⟨rfl, hb⟩
    have HB2 := Lib.hid (HB1.out.trans (hb.mono HB1.out.size))
    have HE0_2 := Lib.hid (ex_below HE0_1.out hb)
    have HE1_2 := Lib.hid (ex_below HE1_1.out hb)
    clear e0_0 e0_1 e0_2 e1_0 e1_1 e1_2 e1_3 hb
    have e0_0 := cells_heap HE0_2.out 0
    have e0_1 := cells_heap HE0_2.out 1
    have e0_2 := cells_heap HE0_2.out 2
    obtain ⟨e1_0, e1_1, e1_2, e1_3, -⟩ := four_at HE1_2.out
    go_wp2_with fail
    refine (lives15 W2).mono ?_
    rintro e wl ⟨rfl, hb⟩
    have HBL := Lib.hid (HB2.out.trans (hb.mono HB2.out.size))
    clear e0_0 e0_1 e0_2 e1_0 e1_1 e1_2 e1_3 hb
    go_wp2_with fail
    go_ret
    exact ⟨rfl, HBL.out⟩
set_option maxRecDepth 100000 in
set_option maxHeartbeats 16000000 in
theorem stands_ok (off : Int) (a0 : Option Addr) (n0 ca0 : Nat) (b0 : Option Addr) (m0 cb0 : Nat) (F T G U : Nat → Int) (lv x1 x2 x3 : Int) (now : Int) (w : World) (hS0 : Sps w a0 n0 F T) (hR0 : Sps w b0 m0 G U) (hl : n0 ≤ 60 ∧ m0 ≤ 60) (hz : checkE off F T n0 G U m0 = 0) (hb1 : x2 ≤ 9223372036854775807) :
    Calls Try.prog 4 #[calV off a0 n0 ca0 b0 m0 cb0, stepV lv x1 x2 x3, .int .i64 now] w fun e w' => e = .returned (.bool true) ∧ Below w.heap.size w w' := by
  obtain ⟨B2, s0, s1, sz⟩ := box2 w #[.int .i64 off, .slice a0 n0 ca0, .slice b0 m0 cb0] #[.int .i64 lv, .int .i64 x1, .int .i64 x2, .int .i64 x3] 24 29
  have HE0_0 := Lib.hid s0
  have HE1_0 := Lib.hid s1
  have HB0 := Lib.hid B2
  have HZ0 := Lib.hid sz
  have hli := light15 off a0 n0 ca0 b0 m0 cb0 0 none 0 0 0 0 ((w.alloc (.cells #[.int .i64 off, .slice a0 n0 ca0, .slice b0 m0 cb0] 24)).alloc (.cells #[.int .i64 lv, .int .i64 x1, .int .i64 x2, .int .i64 x3] 29)) hS0.1 hR0.1 (by decide)
  rw [decide_eq_true hl] at hli
  have hd := checkE_ok hz
  have HCK := Lib.hid (fun W (hb : Below w.heap.size w W) => rcheck10 off a0 n0 ca0 F T b0 m0 cb0 G U W (hS0.kept hb) (hR0.kept hb))
  have HNW := Lib.hid (fun W (hb : Below w.heap.size w W) => clock_in off a0 n0 ca0 b0 m0 cb0 F T G U W (hS0.kept hb) (hR0.kept hb) hz)
  have HST := Lib.hid (fun W L (hC : Ck L (⟨F, T, n0, G, U, m0, off⟩ : Cal) W) => stand_any hC hd lv x1 x2 x3 now hb1)
  have HGO := Lib.hid (fun W L (hC : x3 = 0 → Ck L (⟨F, T, n0, G, U, m0, off⟩ : Cal) W) => go_two hd lv x1 x2 x3 now hC hb1)
  have HRS : Hid (∀ W, Below w.heap.size w W → Calls Try.prog 18 #[calV off a0 n0 ca0 b0 m0 cb0, stepV lv x1 x2 x3, .int .i64 now] W (RGave W (Stood (⟨F, T, n0, G, U, m0, off⟩ : Cal) lv x1 x2 x3 now))) := Lib.hid (fun W hb => rstand_any (D := (⟨F, T, n0, G, U, m0, off⟩ : Cal)) hd a0 ca0 b0 cb0 lv x1 x2 x3 now W (hS0.kept hb) (hR0.kept hb) hb1)
  have HRG : Hid (∀ W, Below w.heap.size w W → Calls Try.prog 20 #[calV off a0 n0 ca0 b0 m0 cb0, stepV lv x1 x2 x3, .int .i64 now] W (RGave W (Went (⟨F, T, n0, G, U, m0, off⟩ : Cal) lv x2 x3 now))) := Lib.hid (fun W hb => rgo_any (D := (⟨F, T, n0, G, U, m0, off⟩ : Cal)) hd a0 ca0 b0 cb0 lv x1 x2 x3 now W (hS0.kept hb) (hR0.kept hb) hb1)
  rw [hz] at HCK
  obtain ⟨D, eD⟩ : ∃ D : Cal, (⟨F, T, n0, G, U, m0, off⟩ : Cal) = D := ⟨_, rfl⟩
  rw [eD] at HNW HST HGO HRS HRG
  clear hz eD hd
  have e0_0 := cells_heap HE0_0.out 0
  have e0_1 := cells_heap HE0_0.out 1
  have e0_2 := cells_heap HE0_0.out 2
  obtain ⟨e1_0, e1_1, e1_2, e1_3, -⟩ := four_at HE1_0.out
  clear B2 sz s0 s1
  clear hS0 hR0 hl
  unfold stepV at *
  unfold conV at *
  unfold calV at *
  go_enter Try.func4, Try.ntmps4
  go_wp2_with fail
  generalize ((w.alloc (.cells #[.int .i64 off, .slice a0 n0 ca0, .slice b0 m0 cb0] 24)).alloc (.cells #[.int .i64 lv, .int .i64 x1, .int .i64 x2, .int .i64 x3] 29)) = W0 at HB0 HZ0 HE0_0 HE1_0 e0_0 e0_1 e0_2 e1_0 e1_1 e1_2 e1_3 hli ⊢
  refine (hli).mono ?_
  rintro e W1 ⟨rfl, hb⟩
  have HB1 := Lib.hid (HB0.out.trans (hb.mono HB0.out.size))
  have HE0_1 := Lib.hid (ex_below HE0_0.out hb)
  have HE1_1 := Lib.hid (ex_below HE1_0.out hb)
  clear e0_0 e0_1 e0_2 e1_0 e1_1 e1_2 e1_3 hb
  have e0_0 := cells_heap HE0_1.out 0
  have e0_1 := cells_heap HE0_1.out 1
  have e0_2 := cells_heap HE0_1.out 2
  obtain ⟨e1_0, e1_1, e1_2, e1_3, -⟩ := four_at HE1_1.out
  go_wp2_with fail
  refine (HCK.out W1 HB1.out).mono ?_
  rintro e W2 ⟨rfl, hb⟩
  have HB2 := Lib.hid (HB1.out.trans (hb.mono HB1.out.size))
  have HE0_2 := Lib.hid (ex_below HE0_1.out hb)
  have HE1_2 := Lib.hid (ex_below HE1_1.out hb)
  clear e0_0 e0_1 e0_2 e1_0 e1_1 e1_2 e1_3 hb
  have e0_0 := cells_heap HE0_2.out 0
  have e0_1 := cells_heap HE0_2.out 1
  have e0_2 := cells_heap HE0_2.out 2
  obtain ⟨e1_0, e1_1, e1_2, e1_3, -⟩ := four_at HE1_2.out
  go_wp2_with fail
  refine (HNW.out W2 HB2.out).mono ?_
  rintro e W3 ⟨L, rfl, hC, hle, hb⟩
  have HB3 := Lib.hid (HB2.out.trans (hb.mono HB2.out.size))
  have HE0_3 := Lib.hid (ex_below HE0_2.out hb)
  have HE1_3 := Lib.hid (ex_below HE1_2.out hb)
  have HN0 : Hid (w.heap.size ≠ L.C) := Lib.hid (by have := ex_lt HE0_2.out; omega)
  have HN1 : Hid (w.heap.size + 1 ≠ L.C) := Lib.hid (by have := ex_lt HE1_2.out; omega)
  have HC3 := Lib.hid hC
  have HM3 := Lib.hid hC.pl.lt
  have HL : Hid (w.heap.size ≤ L.C) := Lib.hid (Nat.le_trans HB2.out.size hle)
  clear e0_0 e0_1 e0_2 e1_0 e1_1 e1_2 e1_3 hb hC hle
  have e0_0 := cells_heap HE0_3.out 0
  have e0_1 := cells_heap HE0_3.out 1
  have e0_2 := cells_heap HE0_3.out 2
  obtain ⟨e1_0, e1_1, e1_2, e1_3, -⟩ := four_at HE1_3.out
  go_wp2_with fail
  refine (HST.out W3 L HC3.out).mono ?_
  rintro e W4 ⟨l, f, cc, d, er, rfl, hR, hC, ho⟩
  have HB4 := Lib.hid (HB3.out.trans (ho.toBelow HB3.out.size (fun k hk => hk ▸ HL.out)))
  have HE0_4 := Lib.hid (ex_only HE0_3.out ho HN0.out)
  have HE1_4 := Lib.hid (ex_only HE1_3.out ho HN1.out)
  have HM4 := Lib.hid (Nat.lt_of_lt_of_le HM3.out ho.size)
  have HC4 := Lib.hid hC
  have HR1 := Lib.hid hR
  clear hR
  unfold stepV at *
  clear e0_0 e0_1 e0_2 e1_0 e1_1 e1_2 e1_3 ho hC
  have e0_0 := cells_heap HE0_4.out 0
  have e0_1 := cells_heap HE0_4.out 1
  have e0_2 := cells_heap HE0_4.out 2
  obtain ⟨e1_0, e1_1, e1_2, e1_3, -⟩ := four_at HE1_4.out
  replace HC4 : Hid (x3 = 0 → Ck L D W4) := Lib.hid (fun hh => HC4.out (.inr hh))
  obtain ⟨bx, bn, -⟩ := box1 W4 #[.int .i64 l, .int .i64 f, .int .i64 cc, .int .i64 d] 29
  have HB5 := Lib.hid (HB4.out.trans (bx.mono HB4.out.size))
  have HE0_5 := Lib.hid (ex_below HE0_4.out bx)
  have HE1_5 := Lib.hid (ex_below HE1_4.out bx)
  have HE2_5 := Lib.hid bn
  have HN2 : Hid (W4.heap.size ≠ L.C) := Lib.hid (by have := HM4.out; omega)
  have HM5 := Lib.hid (Nat.lt_of_lt_of_le HM4.out bx.size)
  have HC5 := Lib.hid (fun hh => (HC4.out hh).kept bx)
  clear e0_0 e0_1 e0_2 e1_0 e1_1 e1_2 e1_3 bx bn
  have e0_0 := cells_heap HE0_5.out 0
  have e0_1 := cells_heap HE0_5.out 1
  have e0_2 := cells_heap HE0_5.out 2
  obtain ⟨e1_0, e1_1, e1_2, e1_3, -⟩ := four_at HE1_5.out
  obtain ⟨e2_0, e2_1, e2_2, e2_3, -⟩ := four_at HE2_5.out
  go_wp2_with fail
  generalize W4.alloc (.cells #[.int .i64 l, .int .i64 f, .int .i64 cc, .int .i64 d] 29) = W5 at HB5 HE0_5 HE1_5 HE2_5 HC5 HM5 e0_0 e0_1 e0_2 e1_0 e1_1 e1_2 e1_3 e2_0 e2_1 e2_2 e2_3 ⊢
  go_wp2_with fail
  refine (HRS.out W5 HB5.out).mono ?_
  rintro e W6 ⟨l', f', c', d', er', rfl, hR', hb⟩
  have HB6 := Lib.hid (HB5.out.trans (hb.mono HB5.out.size))
  have HE0_6 := Lib.hid (ex_below HE0_5.out hb)
  have HE1_6 := Lib.hid (ex_below HE1_5.out hb)
  have HE2_6 := Lib.hid (ex_below HE2_5.out hb)
  have HM6 := Lib.hid (Nat.lt_of_lt_of_le HM5.out hb.size)
  have HC6 := Lib.hid (fun hh => (HC5.out hh).kept hb)
  obtain ⟨rfl, rfl, rfl, rfl, rfl⟩ := HR1.out.same hR'
  clear hR'
  unfold stepV at *
  clear e0_0 e0_1 e0_2 e1_0 e1_1 e1_2 e1_3 e2_0 e2_1 e2_2 e2_3 hb
  have e0_0 := cells_heap HE0_6.out 0
  have e0_1 := cells_heap HE0_6.out 1
  have e0_2 := cells_heap HE0_6.out 2
  obtain ⟨e1_0, e1_1, e1_2, e1_3, -⟩ := four_at HE1_6.out
  obtain ⟨e2_0, e2_1, e2_2, e2_3, -⟩ := four_at HE2_6.out
  obtain ⟨bx, bn, -⟩ := box1 W6 #[.int .i64 l, .int .i64 f, .int .i64 cc, .int .i64 d] 39
  have HB7 := Lib.hid (HB6.out.trans (bx.mono HB6.out.size))
  have HE0_7 := Lib.hid (ex_below HE0_6.out bx)
  have HE1_7 := Lib.hid (ex_below HE1_6.out bx)
  have HE2_7 := Lib.hid (ex_below HE2_6.out bx)
  have HE3_7 := Lib.hid bn
  have HN3 : Hid (W6.heap.size ≠ L.C) := Lib.hid (by have := HM6.out; omega)
  have HM7 := Lib.hid (Nat.lt_of_lt_of_le HM6.out bx.size)
  have HC7 := Lib.hid (fun hh => (HC6.out hh).kept bx)
  clear e0_0 e0_1 e0_2 e1_0 e1_1 e1_2 e1_3 e2_0 e2_1 e2_2 e2_3 bx bn
  have e0_0 := cells_heap HE0_7.out 0
  have e0_1 := cells_heap HE0_7.out 1
  have e0_2 := cells_heap HE0_7.out 2
  obtain ⟨e1_0, e1_1, e1_2, e1_3, -⟩ := four_at HE1_7.out
  obtain ⟨e2_0, e2_1, e2_2, e2_3, -⟩ := four_at HE2_7.out
  obtain ⟨e3_0, e3_1, e3_2, e3_3, -⟩ := four_at HE3_7.out
  go_wp2_with fail
  generalize W6.alloc (.cells #[.int .i64 l, .int .i64 f, .int .i64 cc, .int .i64 d] 39) = W7 at HB7 HE0_7 HE1_7 HE2_7 HE3_7 HC7 HM7 e0_0 e0_1 e0_2 e1_0 e1_1 e1_2 e1_3 e2_0 e2_1 e2_2 e2_3 e3_0 e3_1 e3_2 e3_3 ⊢
  go_wp2_with fail
  refine (HGO.out W7 L HC7.out).mono ?_
  rintro e W8 ⟨u0, u1, u2, u3, en, rfl, hR, ho⟩
  have HB8 := Lib.hid (HB7.out.trans (ho.toBelow HB7.out.size (fun k hk => hk ▸ HL.out)))
  have HE0_8 := Lib.hid (ex_only HE0_7.out ho HN0.out)
  have HE1_8 := Lib.hid (ex_only HE1_7.out ho HN1.out)
  have HE2_8 := Lib.hid (ex_only HE2_7.out ho HN2.out)
  have HE3_8 := Lib.hid (ex_only HE3_7.out ho HN3.out)
  have HM8 := Lib.hid (Nat.lt_of_lt_of_le HM7.out ho.size)
  have HR2 := Lib.hid hR
  clear hR
  unfold stepV at *
  clear e0_0 e0_1 e0_2 e1_0 e1_1 e1_2 e1_3 e2_0 e2_1 e2_2 e2_3 e3_0 e3_1 e3_2 e3_3 ho
  have e0_0 := cells_heap HE0_8.out 0
  have e0_1 := cells_heap HE0_8.out 1
  have e0_2 := cells_heap HE0_8.out 2
  obtain ⟨e1_0, e1_1, e1_2, e1_3, -⟩ := four_at HE1_8.out
  obtain ⟨e2_0, e2_1, e2_2, e2_3, -⟩ := four_at HE2_8.out
  obtain ⟨e3_0, e3_1, e3_2, e3_3, -⟩ := four_at HE3_8.out
  obtain ⟨bx, bn, -⟩ := box1 W8 #[.int .i64 u0, .int .i64 u1, .int .i64 u2, .int .i64 u3] 29
  have HB9 := Lib.hid (HB8.out.trans (bx.mono HB8.out.size))
  have HE0_9 := Lib.hid (ex_below HE0_8.out bx)
  have HE1_9 := Lib.hid (ex_below HE1_8.out bx)
  have HE2_9 := Lib.hid (ex_below HE2_8.out bx)
  have HE3_9 := Lib.hid (ex_below HE3_8.out bx)
  have HE4_9 := Lib.hid bn
  clear e0_0 e0_1 e0_2 e1_0 e1_1 e1_2 e1_3 e2_0 e2_1 e2_2 e2_3 e3_0 e3_1 e3_2 e3_3 bx bn
  have e0_0 := cells_heap HE0_9.out 0
  have e0_1 := cells_heap HE0_9.out 1
  have e0_2 := cells_heap HE0_9.out 2
  obtain ⟨e1_0, e1_1, e1_2, e1_3, -⟩ := four_at HE1_9.out
  obtain ⟨e2_0, e2_1, e2_2, e2_3, -⟩ := four_at HE2_9.out
  obtain ⟨e3_0, e3_1, e3_2, e3_3, -⟩ := four_at HE3_9.out
  obtain ⟨e4_0, e4_1, e4_2, e4_3, -⟩ := four_at HE4_9.out
  go_wp2_with fail
  generalize W8.alloc (.cells #[.int .i64 u0, .int .i64 u1, .int .i64 u2, .int .i64 u3] 29) = W9 at HB9 HE0_9 HE1_9 HE2_9 HE3_9 HE4_9 e0_0 e0_1 e0_2 e1_0 e1_1 e1_2 e1_3 e2_0 e2_1 e2_2 e2_3 e3_0 e3_1 e3_2 e3_3 e4_0 e4_1 e4_2 e4_3 ⊢
  go_wp2_with fail
  refine (HRG.out W9 HB9.out).mono ?_
  rintro e W10 ⟨u0', u1', u2', u3', en', rfl, hR', hb⟩
  have HB10 := Lib.hid (HB9.out.trans (hb.mono HB9.out.size))
  have HE0_10 := Lib.hid (ex_below HE0_9.out hb)
  have HE1_10 := Lib.hid (ex_below HE1_9.out hb)
  have HE2_10 := Lib.hid (ex_below HE2_9.out hb)
  have HE3_10 := Lib.hid (ex_below HE3_9.out hb)
  have HE4_10 := Lib.hid (ex_below HE4_9.out hb)
  obtain ⟨rfl, rfl, rfl, rfl, rfl⟩ := HR2.out.same hR'
  clear hR'
  unfold stepV at *
  clear e0_0 e0_1 e0_2 e1_0 e1_1 e1_2 e1_3 e2_0 e2_1 e2_2 e2_3 e3_0 e3_1 e3_2 e3_3 e4_0 e4_1 e4_2 e4_3 hb
  have e0_0 := cells_heap HE0_10.out 0
  have e0_1 := cells_heap HE0_10.out 1
  have e0_2 := cells_heap HE0_10.out 2
  obtain ⟨e1_0, e1_1, e1_2, e1_3, -⟩ := four_at HE1_10.out
  obtain ⟨e2_0, e2_1, e2_2, e2_3, -⟩ := four_at HE2_10.out
  obtain ⟨e3_0, e3_1, e3_2, e3_3, -⟩ := four_at HE3_10.out
  obtain ⟨e4_0, e4_1, e4_2, e4_3, -⟩ := four_at HE4_10.out
  obtain ⟨bx, bn, -⟩ := box1 W10 #[.int .i64 u0, .int .i64 u1, .int .i64 u2, .int .i64 u3] 39
  have HB11 := Lib.hid (HB10.out.trans (bx.mono HB10.out.size))
  have HE0_11 := Lib.hid (ex_below HE0_10.out bx)
  have HE1_11 := Lib.hid (ex_below HE1_10.out bx)
  have HE2_11 := Lib.hid (ex_below HE2_10.out bx)
  have HE3_11 := Lib.hid (ex_below HE3_10.out bx)
  have HE4_11 := Lib.hid (ex_below HE4_10.out bx)
  have HE5_11 := Lib.hid bn
  clear e0_0 e0_1 e0_2 e1_0 e1_1 e1_2 e1_3 e2_0 e2_1 e2_2 e2_3 e3_0 e3_1 e3_2 e3_3 e4_0 e4_1 e4_2 e4_3 bx bn
  have e0_0 := cells_heap HE0_11.out 0
  have e0_1 := cells_heap HE0_11.out 1
  have e0_2 := cells_heap HE0_11.out 2
  obtain ⟨e1_0, e1_1, e1_2, e1_3, -⟩ := four_at HE1_11.out
  obtain ⟨e2_0, e2_1, e2_2, e2_3, -⟩ := four_at HE2_11.out
  obtain ⟨e3_0, e3_1, e3_2, e3_3, -⟩ := four_at HE3_11.out
  obtain ⟨e4_0, e4_1, e4_2, e4_3, -⟩ := four_at HE4_11.out
  obtain ⟨e5_0, e5_1, e5_2, e5_3, -⟩ := four_at HE5_11.out
  go_wp2_with fail
  generalize W10.alloc (.cells #[.int .i64 u0, .int .i64 u1, .int .i64 u2, .int .i64 u3] 39) = W11 at HB11 HE0_11 HE1_11 HE2_11 HE3_11 HE4_11 HE5_11 e0_0 e0_1 e0_2 e1_0 e1_1 e1_2 e1_3 e2_0 e2_1 e2_2 e2_3 e3_0 e3_1 e3_2 e3_3 e4_0 e4_1 e4_2 e4_3 e5_0 e5_1 e5_2 e5_3 ⊢
  have q1 := fun (w : World) => eql_rstep l f cc d w
  have q2 := fun (w : World) => eql_rstep u0 u1 u2 u3 w
  have g1 := guard_rstep .eql
  go_wp2_with fail
  refine (lives15 W11).mono ?_
  rintro e wl ⟨rfl, hb⟩
  have HBL := Lib.hid (HB11.out.trans (hb.mono HB11.out.size))
  clear e0_0 e0_1 e0_2 e1_0 e1_1 e1_2 e1_3 e2_0 e2_1 e2_2 e2_3 e3_0 e3_1 e3_2 e3_3 e4_0 e4_1 e4_2 e4_3 e5_0 e5_1 e5_2 e5_3 hb
  go_wp2_with fail
  go_ret
  exact ⟨rfl, HBL.out⟩
theorem stands_walk (off : Int) (a0 : Option Addr) (n0 ca0 : Nat) (b0 : Option Addr) (m0 cb0 : Nat) (F T G U : Nat → Int) (lv x1 x2 x3 : Int) (now : Int) (w : World) (hS0 : Sps w a0 n0 F T) (hR0 : Sps w b0 m0 G U) (hb1 : x2 ≤ 9223372036854775807) :
    Calls Try.prog 4 #[calV off a0 n0 ca0 b0 m0 cb0, stepV lv x1 x2 x3, .int .i64 now] w fun e w' => e = .returned (.bool true) ∧ Below w.heap.size w w' := by
  by_cases hz : ¬ (n0 ≤ 60 ∧ m0 ≤ 60) ∨ checkE off F T n0 G U m0 ≠ 0
  · exact stands_skip off a0 n0 ca0 b0 m0 cb0 F T G U lv x1 x2 x3 now w hS0 hR0 hz
  · simp only [not_or, Decidable.not_not] at hz
    exact stands_ok off a0 n0 ca0 b0 m0 cb0 F T G U lv x1 x2 x3 now w hS0 hR0 hz.1 hz.2 hb1
end Go.Proofs.Ythnnbmofpmedhaa

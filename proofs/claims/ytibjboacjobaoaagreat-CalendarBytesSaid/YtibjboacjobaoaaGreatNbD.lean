/- Calendars that are read: the reference. -/
import Derived.Test.YtibjboacjobaoaaGreatNbC
namespace Go.Proofs.YtibjboacjobaoaaGreat
open Go.RowKit
theorem set_keep {w : World} {T N : Nat} {ob : Obj} (k : w.heap[T]? = some ob) (h : T ≠ N) (j : Nat) (u : Value) : (w.setCell ⟨N, j, none⟩ u).heap[T]? = some ob := (Below.heap_setCell _ _ _ _ (by exact h)).trans k
theorem set_below (w : World) (N j : Nat) (u : Value) : Below N w (w.setCell ⟨N, j, none⟩ u) := (Below.refl _ _).setCell (p := ⟨N, j, none⟩) (Nat.le_refl _) u
set_option maxRecDepth 100000 in
set_option maxHeartbeats 16000000 in
theorem cal_rf (b : Nat) (ds : List Nat) (bad : Bool) (w : World) (hr : RF w b ds bad) (ok : Bool) (hok : cOk ds = ok) :
    Calls Tryz.prog 19 #[.pointer (some ⟨b, 0, none⟩)] w fun e w' => ∃ v, e = .returned v ∧ CalV ds ok w v w' ∧ RF w' b (if ok = true then cR ds else []) (!ok) ∧ Rd b w w' := by
  have hbl := hr.lt
  obtain ⟨B1, s0, sz⟩ := box1 w #[.int .i64 0, .slice none 0 0, .slice none 0 0] 24
  have hi := int_rf1 b ds bad _ (hr.kept B1)
  have HB1 := Lib.hid B1
  have HT0 := Lib.hid s0
  have HBL := Lib.hid hbl
  have HE : Hid (cE ds = checkE (iN ds) (fr (cW ds)) (til (cW ds)) (cW ds).length (fr (cC ds)) (til (cC ds)) (cC ds).length) := Lib.hid rfl
  have HSP1 : Hid (∀ W bd, RF W b (iR ds) bd → Calls Tryz.prog 62 #[.pointer (some ⟨b, 0, none⟩)] W fun e w' => ∃ v, e = .returned v ∧ OS w' W.heap.size v (cW ds) ∧ (∃ bd', RF w' b (cD2 ds) bd') ∧ Rd b W w') := Lib.hid (fun W bd h => (spans_rf b (iR ds) bd W h).mono fun e w' ⟨v, h1, h2, h3, h4⟩ => ⟨v, h1, h2, ⟨_, h3⟩, h4⟩)
  have HSP2 : Hid (∀ W bd, RF W b (cD2 ds) bd → Calls Tryz.prog 62 #[.pointer (some ⟨b, 0, none⟩)] W fun e w' => ∃ v, e = .returned v ∧ OS w' W.heap.size v (cC ds) ∧ RF w' b (cR ds) (cB ds) ∧ Rd b W w') := Lib.hid (fun W bd h => spans_rf b (cD2 ds) bd W h)
  have HCW : Hid (∀ s ∈ cW ds, -9223372036854775808 ≤ s.1 ∧ s.1 ≤ 9223372036854775807 ∧ -9223372036854775808 ≤ s.2 ∧ s.2 ≤ 9223372036854775807) := Lib.hid (cW_bd ds)
  have HCC : Hid (∀ s ∈ cC ds, -9223372036854775808 ≤ s.1 ∧ s.1 ≤ 9223372036854775807 ∧ -9223372036854775808 ≤ s.2 ∧ s.2 ≤ 9223372036854775807) := Lib.hid (cC_bd ds)
  have HOK : Hid ((!cB ds && decide (cE ds = 0)) = ok) := Lib.hid hok
  have HOF : Hid (cOff ds = iN ds) := Lib.hid rfl
  obtain ⟨off, hoff⟩ : ∃ x, iN ds = x := ⟨_, rfl⟩
  rw [hoff] at hi HE HOF
  obtain ⟨i1, hi1⟩ : ∃ x, iR ds = x := ⟨_, rfl⟩
  rw [hi1] at hi HSP1
  unfold CalV
  rw [HOF.out]
  obtain ⟨ce, hce⟩ : ∃ x, cE ds = x := ⟨_, rfl⟩
  rw [hce] at HE HOK
  obtain ⟨cb, hcb⟩ : ∃ x, cB ds = x := ⟨_, rfl⟩
  rw [hcb] at HOK HSP2
  generalize cW ds = LW at HE HSP1 HCW ⊢
  generalize cC ds = LC at HE HSP2 HCC ⊢
  generalize cR ds = RX at HSP2 ⊢
  generalize cD2 ds = D2 at HSP1 HSP2
  clear hce hcb hoff hi1 hok hr B1 s0 sz hbl
  go_enter Tryz.func19, Tryz.ntmps19
  go_wp2_with fail
  generalize w.alloc (.cells #[.int .i64 0, .slice none 0 0, .slice none 0 0] 24) = W0 at hi HB1 HT0 ⊢
  refine hi.mono ?_
  rintro e W1 ⟨rfl, hr1, ht1⟩
  have hne : w.heap.size ≠ b := by have := HBL.out; omega
  have HT1 := Lib.hid (ht1.keep HT0.out hne)
  have HRD1 := Lib.hid ((Rd.below HB1.out).trans ht1)
  have HR1 := Lib.hid hr1
  have HSZ1 : Hid (w.heap.size < W1.heap.size) := Lib.hid (ex_lt HT1.out)
  clear hi hr1 ht1 HT0
  obtain ⟨B2, s2, z2⟩ := box1 W1 #[.int .i64 off, .slice none 0 0, .slice none 0 0] 24
  obtain ⟨T4, hT4⟩ : ∃ x, W1.heap.size = x := ⟨_, rfl⟩
  rw [hT4] at s2 z2 HSZ1
  have HP2 := Lib.hid s2
  have HT2 := Lib.hid (ex_below HT1.out B2)
  have HR2 := Lib.hid (HR1.out.kept B2)
  have HRD2 := Lib.hid (HRD1.out.trans (Rd.below B2))
  have HSZ2 : Hid (T4 < (W1.alloc (.cells #[.int .i64 off, .slice none 0 0, .slice none 0 0] 24)).heap.size) := Lib.hid (by rw [z2]; omega)
  clear B2 s2 z2 HT1 HR1 HRD1
  go_wp2_with fail
  try rw [hT4]
  generalize W1.alloc (.cells #[.int .i64 off, .slice none 0 0, .slice none 0 0] 24) = W2 at HP2 HT2 HR2 HRD2 HSZ2 ⊢
  clear hT4
  have hTb : T4 ≠ b := by have := HBL.out; have := HSZ1.out; omega
  have hTw : w.heap.size ≠ T4 := by have := HSZ1.out; omega
  refine (HSP1.out W2 _ HR2.out).mono ?_
  rintro e W3 ⟨v1, rfl, ho1, ⟨bd, hr3⟩, ht3⟩
  have HP3 := Lib.hid (ht3.keep HP2.out hTb)
  have HT3 := Lib.hid (ht3.keep HT2.out hne)
  have HRD3 := Lib.hid (HRD2.out.trans ht3)
  have HR3 := Lib.hid hr3
  have HO3 := Lib.hid ho1
  obtain ⟨a2, c2, rfl, _, _⟩ := ho1.shape
  obtain ⟨k0, k1, k2⟩ := tri_at HP3.out
  obtain ⟨f0, f1, f2⟩ := tri_fr HP3.out
  have HP4 : Hid ((W3.setCell ⟨T4, 1, none⟩ (.slice a2 LW.length c2)).heap[T4]? = some (.cells #[.int .i64 off, .slice a2 LW.length c2, .slice none 0 0] 24 (0, 0))) := Lib.hid (heap_set HP3.out 1 _)
  have HT4 := Lib.hid (set_keep HT3.out hTw 1 (.slice a2 LW.length c2))
  have HRD4 := Lib.hid (HRD3.out.under (set_below W3 T4 1 (.slice a2 LW.length c2)) (Nat.le_of_lt HSZ1.out))
  have HR4 := Lib.hid (HR3.out.under (set_below W3 T4 1 (.slice a2 LW.length c2)) (by have := HBL.out; have := HSZ1.out; omega))
  have HO4 := Lib.hid (HO3.out.set (p := ⟨T4, 1, none⟩) HSZ2.out (.slice a2 LW.length c2))
  have HSZ4 : Hid (T4 < (W3.setCell ⟨T4, 1, none⟩ (.slice a2 LW.length c2)).heap.size) := Lib.hid (ex_lt HP4.out)
  clear hr3 ht3 ho1 HP2 HT2 HR2 HRD2 HSP1 HP3 HT3 HRD3 HR3 HO3
  go_wp2_with fail
  generalize W3.setCell ⟨T4, 1, none⟩ (.slice a2 LW.length c2) = W4 at HP4 HT4 HRD4 HR4 HO4 HSZ4 ⊢
  clear k0 k1 k2 f0 f1 f2
  refine (HSP2.out W4 _ HR4.out).mono ?_
  rintro e W5 ⟨v2, rfl, ho2, hr5, ht5⟩
  have HP5 := Lib.hid (ht5.keep HP4.out hTb)
  have HT5 := Lib.hid (ht5.keep HT4.out hne)
  have HRD5 := Lib.hid (HRD4.out.trans ht5)
  have HR5 := Lib.hid hr5
  have HO5 := Lib.hid (HO4.out.rd ht5 (by have := HBL.out; have := HSZ1.out; have := HSZ2.out; omega))
  have HQ5 := Lib.hid ho2
  obtain ⟨a1, c1, rfl, _, _⟩ := ho2.shape
  obtain ⟨k0, k1, k2⟩ := tri_at HP5.out
  obtain ⟨f0, f1, f2⟩ := tri_fr HP5.out
  have HP6 : Hid ((W5.setCell ⟨T4, 2, none⟩ (.slice a1 LC.length c1)).heap[T4]? = some (.cells #[.int .i64 off, .slice a2 LW.length c2, .slice a1 LC.length c1] 24 (0, 0))) := Lib.hid (heap_set HP5.out 2 _)
  have HT6 := Lib.hid (set_keep HT5.out hTw 2 (.slice a1 LC.length c1))
  have HRD6 := Lib.hid (HRD5.out.under (set_below W5 T4 2 (.slice a1 LC.length c1)) (Nat.le_of_lt HSZ1.out))
  have HR6 := Lib.hid (HR5.out.under (set_below W5 T4 2 (.slice a1 LC.length c1)) (by have := HBL.out; have := HSZ1.out; omega))
  have HO6 := Lib.hid (HO5.out.set (p := ⟨T4, 2, none⟩) HSZ2.out (.slice a1 LC.length c1))
  have HQ6 := Lib.hid (HQ5.out.set (p := ⟨T4, 2, none⟩) HSZ4.out (.slice a1 LC.length c1))
  have HR5' := HR5
  clear hr5 ht5 ho2 HP4 HT4 HRD4 HR4 HO4 HSP2 HP5 HT5 HRD5 HR5 HO5 HQ5
  have gb := HR5'.out.bad_at
  have hS1 := (HO6.out.sps HCW.out).2
  have hS2 := (HQ6.out.sps HCC.out).2
  have hck := rcheck10 off a2 LW.length c2 (fr LW) (til LW) a1 LC.length c1 (fr LC) (til LC) _ hS1 hS2
  rw [← HE.out] at hck
  unfold calV at hck
  clear hS1 hS2 HE
  have HWB : Hid (w.heap.size ≤ W2.heap.size ∧ w.heap.size ≤ W4.heap.size ∧ w.heap.size < W2.heap.size ∧ w.heap.size < W4.heap.size) := Lib.hid (by have := HSZ1.out; have := HSZ2.out; have := HSZ4.out; omega)
  have HEND : Hid (∀ (W : World), Rd b w W → RF W b [] true → W.heap[w.heap.size]? = some (.cells #[.int .i64 0, .slice none 0 0, .slice none 0 0] 24 (0, 0)) → RF (put3 W w.heap.size (.int .i64 0) (.slice none 0 0) (.slice none 0 0)) b [] true ∧ Rd b w (put3 W w.heap.size (.int .i64 0) (.slice none 0 0) (.slice none 0 0))) := Lib.hid (fun W h1 h2 _ => ⟨h2.under (put3_below W (Nat.le_refl _) _ _ _) HBL.out, h1.under (put3_below W (Nat.le_refl _) _ _ _) (Nat.le_refl _)⟩)
  cases cb with
  | true =>
    obtain rfl : ok = false := by rw [← HOK.out]; rfl
    clear hck
    go_wp2_with (go_at_call 63; refine (fail_rf b RX true _ HR6.out).mono ?_; rintro e W7 ⟨rfl, hr7, ht7⟩; have HT7 := Lib.hid (ht7.keep HT6.out hne); have HR7 := Lib.hid hr7; have HRD7 := Lib.hid (HRD6.out.trans ht7); obtain ⟨g0, g1, g2⟩ := tri_at HT7.out; obtain ⟨f0, f1, f2⟩ := tri_fr HT7.out; clear hr7 ht7)
    obtain ⟨x1, x2⟩ := HEND.out _ HRD7.out HR7.out HT7.out
    obtain ⟨p0, p1, p2⟩ := put3_at HT7.out (.int .i64 0) (.slice none 0 0) (.slice none 0 0)
    unfold put3 at x1 x2 p0 p1 p2
    refine bodyPost_ret (v := .tuple #[.agg #[.int .i64 0, .slice none 0 0, .slice none 0 0], .bool false]) (by simp [results, Tryz.results19, go_sem, p0, p1, p2]) rfl ⟨_, rfl, ⟨_, _, rfl, OS.nil _ _, OS.nil _ _⟩, x1, x2⟩
  | false =>
    have hok2 : decide (ce = 0) = ok := HOK.out
    by_cases hc0 : ce = 0
    · subst hc0
      obtain rfl : ok = true := by rw [← hok2]; rfl
      have HX : Hid (∀ (W : World), Below (W5.setCell ⟨T4, 2, none⟩ (.slice a1 LC.length c1)).heap.size (W5.setCell ⟨T4, 2, none⟩ (.slice a1 LC.length c1)) W → OS (put3 W w.heap.size (.int .i64 off) (.slice a2 LW.length c2) (.slice a1 LC.length c1)) w.heap.size (.slice a2 LW.length c2) LW ∧ OS (put3 W w.heap.size (.int .i64 off) (.slice a2 LW.length c2) (.slice a1 LC.length c1)) w.heap.size (.slice a1 LC.length c1) LC ∧ RF (put3 W w.heap.size (.int .i64 off) (.slice a2 LW.length c2) (.slice a1 LC.length c1)) b RX false ∧ Rd b w (put3 W w.heap.size (.int .i64 off) (.slice a2 LW.length c2) (.slice a1 LC.length c1))) := Lib.hid (fun W h => by
        refine ⟨?_, ?_, (HR6.out.kept h).under (put3_below W (Nat.le_refl _) _ _ _) HBL.out, (HRD6.out.trans (Rd.below h)).under (put3_below W (Nat.le_refl _) _ _ _) (Nat.le_refl _)⟩
        · exact OS.mono ((((HO6.out.kept h).set (p := ⟨w.heap.size, 0, none⟩) HWB.out.2.2.1 _).set (p := ⟨w.heap.size, 1, none⟩) HWB.out.2.2.1 _).set (p := ⟨w.heap.size, 2, none⟩) HWB.out.2.2.1 _) HWB.out.1
        · exact OS.mono ((((HQ6.out.kept h).set (p := ⟨w.heap.size, 0, none⟩) HWB.out.2.2.2 _).set (p := ⟨w.heap.size, 1, none⟩) HWB.out.2.2.2 _).set (p := ⟨w.heap.size, 2, none⟩) HWB.out.2.2.2 _) HWB.out.2.1)
      go_wp2_with (go_at_call 13; refine hck.mono ?_; rintro e W7 ⟨rfl, hb7⟩; have HX7 := Lib.hid (HX.out _ hb7); have HT7 := Lib.hid (ex_below HT6.out hb7); obtain ⟨g0, g1, g2⟩ := tri_at HT7.out; obtain ⟨f0, f1, f2⟩ := tri_fr HT7.out; obtain ⟨k0', k1', k2'⟩ := tri_at (ex_below HP6.out hb7); clear hb7 k0 k1 k2 gb)
      obtain ⟨x0, x1, x2, x3⟩ := HX7.out
      obtain ⟨p0, p1, p2⟩ := put3_at HT7.out (.int .i64 off) (.slice a2 LW.length c2) (.slice a1 LC.length c1)
      unfold put3 at x0 x1 x2 x3 p0 p1 p2
      refine bodyPost_ret (v := .tuple #[.agg #[.int .i64 off, .slice a2 LW.length c2, .slice a1 LC.length c1], .bool true]) (by simp [results, Tryz.results19, go_sem, p0, p1, p2]) rfl ⟨_, rfl, ⟨_, _, rfl, x0, x1⟩, x2, x3⟩
    · obtain rfl : ok = false := by rw [← hok2]; exact decide_eq_false hc0
      have hc1 : (ce != 0) = true := by simp [hc0]
      have hc2 : (!decide (ce = 0)) = true := by simp [hc0]
      go_wp2_with (first
        | (go_at_call 13; refine hck.mono ?_; rintro e W5 ⟨rfl, hb5⟩; have HR5 := Lib.hid (HR6.out.kept hb5); have HT5 := Lib.hid (ex_below HT6.out hb5); have HRD5 := Lib.hid (HRD6.out.trans (Rd.below hb5)); clear hb5)
        | (go_at_call 63; refine (fail_rf b RX false _ HR5.out).mono ?_; rintro e W7 ⟨rfl, hr7, ht7⟩; have HT7 := Lib.hid (ht7.keep HT5.out hne); have HR7 := Lib.hid hr7; have HRD7 := Lib.hid (HRD5.out.trans ht7); obtain ⟨g0, g1, g2⟩ := tri_at HT7.out; obtain ⟨f0, f1, f2⟩ := tri_fr HT7.out; clear hr7 ht7))
      obtain ⟨x1, x2⟩ := HEND.out _ HRD7.out HR7.out HT7.out
      obtain ⟨p0, p1, p2⟩ := put3_at HT7.out (.int .i64 0) (.slice none 0 0) (.slice none 0 0)
      unfold put3 at x1 x2 p0 p1 p2
      refine bodyPost_ret (v := .tuple #[.agg #[.int .i64 0, .slice none 0 0, .slice none 0 0], .bool false]) (by simp [results, Tryz.results19, go_sem, p0, p1, p2]) rfl ⟨_, rfl, ⟨_, _, rfl, OS.nil _ _, OS.nil _ _⟩, x1, x2⟩
end Go.Proofs.YtibjboacjobaoaaGreat

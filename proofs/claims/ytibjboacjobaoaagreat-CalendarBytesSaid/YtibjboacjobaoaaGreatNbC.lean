/- Calendars that are read, both ways. -/
import Derived.Test.YtibjboacjobaoaaGreatMgBD
import Derived.Test.YtibjboacjobaoaaGreatCaS
namespace Go.Proofs.YtibjboacjobaoaaGreat
open Go.RowKit
def cOff (ds : List Nat) : Int := iN ds
def cK1 (ds : List Nat) : Nat := nN 32 (iR ds)
def cW (ds : List Nat) : List (Int × Int) := pL 1125899906842624 1125899906842624 (cK1 ds) (nR 32 (iR ds))
def cD2 (ds : List Nat) : List Nat := pR 1125899906842624 1125899906842624 (cK1 ds) (nR 32 (iR ds))
def cK2 (ds : List Nat) : Nat := nN 32 (cD2 ds)
def cC (ds : List Nat) : List (Int × Int) := pL 1125899906842624 1125899906842624 (cK2 ds) (nR 32 (cD2 ds))
def cR (ds : List Nat) : List Nat := pR 1125899906842624 1125899906842624 (cK2 ds) (nR 32 (cD2 ds))
def cB (ds : List Nat) : Bool := pB 1125899906842624 1125899906842624 (cK2 ds) (nB 32 (cD2 ds)) (nR 32 (cD2 ds))
def cE (ds : List Nat) : Int := checkE (cOff ds) (fr (cW ds)) (til (cW ds)) (cW ds).length (fr (cC ds)) (til (cC ds)) (cC ds).length
def cOk (ds : List Nat) : Bool := !cB ds && decide (cE ds = 0)
theorem pL_bd (k : Nat) (ds : List Nat) : ∀ s ∈ pL 1125899906842624 1125899906842624 k ds, -9223372036854775808 ≤ s.1 ∧ s.1 ≤ 9223372036854775807 ∧ -9223372036854775808 ≤ s.2 ∧ s.2 ≤ 9223372036854775807 := fun s hs => by
  have := pL_in _ _ k ds s hs
  omega
theorem cW_bd (ds : List Nat) : ∀ s ∈ cW ds, -9223372036854775808 ≤ s.1 ∧ s.1 ≤ 9223372036854775807 ∧ -9223372036854775808 ≤ s.2 ∧ s.2 ≤ 9223372036854775807 := pL_bd (cK1 ds) (nR 32 (iR ds))
theorem cC_bd (ds : List Nat) : ∀ s ∈ cC ds, -9223372036854775808 ≤ s.1 ∧ s.1 ≤ 9223372036854775807 ∧ -9223372036854775808 ≤ s.2 ∧ s.2 ≤ 9223372036854775807 := pL_bd (cK2 ds) (nR 32 (cD2 ds))
theorem OS.set {w : World} {base : Nat} {v : Value} {l : List (Int × Int)} (h : OS w base v l) {p : Addr} (hp : p.block < base) (u : Value) : OS (w.setCell p u) base v l := ownsRow_setCell_below h hp u
/-- What a calendar's reading hands back. -/
def CalV (ds : List Nat) (ok : Bool) (w : World) (v : Value) (w' : World) : Prop := ∃ v1 v2, v = .tuple #[.agg #[.int .i64 (if ok = true then cOff ds else 0), v1, v2], .bool ok] ∧ OS w' w.heap.size v1 (if ok = true then cW ds else []) ∧ OS w' w.heap.size v2 (if ok = true then cC ds else [])
theorem tri_fr {w : World} {N : Nat} {x y z : Value} {t : TypeId} (h : w.heap[N]? = some (.cells #[x, y, z] t (0, 0))) : w.frozen? ⟨N, 0, none⟩ = false ∧ w.frozen? ⟨N, 1, none⟩ = false ∧ w.frozen? ⟨N, 2, none⟩ = false := by
  simp [World.frozen?, h]
def put3 (w : World) (N : Nat) (x y z : Value) : World := ((w.setCell ⟨N, 0, none⟩ x).setCell ⟨N, 1, none⟩ y).setCell ⟨N, 2, none⟩ z
theorem put3_below {B : Nat} (w : World) {N : Nat} (h : B ≤ N) (x y z : Value) : Below B w (put3 w N x y z) :=
  (((Below.refl B w).setCell (p := ⟨N, 0, none⟩) h x).setCell (p := ⟨N, 1, none⟩) h y).setCell (p := ⟨N, 2, none⟩) h z
theorem put3_at {w : World} {N : Nat} {a b c : Value} {t : TypeId} (h : w.heap[N]? = some (.cells #[a, b, c] t (0, 0))) (x y z : Value) : (put3 w N x y z).cell? ⟨N, 0, none⟩ = some x ∧ (put3 w N x y z).cell? ⟨N, 1, none⟩ = some y ∧ (put3 w N x y z).cell? ⟨N, 2, none⟩ = some z := by
  obtain ⟨c0, c1, c2⟩ := tri_at h
  unfold put3
  refine ⟨?_, ?_, ?_⟩ <;> go_simp
set_option maxRecDepth 100000 in
set_option maxHeartbeats 16000000 in
theorem cal_rd (b : Nat) (ds : List Nat) (bad : Bool) (w : World) (hr : RR w b ds bad) (ok : Bool) (hok : cOk ds = ok) :
    Calls Tryz.prog 15 #[.pointer (some ⟨b, 0, none⟩)] w fun e w' => ∃ v, e = .returned v ∧ CalV ds ok w v w' ∧ RR w' b (if ok = true then cR ds else []) (!ok) ∧ Rd b w w' := by
  have hbl := hr.lt
  obtain ⟨B1, s0, sz⟩ := box1 w #[.int .i64 0, .slice none 0 0, .slice none 0 0] 24
  have hi := int_rd1 b ds bad _ (hr.kept B1)
  have HB1 := Lib.hid B1
  have HT0 := Lib.hid s0
  have HBL := Lib.hid hbl
  have HE : Hid (cE ds = checkE (iN ds) (fr (cW ds)) (til (cW ds)) (cW ds).length (fr (cC ds)) (til (cC ds)) (cC ds).length) := Lib.hid rfl
  have HSP1 : Hid (∀ W bd, RR W b (iR ds) bd → Calls Tryz.prog 55 #[.pointer (some ⟨b, 0, none⟩)] W fun e w' => ∃ v, e = .returned v ∧ OS w' W.heap.size v (cW ds) ∧ (∃ bd', RR w' b (cD2 ds) bd') ∧ Rd b W w') := Lib.hid (fun W bd h => (spans_rd b (iR ds) bd W h).mono fun e w' ⟨v, h1, h2, h3, h4⟩ => ⟨v, h1, h2, ⟨_, h3⟩, h4⟩)
  have HSP2 : Hid (∀ W bd, RR W b (cD2 ds) bd → Calls Tryz.prog 55 #[.pointer (some ⟨b, 0, none⟩)] W fun e w' => ∃ v, e = .returned v ∧ OS w' W.heap.size v (cC ds) ∧ RR w' b (cR ds) (cB ds) ∧ Rd b W w') := Lib.hid (fun W bd h => spans_rd b (cD2 ds) bd W h)
  have HBD := Lib.hid (And.intro (cW_bd ds) (cC_bd ds))
  have HCW : Hid (∀ s ∈ cW ds, -9223372036854775808 ≤ s.1 ∧ s.1 ≤ 9223372036854775807 ∧ -9223372036854775808 ≤ s.2 ∧ s.2 ≤ 9223372036854775807) := Lib.hid (cW_bd ds)
  have HCC : Hid (∀ s ∈ cC ds, -9223372036854775808 ≤ s.1 ∧ s.1 ≤ 9223372036854775807 ∧ -9223372036854775808 ≤ s.2 ∧ s.2 ≤ 9223372036854775807) := Lib.hid (cC_bd ds)
  have HOK : Hid ((!cB ds && decide (cE ds = 0)) = ok) := Lib.hid hok
  have HOF : Hid (cOff ds = iN ds) := Lib.hid rfl
  obtain ⟨off, hoff⟩ : ∃ x, iN ds = x := ⟨_, rfl⟩
  rw [hoff] at hi HE HOF
  obtain ⟨i1, hi1⟩ : ∃ x, iR ds = x := ⟨_, rfl⟩
  rw [hi1] at hi HSP1
  unfold CalV
  rw [HOF.out]
  obtain ⟨ce, hce⟩ : ∃ x, cE ds = x := ⟨_, rfl⟩
  rw [hce] at HE HOK
  obtain ⟨cb, hcb⟩ : ∃ x, cB ds = x := ⟨_, rfl⟩
  rw [hcb] at HOK HSP2
  generalize cW ds = LW at HE HSP1 HCW ⊢
  generalize cC ds = LC at HE HSP2 HCC ⊢
  generalize cR ds = RX at HSP2 ⊢
  generalize cD2 ds = D2 at HSP1 HSP2
  clear hce hcb hoff hi1 hok hr B1 s0 sz hbl HBD
  go_enter Tryz.func15, Tryz.ntmps15
  go_wp2_with fail
  generalize w.alloc (.cells #[.int .i64 0, .slice none 0 0, .slice none 0 0] 24) = W0 at hi HB1 HT0 ⊢
  refine hi.mono ?_
  rintro e W1 ⟨rfl, hr1, ht1⟩
  have hne : w.heap.size ≠ b := by have := HBL.out; omega
  have HT1 := Lib.hid (ht1.keep HT0.out hne)
  have HRD1 := Lib.hid ((Rd.below HB1.out).trans ht1)
  have hs1 := HSP1.out W1 _ hr1
  have HSZ1 : Hid (w.heap.size < W1.heap.size) := Lib.hid (ex_lt HT1.out)
  clear hi hr1 ht1 HT0 HSP1
  go_wp2_with fail
  refine hs1.mono ?_
  rintro e W2 ⟨v1, rfl, ho1, ⟨bd, hr2⟩, ht2⟩
  have HT2 := Lib.hid (ht2.keep HT1.out hne)
  have HRD2 := Lib.hid (HRD1.out.trans ht2)
  have hs2 := HSP2.out W2 _ hr2
  have HO1 := Lib.hid ho1
  have HSZ2 : Hid (w.heap.size < W2.heap.size) := Lib.hid (ex_lt HT2.out)
  clear hs1 hr2 ht2 ho1 HSP2
  go_wp2_with fail
  refine hs2.mono ?_
  rintro e W3 ⟨v2, rfl, ho2, hr3, ht3⟩
  have HT3 := Lib.hid (ht3.keep HT2.out hne)
  have HRD3 := Lib.hid (HRD2.out.trans ht3)
  have HO3 := Lib.hid (HO1.out.rd ht3 (by have := HBL.out; have := HSZ1.out; omega))
  have HQ3 := Lib.hid ho2
  have HR3 := Lib.hid hr3
  obtain ⟨a1, c1, rfl, _, _⟩ := ho2.shape
  obtain ⟨a2, c2, rfl, _, _⟩ := HO1.out.shape
  clear hs2 ho2 hr3 ht3
  obtain ⟨B4, s4, z4⟩ := box1 W3 #[.int .i64 off, .slice a2 LW.length c2, .slice a1 LC.length c1] 24
  have HT4 := Lib.hid (ex_below HT3.out B4)
  have HO4 := Lib.hid (HO3.out.kept B4)
  have HQ4 := Lib.hid (HQ3.out.kept B4)
  have HR4 := Lib.hid (HR3.out.kept B4)
  have HRD4 := Lib.hid (HRD3.out.trans (Rd.below B4))
  obtain ⟨k0, k1, k2⟩ := tri_at s4
  obtain ⟨hn1, hS1⟩ := HO4.out.sps HCW.out
  obtain ⟨hn2, hS2⟩ := HQ4.out.sps HCC.out
  have hck := pcheck off a2 LW.length c2 (fr LW) (til LW) a1 LC.length c1 (fr LC) (til LC) _ hS1 hS2
  have hbd := bad_rd b RX cb _ HR4.out
  rw [← HE.out] at hck
  unfold calV at hck
  have HSZ3 : Hid (w.heap.size ≤ W3.heap.size) := Lib.hid (Nat.le_of_lt (ex_lt HT3.out))
  clear B4 s4 z4 hn1 hS1 hn2 hS2 HT3 HO3 HQ3 HR3 HRD3 HE
  go_wp2_with fail
  generalize hW4 : W3.alloc (.cells #[.int .i64 off, .slice a2 LW.length c2, .slice a1 LC.length c1] 24) = W4 at HT4 HO4 HQ4 HR4 HRD4 k0 k1 k2 hck hbd ⊢
  clear hW4
  have hW2b : w.heap.size ≤ W1.heap.size ∧ w.heap.size ≤ W2.heap.size := ⟨Nat.le_of_lt HSZ1.out, Nat.le_of_lt HSZ2.out⟩
  have HWB := Lib.hid hW2b
  clear hW2b
  have HEND : Hid (∀ (W : World), Rd b w W → RR W b [] true → W.heap[w.heap.size]? = some (.cells #[.int .i64 0, .slice none 0 0, .slice none 0 0] 24 (0, 0)) → RR (put3 W w.heap.size (.int .i64 0) (.slice none 0 0) (.slice none 0 0)) b [] true ∧ Rd b w (put3 W w.heap.size (.int .i64 0) (.slice none 0 0) (.slice none 0 0))) := Lib.hid (fun W h1 h2 _ => ⟨h2.under (put3_below W (Nat.le_refl _) _ _ _) HBL.out, h1.under (put3_below W (Nat.le_refl _) _ _ _) (Nat.le_refl _)⟩)
  cases cb with
  | true =>
    obtain rfl : ok = false := by rw [← HOK.out]; rfl
    clear hck
    go_wp2_with (first
      | (go_at_call 21; refine hbd.mono ?_; rintro e W5 ⟨rfl, rfl⟩)
      | (go_at_call 57; refine (fail_rd b RX true _ HR4.out).mono ?_; rintro e W6 ⟨rfl, hr6, ht6⟩; have HT6 := Lib.hid (ht6.keep HT4.out hne); have HR6 := Lib.hid hr6; have HRD6 := Lib.hid (HRD4.out.trans ht6); obtain ⟨g0, g1, g2⟩ := tri_at HT6.out; obtain ⟨f0, f1, f2⟩ := tri_fr HT6.out; clear hr6 ht6))
    obtain ⟨x1, x2⟩ := HEND.out _ HRD6.out HR6.out HT6.out
    obtain ⟨p0, p1, p2⟩ := put3_at HT6.out (.int .i64 0) (.slice none 0 0) (.slice none 0 0)
    unfold put3 at x1 x2 p0 p1 p2
    refine bodyPost_ret (v := .tuple #[.agg #[.int .i64 0, .slice none 0 0, .slice none 0 0], .bool false]) (by simp [results, Tryz.results15, go_sem, p0, p1, p2]) rfl ⟨_, rfl, ⟨_, _, rfl, OS.nil _ _, OS.nil _ _⟩, x1, x2⟩
  | false =>
    have hok2 : decide (ce = 0) = ok := HOK.out
    by_cases hc0 : ce = 0
    · subst hc0
      obtain rfl : ok = true := by rw [← hok2]; rfl
      have HX : Hid (∀ (W : World), Below W4.heap.size W4 W → OS (put3 W w.heap.size (.int .i64 off) (.slice a2 LW.length c2) (.slice a1 LC.length c1)) w.heap.size (.slice a2 LW.length c2) LW ∧ OS (put3 W w.heap.size (.int .i64 off) (.slice a2 LW.length c2) (.slice a1 LC.length c1)) w.heap.size (.slice a1 LC.length c1) LC ∧ RR (put3 W w.heap.size (.int .i64 off) (.slice a2 LW.length c2) (.slice a1 LC.length c1)) b RX false ∧ Rd b w (put3 W w.heap.size (.int .i64 off) (.slice a2 LW.length c2) (.slice a1 LC.length c1))) := Lib.hid (fun W h => by
        refine ⟨?_, ?_, (HR4.out.kept h).under (put3_below W (Nat.le_refl _) _ _ _) HBL.out, (HRD4.out.trans (Rd.below h)).under (put3_below W (Nat.le_refl _) _ _ _) (Nat.le_refl _)⟩
        · exact OS.mono ((((HO4.out.kept h).set (p := ⟨w.heap.size, 0, none⟩) HSZ1.out _).set (p := ⟨w.heap.size, 1, none⟩) HSZ1.out _).set (p := ⟨w.heap.size, 2, none⟩) HSZ1.out _) HWB.out.1
        · exact OS.mono ((((HQ4.out.kept h).set (p := ⟨w.heap.size, 0, none⟩) HSZ2.out _).set (p := ⟨w.heap.size, 1, none⟩) HSZ2.out _).set (p := ⟨w.heap.size, 2, none⟩) HSZ2.out _) HWB.out.2)
      have HK : Hid (W4.cell? ⟨W3.heap.size, 0, none⟩ = some (.int .i64 off) ∧ W4.cell? ⟨W3.heap.size, 1, none⟩ = some (.slice a2 LW.length c2) ∧ W4.cell? ⟨W3.heap.size, 2, none⟩ = some (.slice a1 LC.length c1)) := Lib.hid ⟨k0, k1, k2⟩
      go_wp2_with (first
        | (go_at_call 21; refine hbd.mono ?_; rintro e W5 ⟨rfl, rfl⟩)
        | (go_at_call 56; refine hck.mono ?_; rintro e W6 ⟨rfl, hb6⟩; have HX6 := Lib.hid (HX.out _ hb6); have HT6 := Lib.hid (ex_below HT4.out hb6); obtain ⟨g0, g1, g2⟩ := tri_at HT6.out; obtain ⟨f0, f1, f2⟩ := tri_fr HT6.out; have k0' := (hb6.cell (p := ⟨W3.heap.size, 0, none⟩) (cell_spot HK.out.1).2).trans HK.out.1; have k1' := (hb6.cell (p := ⟨W3.heap.size, 1, none⟩) (cell_spot HK.out.1).2).trans HK.out.2.1; have k2' := (hb6.cell (p := ⟨W3.heap.size, 2, none⟩) (cell_spot HK.out.1).2).trans HK.out.2.2; clear hb6 k0 k1 k2))
      obtain ⟨x0, x1, x2, x3⟩ := HX6.out
      obtain ⟨p0, p1, p2⟩ := put3_at HT6.out (.int .i64 off) (.slice a2 LW.length c2) (.slice a1 LC.length c1)
      unfold put3 at x0 x1 x2 x3 p0 p1 p2
      refine bodyPost_ret (v := .tuple #[.agg #[.int .i64 off, .slice a2 LW.length c2, .slice a1 LC.length c1], .bool true]) (by simp [results, Tryz.results15, go_sem, p0, p1, p2]) rfl ⟨_, rfl, ⟨_, _, rfl, x0, x1⟩, x2, x3⟩
    · obtain rfl : ok = false := by rw [← hok2]; exact decide_eq_false hc0
      have hc1 : (ce != 0) = true := by simp [hc0]
      have hc2 : (!decide (ce = 0)) = true := by simp [hc0]
      go_wp2_with (first
        | (go_at_call 21; refine hbd.mono ?_; rintro e W5 ⟨rfl, rfl⟩)
        | (go_at_call 56; refine hck.mono ?_; rintro e W5 ⟨rfl, hb5⟩; have HR5 := Lib.hid (HR4.out.kept hb5); have HT5 := Lib.hid (ex_below HT4.out hb5); have HRD5 := Lib.hid (HRD4.out.trans (Rd.below hb5)); clear hb5)
        | (go_at_call 57; refine (fail_rd b RX false _ HR5.out).mono ?_; rintro e W6 ⟨rfl, hr6, ht6⟩; have HT6 := Lib.hid (ht6.keep HT5.out hne); have HR6 := Lib.hid hr6; have HRD6 := Lib.hid (HRD5.out.trans ht6); obtain ⟨g0, g1, g2⟩ := tri_at HT6.out; obtain ⟨f0, f1, f2⟩ := tri_fr HT6.out; clear hr6 ht6))
      obtain ⟨x1, x2⟩ := HEND.out _ HRD6.out HR6.out HT6.out
      obtain ⟨p0, p1, p2⟩ := put3_at HT6.out (.int .i64 0) (.slice none 0 0) (.slice none 0 0)
      unfold put3 at x1 x2 p0 p1 p2
      refine bodyPost_ret (v := .tuple #[.agg #[.int .i64 0, .slice none 0 0, .slice none 0 0], .bool false]) (by simp [results, Tryz.results15, go_sem, p0, p1, p2]) rfl ⟨_, rfl, ⟨_, _, rfl, OS.nil _ _, OS.nil _ _⟩, x1, x2⟩
end Go.Proofs.YtibjboacjobaoaaGreat

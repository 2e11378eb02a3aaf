/- The law of a calendar (one that may be)'s bytes: its walk. -/
import Derived.Test.YtibjboacjobaoaaGreatNbL
import Derived.Test.YtibjboacjobaoaaGreatNbB
import Derived.Test.YtibjboacjobaoaaGreatCaH
import Derived.Test.YtibjboacjobaoaaGreatNbD
import Derived.Test.YtibjboacjobaoaaGreatMgBC
import Derived.Deep.RegionHeld3
import Derived.Deep.RegionWith
import Derived.Deep.QuietTactic
import Derived.Deep.Cut
import Derived.Deep.CutRange
namespace Go.Proofs.YtibjboacjobaoaaGreat
open Go.RowKit
set_option maxRecDepth 100000 in
set_option maxHeartbeats 32000000 in
theorem cbytes_yes (off : Int) (a : Option Addr) (n ca : Nat) (b : Option Addr) (m cb : Nat) (F T G U : Nat → Int) (off' : Int) (a' : Option Addr) (n' ca' : Nat) (b' : Option Addr) (m' cb' : Nat) (F' T' G' U' : Nat → Int) (p : Option Addr) (k cap : Nat) (bs : List Nat) (w : World) (hS : Sps w a n F T) (hR : Sps w b m G U) (hS' : Sps w a' n' F' T') (hR' : Sps w b' m' G' U') (hrb : RB w (.slice p k cap) bs) (hown : ∀ j, w.heap.size ≤ j → (Value.slice p k cap).ownBlock ≠ some j) (hl : (n ≤ 60 ∧ m ≤ 60) ∧ (n' ≤ 60 ∧ m' ≤ 60) ∧ k ≤ 3000) (ok : Bool) (hok : cOk bs = ok) (hz : checkE off F T n G U m = 0) :
    Calls Tryz.prog 3 #[calV off a n ca b m cb, calV off' a' n' ca' b' m' cb', .slice p k cap] w fun e w' => e = .returned (.bool true) ∧ Below w.heap.size w w' := by
  obtain ⟨hl1, hl2, hl3⟩ := hl
  have hkb : bs.length = k := rb_len hrb
  have HL1 := Lib.hid (fun W => light10 off a n ca b m cb W hS.1 hR.1)
  have HL2 := Lib.hid (fun W => light10 off' a' n' ca' b' m' cb' W hS'.1 hR'.1)
  rw [decide_eq_true hl1] at HL1
  rw [decide_eq_true hl2] at HL2
  have hk3 : ¬ (3000 : Int) < (k : Int) := by omega
  have HSM := Lib.hid (fun W (hb : Below w.heap.size w W) => csame_any off off' a n ca b m cb F T G U a' n' ca' b' m' cb' F' T' G' U' W (hS.kept hb) (hR.kept hb) (hS'.kept hb) (hR'.kept hb))
  have HSN := Lib.hid (fun W (hb : Below w.heap.size w W) => rsame10_any off off' a n ca b m cb F T G U a' n' ca' b' m' cb' F' T' G' U' W (hS.kept hb) (hR.kept hb) (hS'.kept hb) (hR'.kept hb))
  have HSO := Lib.hid (fun W (hb : Below w.heap.size w W) => csame_any off off a n ca b m cb F T G U a n ca b m cb F T G U W (hS.kept hb) (hR.kept hb) (hS.kept hb) (hR.kept hb))
  have HCK := Lib.hid (fun W (hb : Below w.heap.size w W) => rcheck10 off a n ca F T b m cb G U W (hS.kept hb) (hR.kept hb))
  rw [calEq_refl] at HSO
  obtain ⟨sm, hsm⟩ : ∃ x, calEq off off' F T F' T' n n' G U G' U' m m' = x := ⟨_, rfl⟩
  rw [hsm] at HSM HSN
  have HLN : Hid (bs.length ≤ 3000) := Lib.hid (by omega)
  have HRB0 : Hid (∀ W', Below w.heap.size w W' → RB W' (.slice p k cap) bs) := Lib.hid (fun W' h => hrb.kept h)
  have HOWN := Lib.hid hown
  have HOKB := Lib.hid hok
  have hd := checkE_ok hz
  obtain ⟨nn1, nn2, nl1, nl2, no1, no2⟩ : NonNeg F T n ∧ NonNeg G U m ∧ n ≤ 32 ∧ m ≤ 32 ∧ 0 ≤ off ∧ off ≤ 604800 := Cal.nn hd
  obtain ⟨bk1, bk2, bk3, bk4, bk5⟩ := cal_back hd
  obtain ⟨BS, hBS⟩ : ∃ x, calW off F T n G U m = x := ⟨_, rfl⟩
  have HPUT : Hid (∀ g P, w.heap.size ≤ g → Below w.heap.size w P → WR P g (g + 1) (.slice none 0 0) [] → Calls Tryz.prog 14 #[.pointer (some ⟨g, 0, none⟩), .agg #[.int .i64 off, .slice a n ca, .slice b m cb]] P fun e w' => e = .returned (.tuple #[]) ∧ Wrote g (g + 1) (.slice none 0 0) P BS w') := Lib.hid (fun g P hg hb h => by
    have := cal_put g (g + 1) (.slice none 0 0) [] off a n ca b m cb F T G U P h (hS.kept hb) (hR.kept hb) (hS.far hg) (hR.far hg) nl1 nl2 nn1 nn2 ⟨no1, no2⟩ (by simp)
    rw [List.nil_append, hBS] at this
    exact this)
  have HPR : Hid (∀ P, Below w.heap.size w P → Calls Tryz.prog 18 #[.agg #[.int .i64 off, .slice a n ca, .slice b m cb]] P (Owned P BS)) := Lib.hid (fun P hb => by
    have := rput10 off a n ca b m cb F T G U P (hS.kept hb) (hR.kept hb) nl1 nl2 nn1 nn2 ⟨no1, no2⟩
    rw [hBS] at this
    exact this)
  have hBS2 : calW off F T n G U m = BS := hBS
  simp only [hBS2] at bk1 bk2 bk3 bk4 bk5
  have HRDB : Hid (∀ rb V, RR V rb BS false → Calls Tryz.prog 15 #[.pointer (some ⟨rb, 0, none⟩)] V fun e w' => ∃ v1 v2, e = .returned (.tuple #[.agg #[.int .i64 off, v1, v2], .bool true]) ∧ OS w' V.heap.size v1 (pairs F T n) ∧ OS w' V.heap.size v2 (pairs G U m) ∧ RR w' rb [] false ∧ Rd rb V w') := Lib.hid (fun rb V h => by
    have := cal_rd rb BS false V h true bk1
    unfold CalV at this
    simp only [if_true, bk2, bk3, bk4, bk5, Bool.not_true] at this
    exact this.mono fun e w' ⟨v, h1, ⟨u1, u2, h2, h3, h4⟩, h5, h6⟩ => ⟨u1, u2, by rw [h1, h2], h3, h4, h5, h6⟩)
  have HSR : Hid (∀ W B v1 v2, Below w.heap.size w W → OS W B v1 (pairs F T n) → OS W B v2 (pairs G U m) → Calls Tryz.prog 12 #[.agg #[.int .i64 off, v1, v2], .agg #[.int .i64 off, .slice a n ca, .slice b m cb]] W fun e w' => e = .returned (.bool true) ∧ Below W.heap.size W w') := Lib.hid (fun W B v1 v2 hb h1 h2 => rsame10 off v1 v2 a n ca b m cb F T G U W h1 h2 (hS.kept hb) (hR.kept hb))
  have HLB : Hid ((∀ x ∈ BS, x < 256) ∧ BS.length ≤ 100000) := Lib.hid (by
    rw [← hBS]
    refine ⟨fun x hx => ?_, ?_⟩
    · unfold calW at hx
      rcases List.mem_append.1 hx with hx | hx
      · exact intB_lt off (by omega) (by omega) x hx
      · rcases List.mem_append.1 hx with hx | hx
        · exact rowW_lt F T n (by omega) hS.up x hx
        · exact rowW_lt G U m (by omega) hR.up x hx
    · have h1 := intB_len9 off (by omega) (by omega)
      have h2 := rowW_len F T n n (by omega) (Nat.le_refl _) hS.up
      have h3 := rowW_len G U m m (by omega) (Nat.le_refl _) hR.up
      unfold calW rowW
      rw [List.length_append, List.length_append]
      omega)
  clear hd nn1 nn2 nl1 nl2 no1 no2 bk1 bk2 bk3 bk4 bk5 hBS hBS2
  obtain ⟨B2, s0, s1, sz⟩ := box2 w #[.int .i64 off, .slice a n ca, .slice b m cb] #[.int .i64 off', .slice a' n' ca', .slice b' m' cb'] 24 24
  have HB2 := Lib.hid B2
  have HT0 := Lib.hid s0
  have HT1 := Lib.hid s1
  have hcell : ∀ W, W.heap[w.heap.size]? = some (.cells #[.int .i64 off, .slice a n ca, .slice b m cb] 24 (0, 0)) → W.heap[w.heap.size + 1]? = some (.cells #[.int .i64 off', .slice a' n' ca', .slice b' m' cb'] 24 (0, 0)) → Below w.heap.size w W → ((W.cell? ⟨w.heap.size, 0, none⟩ = some (.int .i64 off) ∧ W.cell? ⟨w.heap.size, 1, none⟩ = some (.slice a n ca) ∧ W.cell? ⟨w.heap.size, 2, none⟩ = some (.slice b m cb)) ∧ (W.cell? ⟨(w.heap.size + 1), 0, none⟩ = some (.int .i64 off') ∧ W.cell? ⟨(w.heap.size + 1), 1, none⟩ = some (.slice a' n' ca') ∧ W.cell? ⟨(w.heap.size + 1), 2, none⟩ = some (.slice b' m' cb')) ∧ Below w.heap.size w W ∧ W.heap[w.heap.size]? = some (.cells #[.int .i64 off, .slice a n ca, .slice b m cb] 24 (0, 0)) ∧ W.heap[w.heap.size + 1]? = some (.cells #[.int .i64 off', .slice a' n' ca', .slice b' m' cb'] 24 (0, 0))) := fun W h0 h1 hb => by
    obtain ⟨c0, c1, c2⟩ := tri_at h0
    obtain ⟨d0, d1, d2⟩ := tri_at h1
    exact ⟨⟨c0, c1, c2⟩, ⟨d0, d1, d2⟩, hb, h0, h1⟩
  have HCELL := Lib.hid hcell
  have HCHK := Lib.hid hz
  clear hS hR hS' hR' hrb hown hok hz hsm s0 s1 sz B2 hcell hl1 hl2 hl3 hkb
  unfold calV at *
  go_enter Tryz.func3, Tryz.ntmps3
  obtain ⟨⟨q0, q1, q2⟩, ⟨r0, r1, r2⟩, -, -, -⟩ := HCELL.out _ HT0.out HT1.out HB2.out
  go_wp2_with fail
  generalize ((w.alloc (.cells #[.int .i64 off, .slice a n ca, .slice b m cb] 24)).alloc (.cells #[.int .i64 off', .slice a' n' ca', .slice b' m' cb'] 24)) = W0 at q0 q1 q2 r0 r1 r2 HB2 HT0 HT1 ⊢
  refine (HL1.out W0).mono ?_
  rintro e W1 ⟨rfl, hb1⟩
  have HB3 := Lib.hid (HB2.out.trans (hb1.mono HB2.out.size))
  have HT3 := Lib.hid (ex_below HT0.out hb1)
  have HU3 := Lib.hid (ex_below HT1.out hb1)
  clear hb1 q0 q1 q2 r0 r1 r2 HB2 HT0 HT1
  obtain ⟨⟨q0, q1, q2⟩, ⟨r0, r1, r2⟩, -, -, -⟩ := HCELL.out _ HT3.out HU3.out HB3.out
  go_wp2_with fail
  refine (HL2.out W1).mono ?_
  rintro e W2 ⟨rfl, hb2⟩
  have HB4 := Lib.hid (HB3.out.trans (hb2.mono HB3.out.size))
  have HT4 := Lib.hid (ex_below HT3.out hb2)
  have HU4 := Lib.hid (ex_below HU3.out hb2)
  clear hb2 q0 q1 q2 r0 r1 r2 HB3 HT3 HU3 HL1 HL2
  go_upto_region 3 with (fail)
  have h0 := HCELL.out W2.drew HT4.out HU4.out HB4.out.drew
  have HSK : Hid (∀ W, Below W2.heap.size W2 W → ((W.cell? ⟨w.heap.size, 0, none⟩ = some (.int .i64 off) ∧ W.cell? ⟨w.heap.size, 1, none⟩ = some (.slice a n ca) ∧ W.cell? ⟨w.heap.size, 2, none⟩ = some (.slice b m cb)) ∧ (W.cell? ⟨(w.heap.size + 1), 0, none⟩ = some (.int .i64 off') ∧ W.cell? ⟨(w.heap.size + 1), 1, none⟩ = some (.slice a' n' ca') ∧ W.cell? ⟨(w.heap.size + 1), 2, none⟩ = some (.slice b' m' cb')) ∧ Below w.heap.size w W ∧ W.heap[w.heap.size]? = some (.cells #[.int .i64 off, .slice a n ca, .slice b m cb] 24 (0, 0)) ∧ W.heap[w.heap.size + 1]? = some (.cells #[.int .i64 off', .slice a' n' ca', .slice b' m' cb'] 24 (0, 0)))) := Lib.hid (fun W h => HCELL.out W (ex_below HT4.out h) (ex_below HU4.out h) (HB4.out.trans (h.mono HB4.out.size)))
  have b0 : Below W2.heap.size W2 W2.drew := (Below.refl _ _).drew
  refine wp_region_held_drew (S := fun w1 => (w1.cell? ⟨w.heap.size, 0, none⟩ = some (.int .i64 off) ∧ w1.cell? ⟨w.heap.size, 1, none⟩ = some (.slice a n ca) ∧ w1.cell? ⟨w.heap.size, 2, none⟩ = some (.slice b m cb)) ∧ (w1.cell? ⟨(w.heap.size + 1), 0, none⟩ = some (.int .i64 off') ∧ w1.cell? ⟨(w.heap.size + 1), 1, none⟩ = some (.slice a' n' ca') ∧ w1.cell? ⟨(w.heap.size + 1), 2, none⟩ = some (.slice b' m' cb')) ∧ Below w.heap.size w w1 ∧ w1.heap[w.heap.size]? = some (.cells #[.int .i64 off, .slice a n ca, .slice b m cb] 24 (0, 0)) ∧ w1.heap[w.heap.size + 1]? = some (.cells #[.int .i64 off', .slice a' n' ca', .slice b' m' cb'] 24 (0, 0))) (by kernel_rfl) h0 (fun hHeld => ?_)
  refine wpAnyH_take (i := 0) (v := ?_) rfl (by kernel_rfl) (by kernel_rfl) (by kernel_rfl) (fun _ _ _ h => h) (Or.inl ⟨by rfl, ?_⟩) (by assumption) ?_
  case refine_2 => (intro w1 hS1; obtain ⟨⟨z0, z1, z2⟩, ⟨y0, y1, y2⟩, -, -, -⟩ := hS1; go_simp; try with_reducible rfl)
  try simp only [List.getElem_toArray, List.getElem_cons_zero, List.getElem_cons_succ, Act.put, List.setIfInBounds_toArray, List.set_cons_zero, List.set_cons_succ]
  refine wpAnyH_take (i := 1) (v := ?_) rfl (by kernel_rfl) (by kernel_rfl) (by kernel_rfl) (fun _ _ _ h => h) (Or.inl ⟨by rfl, ?_⟩) (by assumption) ?_
  case refine_2 => (intro w1 hS1; obtain ⟨⟨z0, z1, z2⟩, ⟨y0, y1, y2⟩, -, -, -⟩ := hS1; go_simp; try with_reducible rfl)
  try simp only [List.getElem_toArray, List.getElem_cons_zero, List.getElem_cons_succ, Act.put, List.setIfInBounds_toArray, List.set_cons_zero, List.set_cons_succ]
  refine wpAnyH_take (i := 3) (v := ?_) rfl (by kernel_rfl) (by kernel_rfl) (by kernel_rfl) (fun _ _ _ h => h) (Or.inl ⟨by rfl, ?_⟩) (by assumption) ?_
  case refine_2 => (intro w1 hS1; obtain ⟨⟨z0, z1, z2⟩, ⟨y0, y1, y2⟩, -, -, -⟩ := hS1; go_simp; try with_reducible rfl)
  try simp only [List.getElem_toArray, List.getElem_cons_zero, List.getElem_cons_succ, Act.put, List.setIfInBounds_toArray, List.set_cons_zero, List.set_cons_succ]
  refine wpAnyH_take (i := 4) (v := ?_) rfl (by kernel_rfl) (by kernel_rfl) (by kernel_rfl) (fun _ _ _ h => h) (Or.inl ⟨by rfl, ?_⟩) (by assumption) ?_
  case refine_2 => (intro w1 hS1; obtain ⟨⟨z0, z1, z2⟩, ⟨y0, y1, y2⟩, -, -, -⟩ := hS1; go_simp; try with_reducible rfl)
  try simp only [List.getElem_toArray, List.getElem_cons_zero, List.getElem_cons_succ, Act.put, List.setIfInBounds_toArray, List.set_cons_zero, List.set_cons_succ]
  refine wpAnyH_ready (rs := [2]) (by kernel_rfl) (by simp) ?_
  refine (AllReadyH.cons rfl (fun K hK => ?_) AllReadyH.nil)
  go_simp
  refine (HSM.out W2.drew h0.2.2.1).mono ?_
  rintro e W3 ⟨rfl, hb3⟩
  have b3 : Below W2.heap.size W2 W3 := b0.trans hb3
  clear hb3
  refine hK.out _ _ (HSK.out _ b3) (fun hHeld => ?_)
  clear hK K hHeld
  try simp only [List.getElem_toArray, List.getElem_cons_zero, List.getElem_cons_succ, Act.put, List.setIfInBounds_toArray, List.set_cons_zero, List.set_cons_succ]
  refine wpAnyH_ready (rs := [5]) (by kernel_rfl) (by simp) ?_
  refine (AllReadyH.cons rfl (fun K hK => ?_) AllReadyH.nil)
  go_simp
  refine (HSN.out W3 (HSK.out _ b3).2.2.1).mono ?_
  rintro e W4 ⟨rfl, hb4⟩
  have b4 : Below W2.heap.size W2 W4 := b3.trans (hb4.mono b3.size)
  clear hb4
  have hbn : (sm != sm) = false := by cases sm <;> rfl
  refine hK.out _ _ (HSK.out _ b4) (fun hHeld => ?_)
  clear hK K hHeld
  try simp only [List.getElem_toArray, List.getElem_cons_zero, List.getElem_cons_succ, Act.put, List.setIfInBounds_toArray, List.set_cons_zero, List.set_cons_succ]
  refine wpAnyH_take (i := 6) (v := ?_) rfl (by kernel_rfl) (by kernel_rfl) (by kernel_rfl) (fun _ _ _ h => h) (Or.inl ⟨by rfl, ?_⟩) (HSK.out _ b4) ?_
  case refine_2 => (intro w1 hS1; obtain ⟨⟨z0, z1, z2⟩, ⟨y0, y1, y2⟩, -, -, -⟩ := hS1; go_simp; try with_reducible rfl)
  try simp only [List.getElem_toArray, List.getElem_cons_zero, List.getElem_cons_succ, Act.put, List.setIfInBounds_toArray, List.set_cons_zero, List.set_cons_succ]
  refine wpAnyH_take (i := 7) (v := ?_) rfl (by kernel_rfl) (by kernel_rfl) (by kernel_rfl) (fun _ _ _ h => h) (Or.inl ⟨by rfl, ?_⟩) (HSK.out _ b4) ?_
  case refine_2 => (intro w1 hS1; obtain ⟨⟨z0, z1, z2⟩, ⟨y0, y1, y2⟩, -, -, -⟩ := hS1; go_simp; try with_reducible rfl)
  try simp only [List.getElem_toArray, List.getElem_cons_zero, List.getElem_cons_succ, Act.put, List.setIfInBounds_toArray, List.set_cons_zero, List.set_cons_succ]
  refine wpAnyH_take (i := 8) (v := ?_) rfl (by kernel_rfl) (by kernel_rfl) (by kernel_rfl) (fun _ _ _ h => h) (Or.inl ⟨by rfl, ?_⟩) (HSK.out _ b4) ?_
  case refine_2 => (intro w1 hS1; obtain ⟨⟨z0, z1, z2⟩, ⟨y0, y1, y2⟩, -, -, -⟩ := hS1; go_simp; try with_reducible rfl)
  try simp only [List.getElem_toArray, List.getElem_cons_zero, List.getElem_cons_succ, Act.put, List.setIfInBounds_toArray, List.set_cons_zero, List.set_cons_succ]
  refine wpAnyH_take (i := 9) (v := ?_) rfl (by kernel_rfl) (by kernel_rfl) (by kernel_rfl) (fun _ _ _ h => h) (Or.inl ⟨by rfl, ?_⟩) (HSK.out _ b4) ?_
  case refine_2 => (intro w1 hS1; obtain ⟨⟨z0, z1, z2⟩, ⟨y0, y1, y2⟩, -, -, -⟩ := hS1; go_simp; try with_reducible rfl)
  try simp only [List.getElem_toArray, List.getElem_cons_zero, List.getElem_cons_succ, Act.put, List.setIfInBounds_toArray, List.set_cons_zero, List.set_cons_succ]
  refine wpAnyH_ready (rs := [10]) (by kernel_rfl) (by simp) ?_
  refine (AllReadyH.cons rfl (fun K hK => ?_) AllReadyH.nil)
  go_simp
  refine (HSO.out W4 (HSK.out _ b4).2.2.1).mono ?_
  rintro e W5 ⟨rfl, hb5⟩
  have b5 : Below W2.heap.size W2 W5 := b4.trans (hb5.mono b4.size)
  clear hb5
  refine hK.out _ _ (HSK.out _ b5) (fun hHeld => ?_)
  clear hK K hHeld
  try simp only [List.getElem_toArray, List.getElem_cons_zero, List.getElem_cons_succ, Act.put, List.setIfInBounds_toArray, List.set_cons_zero, List.set_cons_succ]
  refine wpAnyH_take (i := 11) (v := ?_) rfl (by kernel_rfl) (by kernel_rfl) (by kernel_rfl) (fun _ _ _ h => h) (Or.inl ⟨by rfl, ?_⟩) (HSK.out _ b5) ?_
  case refine_2 => (intro w1 hS1; obtain ⟨⟨z0, z1, z2⟩, ⟨y0, y1, y2⟩, -, -, -⟩ := hS1; go_simp; try with_reducible rfl)
  try simp only [List.getElem_toArray, List.getElem_cons_zero, List.getElem_cons_succ, Act.put, List.setIfInBounds_toArray, List.set_cons_zero, List.set_cons_succ]
  refine wpAnyH_take (i := 12) (v := ?_) rfl (by kernel_rfl) (by kernel_rfl) (by kernel_rfl) (fun _ _ _ h => h) (Or.inl ⟨by rfl, ?_⟩) (HSK.out _ b5) ?_
  case refine_2 => (intro w1 hS1; obtain ⟨⟨z0, z1, z2⟩, ⟨y0, y1, y2⟩, -, -, -⟩ := hS1; go_simp; try with_reducible rfl)
  try simp only [List.getElem_toArray, List.getElem_cons_zero, List.getElem_cons_succ, Act.put, List.setIfInBounds_toArray, List.set_cons_zero, List.set_cons_succ]
  refine wpAnyH_done (by kernel_rfl) ?_ _
  have HB5 := Lib.hid (HSK.out _ b5).2.2.1
  have HT5 := Lib.hid (HSK.out _ b5).2.2.2.1
  have HU5 := Lib.hid (HSK.out _ b5).2.2.2.2
  clear h0 b0 b3 b4 b5 HB4 HT4 HU4 HSK HSM HSN HSO
  obtain ⟨⟨q0, q1, q2⟩, ⟨r0, r1, r2⟩, -, -, -⟩ := HCELL.out _ HT5.out HU5.out HB5.out
  clear r0 r1 r2
  go_wp2_with fail
  refine (HCK.out _ HB5.out).mono ?_
  rintro e X0 ⟨rfl, hb6⟩
  have HB6 := Lib.hid (HB5.out.trans (hb6.mono HB5.out.size))
  have HT6 := Lib.hid (ex_below HT5.out hb6)
  clear hb6 q0 q1 q2 HB5 HT5 HU5 HCK HCELL
  have hz0 := HCHK.out
  rw [hz0]
  obtain ⟨bx, bn, bz⟩ := box1 X0 #[.slice none 0 0] 31
  obtain ⟨c0, c1, c2⟩ := tri_at (ex_below HT6.out bx)
  have HBP0 := Lib.hid (HB6.out.trans (bx.mono HB6.out.size))
  have HTP0 := Lib.hid (ex_below HT6.out bx)
  obtain ⟨g, hge⟩ : ∃ g, X0.heap.size = g := ⟨_, rfl⟩
  rw [hge] at bn bz
  have HWP0 : Hid (WR (X0.alloc (.cells #[.slice none 0 0] 31)) g (g + 1) (.slice none 0 0) []) := Lib.hid ⟨bn, by omega, by rw [bz]; omega, World.ownsRow_nil _ _ _ _, by simp⟩
  have HGB : Hid (w.heap.size < g ∧ g < (X0.alloc (.cells #[.slice none 0 0] 31)).heap.size) := Lib.hid ⟨by have := ex_lt HT6.out; omega, by rw [bz]; omega⟩
  clear bx bn bz HB6 HT6
  go_wp2_with fail
  try rw [hge]
  generalize X0.alloc (.cells #[.slice none 0 0] 31) = P0 at HBP0 HTP0 HWP0 HGB c0 c1 c2 ⊢
  clear c0 c1 c2 hge
  refine (HPUT.out g P0 (Nat.le_of_lt HGB.out.1) HBP0.out HWP0.out).mono ?_
  rintro e P1 ⟨rfl, v1, hw1, ht1, hm1⟩
  have HB1 := Lib.hid (ht1.outside HBP0.out HBP0.out.size (by have := HGB.out; omega) (fun k hk => by simp [Value.ownBlock] at hk))
  have HT1 := Lib.hid (Rd.keep ht1 HTP0.out (by have := HGB.out; omega))
  have HW1 := Lib.hid hw1
  have HG1 : Hid (g < P1.heap.size) := Lib.hid (Nat.lt_of_lt_of_le HGB.out.2 ht1.size)
  clear hw1 ht1 hm1 HBP0 HTP0 HWP0 HPUT
  go_wp2_with fail
  refine (bytes_wr g (g + 1) v1 BS P1 HW1.out (by have := HLB.out.2; omega)).mono ?_
  rintro e P2 ⟨y, rfl, hoy, hby⟩
  have HY2 := Lib.hid (hoy.rb HLB.out.1 (by have := HLB.out.2; omega))
  have HB2 := Lib.hid (HB1.out.trans (hby.mono HB1.out.size))
  have HT2 := Lib.hid (ex_below HT1.out hby)
  have HW2 := Lib.hid (HW1.out.kept hby)
  have HG2 : Hid (g < P2.heap.size) := Lib.hid (Nat.lt_of_lt_of_le HG1.out hby.size)
  clear hoy hby HB1 HT1 HW1 HG1
  go_wp2_with fail
  refine (open_any y BS P2 HY2.out (by have := HLB.out.2; omega)).mono ?_
  rintro e P3 ⟨r2, rfl, hle3, hrr3, hb3⟩
  have HR3 := Lib.hid hrr3
  have HB3 := Lib.hid (HB2.out.trans (hb3.mono HB2.out.size))
  have HT3 := Lib.hid (ex_below HT2.out hb3)
  have HW3 := Lib.hid (HW2.out.kept hb3)
  have HNE3 : Hid (g < r2 ∧ w.heap.size < r2 ∧ (∀ k, v1.ownBlock = some k → k ≠ r2)) := Lib.hid ⟨by have := HG2.out; omega, by have := HG2.out; have := HGB.out; omega, fun k hk => by have := (World.ownsRow.lt HW2.out.2.2.2.1 k hk).2; omega⟩
  clear hle3 hrr3 hb3 HB2 HT2 HW2 HY2 HG2
  go_wp2_with fail
  refine (HRDB.out r2 P3 HR3.out).mono ?_
  rintro e P4 ⟨u1, u2, rfl, ho1, ho2, hr4, ht4⟩
  have HB4 := Lib.hid (ht4.outside HB3.out HB3.out.size (by have := HNE3.out.2.1; omega))
  have HT4 := Lib.hid (ht4.keep HT3.out (by have := HNE3.out.2.1; omega))
  have HW4 := Lib.hid (HW3.out.other ht4 (by have := HNE3.out.1; omega) (fun h => HNE3.out.2.2 _ h rfl) (by simp [Value.ownBlock]) (fun k _ => by simp [Value.ownBlock]))
  obtain ⟨xa, xc, rfl, _, _⟩ := ho1.shape
  obtain ⟨ya, yc, rfl, _, _⟩ := ho2.shape
  have HU1 := Lib.hid ho1
  have HU2 := Lib.hid ho2
  clear hr4 ht4 HB3 HT3 HW3 HR3 ho1 ho2
  obtain ⟨l1, hl1⟩ : ∃ x, (pairs F T n).length = x := ⟨_, rfl⟩
  obtain ⟨l2, hl2⟩ : ∃ x, (pairs G U m).length = x := ⟨_, rfl⟩
  rw [hl1] at HU1 ⊢
  rw [hl2] at HU2 ⊢
  clear hl1 hl2
  obtain ⟨bx, bn, bz⟩ := box1 P4 #[.int .i64 off, .slice xa l1 xc, .slice ya l2 yc] 24
  have HB5 := Lib.hid (HB4.out.trans (bx.mono HB4.out.size))
  have HT5 := Lib.hid (ex_below HT4.out bx)
  have HW5 := Lib.hid (HW4.out.kept bx)
  have HU15 := Lib.hid (HU1.out.kept bx)
  have HU25 := Lib.hid (HU2.out.kept bx)
  have HX5 := Lib.hid bn
  go_upto_region 9 with (fail)
  clear bx bn bz HB4 HT4 HW4 HU1 HU2
  obtain ⟨T6, hTe⟩ : ∃ T6, P4.heap.size = T6 := ⟨_, rfl⟩
  rw [hTe] at HX5
  try rw [hTe]
  generalize P4.alloc (.cells #[.int .i64 off, .slice xa l1 xc, .slice ya l2 yc] 24) = P5 at HB5 HT5 HW5 HX5 HU15 HU25 ⊢
  clear hTe
  have HY5 : Hid (∀ W', Below P5.heap.size P5 W' → Calls Tryz.prog 17 #[.pointer (some ⟨g, 0, none⟩)] W' (Owned W' BS)) := Lib.hid (fun W' h => bytes_wr g (g + 1) v1 BS W' (HW5.out.kept h) (by have := HLB.out.2; omega))
  have HSK : Hid (∀ W, Below P5.heap.size P5 W → ((W.cell? ⟨w.heap.size, 0, none⟩ = some (.int .i64 off) ∧ W.cell? ⟨w.heap.size, 1, none⟩ = some (.slice a n ca) ∧ W.cell? ⟨w.heap.size, 2, none⟩ = some (.slice b m cb)) ∧ (W.cell? ⟨T6, 0, none⟩ = some (.int .i64 off) ∧ W.cell? ⟨T6, 1, none⟩ = some (.slice xa l1 xc) ∧ W.cell? ⟨T6, 2, none⟩ = some (.slice ya l2 yc)) ∧ Below w.heap.size w W)) := Lib.hid (fun W h => ⟨tri_at (ex_below HT5.out h), tri_at (ex_below HX5.out h), HB5.out.trans (h.mono HB5.out.size)⟩)
  go_cut [69] from 54 to 70 (fun s69 wc => s69 = .bool false ∧ Hid (Below w.heap.size w wc))
  case first =>
    have b0 : Below P5.heap.size P5 P5.drew := (Below.refl _ _).drew
    have h0 := HSK.out _ b0
    go_wp2_with fail
    refine wp_region_held_drew (S := fun w1 => (w1.cell? ⟨w.heap.size, 0, none⟩ = some (.int .i64 off) ∧ w1.cell? ⟨w.heap.size, 1, none⟩ = some (.slice a n ca) ∧ w1.cell? ⟨w.heap.size, 2, none⟩ = some (.slice b m cb)) ∧ (w1.cell? ⟨T6, 0, none⟩ = some (.int .i64 off) ∧ w1.cell? ⟨T6, 1, none⟩ = some (.slice xa l1 xc) ∧ w1.cell? ⟨T6, 2, none⟩ = some (.slice ya l2 yc)) ∧ Below w.heap.size w w1) (by kernel_rfl) h0 (fun hHeld => ?_)
    refine wpAnyH_take (i := 2) (v := ?_) rfl (by kernel_rfl) (by kernel_rfl) (by kernel_rfl) (fun _ _ _ h => h) (Or.inl ⟨by rfl, ?_⟩) (HSK.out _ b0) ?_
    case refine_2 => (intro w1 hS1; obtain ⟨⟨z0, z1, z2⟩, ⟨y0, y1, y2⟩, -⟩ := hS1; go_simp; try with_reducible rfl)
    try simp only [List.getElem_toArray, List.getElem_cons_zero, List.getElem_cons_succ, Act.put, List.setIfInBounds_toArray, List.set_cons_zero, List.set_cons_succ]
    refine wpAnyH_ready (rs := [0]) (by kernel_rfl) (by simp) ?_
    refine (AllReadyH.cons rfl (fun K hK => ?_) AllReadyH.nil)
    go_simp
    refine (HY5.out _ b0).mono ?_
    rintro e W1 ⟨y, rfl, ho, hb⟩
    have b1 : Below P5.heap.size P5 W1 := b0.trans (hb.mono b0.size)
    have HV1 := Lib.hid (ho.rb HLB.out.1 (by have := HLB.out.2; omega))
    clear ho hb
    refine hK.out _ _ (HSK.out _ b1) (fun hHeld => ?_)
    clear hK K hHeld
    try simp only [List.getElem_toArray, List.getElem_cons_zero, List.getElem_cons_succ, Act.put, List.setIfInBounds_toArray, List.set_cons_zero, List.set_cons_succ]
    refine wpAnyH_ready (rs := [1, 3]) (by kernel_rfl) (by simp) ?_
    refine (AllReadyH.cons rfl (fun K hK => ?_) (AllReadyH.cons rfl (fun K hK => ?_) AllReadyH.nil))
    · have hcv := rb_string (P := Tryz.prog) HV1.out 25 9 5 Tryz.underlying25 Tryz.underlying5 Tryz.underlying9
      go_simp
      clear hcv
      refine hK.out _ _ (HSK.out _ b1) (fun hHeld => ?_)
      clear hK K hHeld
      try simp only [List.getElem_toArray, List.getElem_cons_zero, List.getElem_cons_succ, Act.put, List.setIfInBounds_toArray, List.set_cons_zero, List.set_cons_succ]
      refine wpAnyH_ready (rs := [3]) (by kernel_rfl) (by simp) ?_
      refine (AllReadyH.cons rfl (fun K hK => ?_) AllReadyH.nil)
      go_simp
      refine (HPR.out _ (HSK.out _ b1).2.2).mono ?_
      rintro e W2 ⟨z, rfl, ho, hb⟩
      have b2 : Below P5.heap.size P5 W2 := b1.trans (hb.mono b1.size)
      have HV2 := Lib.hid (ho.rb HLB.out.1 (by have := HLB.out.2; omega))
      clear ho hb
      refine hK.out _ _ (HSK.out _ b2) (fun hHeld => ?_)
      clear hK K hHeld
      try simp only [List.getElem_toArray, List.getElem_cons_zero, List.getElem_cons_succ, Act.put, List.setIfInBounds_toArray, List.set_cons_zero, List.set_cons_succ]
      refine wpAnyH_ready (rs := [4]) (by kernel_rfl) (by simp) ?_
      refine (AllReadyH.cons rfl (fun K hK => ?_) AllReadyH.nil)
      have hcv := rb_string (P := Tryz.prog) HV2.out 25 9 5 Tryz.underlying25 Tryz.underlying5 Tryz.underlying9
      go_simp
      clear hcv
      refine hK.out _ _ (HSK.out _ b2) (fun hHeld => ?_)
      clear hK K hHeld
      try simp only [List.getElem_toArray, List.getElem_cons_zero, List.getElem_cons_succ, Act.put, List.setIfInBounds_toArray, List.set_cons_zero, List.set_cons_succ]
      refine wpAnyH_take (i := 5) (v := ?_) rfl (by kernel_rfl) (by kernel_rfl) (by kernel_rfl) (fun _ _ _ h => h) (Or.inl ⟨by rfl, ?_⟩) (HSK.out _ b2) ?_
      case refine_2 => (intro w1 hS1; obtain ⟨⟨z0, z1, z2⟩, ⟨y0, y1, y2⟩, -⟩ := hS1; go_simp; try with_reducible rfl)
      try simp only [List.getElem_toArray, List.getElem_cons_zero, List.getElem_cons_succ, Act.put, List.setIfInBounds_toArray, List.set_cons_zero, List.set_cons_succ]
      refine wpAnyH_take (i := 6) (v := ?_) rfl (by kernel_rfl) (by kernel_rfl) (by kernel_rfl) (fun _ _ _ h => h) (Or.inl ⟨by rfl, ?_⟩) (HSK.out _ b2) ?_
      case refine_2 => (intro w1 hS1; obtain ⟨⟨z0, z1, z2⟩, ⟨y0, y1, y2⟩, -⟩ := hS1; go_simp; try with_reducible rfl)
      try simp only [List.getElem_toArray, List.getElem_cons_zero, List.getElem_cons_succ, Act.put, List.setIfInBounds_toArray, List.set_cons_zero, List.set_cons_succ]
      refine wpAnyH_take (i := 7) (v := ?_) rfl (by kernel_rfl) (by kernel_rfl) (by kernel_rfl) (fun _ _ _ h => h) (Or.inl ⟨by rfl, ?_⟩) (HSK.out _ b2) ?_
      case refine_2 => (intro w1 hS1; obtain ⟨⟨z0, z1, z2⟩, ⟨y0, y1, y2⟩, -⟩ := hS1; go_simp; try with_reducible rfl)
      try simp only [List.getElem_toArray, List.getElem_cons_zero, List.getElem_cons_succ, Act.put, List.setIfInBounds_toArray, List.set_cons_zero, List.set_cons_succ]
      refine wpAnyH_take (i := 8) (v := ?_) rfl (by kernel_rfl) (by kernel_rfl) (by kernel_rfl) (fun _ _ _ h => h) (Or.inl ⟨by rfl, ?_⟩) (HSK.out _ b2) ?_
      case refine_2 => (intro w1 hS1; obtain ⟨⟨z0, z1, z2⟩, ⟨y0, y1, y2⟩, -⟩ := hS1; go_simp; try with_reducible rfl)
      try simp only [List.getElem_toArray, List.getElem_cons_zero, List.getElem_cons_succ, Act.put, List.setIfInBounds_toArray, List.set_cons_zero, List.set_cons_succ]
      refine wpAnyH_take (i := 9) (v := ?_) rfl (by kernel_rfl) (by kernel_rfl) (by kernel_rfl) (fun _ _ _ h => h) (Or.inl ⟨by rfl, ?_⟩) (HSK.out _ b2) ?_
      case refine_2 => (intro w1 hS1; obtain ⟨⟨z0, z1, z2⟩, ⟨y0, y1, y2⟩, -⟩ := hS1; go_simp; try with_reducible rfl)
      try simp only [List.getElem_toArray, List.getElem_cons_zero, List.getElem_cons_succ, Act.put, List.setIfInBounds_toArray, List.set_cons_zero, List.set_cons_succ]
      refine wpAnyH_take (i := 10) (v := ?_) rfl (by kernel_rfl) (by kernel_rfl) (by kernel_rfl) (fun _ _ _ h => h) (Or.inl ⟨by rfl, ?_⟩) (HSK.out _ b2) ?_
      case refine_2 => (intro w1 hS1; obtain ⟨⟨z0, z1, z2⟩, ⟨y0, y1, y2⟩, -⟩ := hS1; go_simp; try with_reducible rfl)
      try simp only [List.getElem_toArray, List.getElem_cons_zero, List.getElem_cons_succ, Act.put, List.setIfInBounds_toArray, List.set_cons_zero, List.set_cons_succ]
      refine wpAnyH_take (i := 11) (v := ?_) rfl (by kernel_rfl) (by kernel_rfl) (by kernel_rfl) (fun _ _ _ h => h) (Or.inl ⟨by rfl, ?_⟩) (HSK.out _ b2) ?_
      case refine_2 => (intro w1 hS1; obtain ⟨⟨z0, z1, z2⟩, ⟨y0, y1, y2⟩, -⟩ := hS1; go_simp; try with_reducible rfl)
      try simp only [List.getElem_toArray, List.getElem_cons_zero, List.getElem_cons_succ, Act.put, List.setIfInBounds_toArray, List.set_cons_zero, List.set_cons_succ]
      refine wpAnyH_take (i := 12) (v := ?_) rfl (by kernel_rfl) (by kernel_rfl) (by kernel_rfl) (fun _ _ _ h => h) (Or.inl ⟨by rfl, ?_⟩) (HSK.out _ b2) ?_
      case refine_2 => (intro w1 hS1; obtain ⟨⟨z0, z1, z2⟩, ⟨y0, y1, y2⟩, -⟩ := hS1; go_simp; try with_reducible rfl)
      try simp only [List.getElem_toArray, List.getElem_cons_zero, List.getElem_cons_succ, Act.put, List.setIfInBounds_toArray, List.set_cons_zero, List.set_cons_succ]
      refine wpAnyH_ready (rs := [13]) (by kernel_rfl) (by simp) ?_
      refine (AllReadyH.cons rfl (fun K hK => ?_) AllReadyH.nil)
      go_simp
      refine (HSR.out _ P3.heap.size _ _ (HSK.out _ b2).2.2 (HU15.out.kept b2) (HU25.out.kept b2)).mono ?_
      rintro e W3 ⟨rfl, hb3⟩
      have b3 : Below P5.heap.size P5 W3 := b2.trans (hb3.mono b2.size)
      clear hb3
      refine hK.out _ _ (HSK.out _ b3) (fun hHeld => ?_)
      clear hK K hHeld
      try simp only [List.getElem_toArray, List.getElem_cons_zero, List.getElem_cons_succ, Act.put, List.setIfInBounds_toArray, List.set_cons_zero, List.set_cons_succ]
      refine wpAnyH_take (i := 14) (v := ?_) rfl (by kernel_rfl) (by kernel_rfl) (by kernel_rfl) (fun _ _ _ h => h) (Or.inl ⟨by rfl, ?_⟩) (HSK.out _ b3) ?_
      case refine_2 => (intro w1 hS1; obtain ⟨⟨z0, z1, z2⟩, ⟨y0, y1, y2⟩, -⟩ := hS1; go_simp; try with_reducible rfl)
      try simp only [List.getElem_toArray, List.getElem_cons_zero, List.getElem_cons_succ, Act.put, List.setIfInBounds_toArray, List.set_cons_zero, List.set_cons_succ]
      refine wpAnyH_take (i := 15) (v := ?_) rfl (by kernel_rfl) (by kernel_rfl) (by kernel_rfl) (fun _ _ _ h => h) (Or.inl ⟨by rfl, ?_⟩) (HSK.out _ b3) ?_
      case refine_2 => (intro w1 hS1; obtain ⟨⟨z0, z1, z2⟩, ⟨y0, y1, y2⟩, -⟩ := hS1; go_simp; try with_reducible rfl)
      try simp only [List.getElem_toArray, List.getElem_cons_zero, List.getElem_cons_succ, Act.put, List.setIfInBounds_toArray, List.set_cons_zero, List.set_cons_succ]
      refine wpAnyH_done (by kernel_rfl) ?_ _
      go_wp2_with fail
      go_meet
      exact ⟨rfl, Lib.hid (HSK.out _ b3).2.2⟩
    · go_simp
      refine (HPR.out _ (HSK.out _ b1).2.2).mono ?_
      rintro e W2 ⟨z, rfl, ho, hb⟩
      have b2 : Below P5.heap.size P5 W2 := b1.trans (hb.mono b1.size)
      have HV2 := Lib.hid (ho.rb HLB.out.1 (by have := HLB.out.2; omega))
      have HV3 := Lib.hid (HV1.out.kept hb)
      clear ho hb
      refine hK.out _ _ (HSK.out _ b2) (fun hHeld => ?_)
      clear hK K hHeld
      try simp only [List.getElem_toArray, List.getElem_cons_zero, List.getElem_cons_succ, Act.put, List.setIfInBounds_toArray, List.set_cons_zero, List.set_cons_succ]
      refine wpAnyH_ready (rs := [1, 4]) (by kernel_rfl) (by simp) ?_
      refine (AllReadyH.cons rfl (fun K hK => ?_) (AllReadyH.cons rfl (fun K hK => ?_) AllReadyH.nil))
      · have hcv := rb_string (P := Tryz.prog) HV3.out 25 9 5 Tryz.underlying25 Tryz.underlying5 Tryz.underlying9
        go_simp
        clear hcv
        refine hK.out _ _ (HSK.out _ b2) (fun hHeld => ?_)
        clear hK K hHeld
        try simp only [List.getElem_toArray, List.getElem_cons_zero, List.getElem_cons_succ, Act.put, List.setIfInBounds_toArray, List.set_cons_zero, List.set_cons_succ]
        refine wpAnyH_ready (rs := [4]) (by kernel_rfl) (by simp) ?_
        refine (AllReadyH.cons rfl (fun K hK => ?_) AllReadyH.nil)
        have hcv := rb_string (P := Tryz.prog) HV2.out 25 9 5 Tryz.underlying25 Tryz.underlying5 Tryz.underlying9
        go_simp
        clear hcv
        refine hK.out _ _ (HSK.out _ b2) (fun hHeld => ?_)
        clear hK K hHeld
        try simp only [List.getElem_toArray, List.getElem_cons_zero, List.getElem_cons_succ, Act.put, List.setIfInBounds_toArray, List.set_cons_zero, List.set_cons_succ]
        refine wpAnyH_take (i := 5) (v := ?_) rfl (by kernel_rfl) (by kernel_rfl) (by kernel_rfl) (fun _ _ _ h => h) (Or.inl ⟨by rfl, ?_⟩) (HSK.out _ b2) ?_
        case refine_2 => (intro w1 hS1; obtain ⟨⟨z0, z1, z2⟩, ⟨y0, y1, y2⟩, -⟩ := hS1; go_simp; try with_reducible rfl)
        try simp only [List.getElem_toArray, List.getElem_cons_zero, List.getElem_cons_succ, Act.put, List.setIfInBounds_toArray, List.set_cons_zero, List.set_cons_succ]
        refine wpAnyH_take (i := 6) (v := ?_) rfl (by kernel_rfl) (by kernel_rfl) (by kernel_rfl) (fun _ _ _ h => h) (Or.inl ⟨by rfl, ?_⟩) (HSK.out _ b2) ?_
        case refine_2 => (intro w1 hS1; obtain ⟨⟨z0, z1, z2⟩, ⟨y0, y1, y2⟩, -⟩ := hS1; go_simp; try with_reducible rfl)
        try simp only [List.getElem_toArray, List.getElem_cons_zero, List.getElem_cons_succ, Act.put, List.setIfInBounds_toArray, List.set_cons_zero, List.set_cons_succ]
        refine wpAnyH_take (i := 7) (v := ?_) rfl (by kernel_rfl) (by kernel_rfl) (by kernel_rfl) (fun _ _ _ h => h) (Or.inl ⟨by rfl, ?_⟩) (HSK.out _ b2) ?_
        case refine_2 => (intro w1 hS1; obtain ⟨⟨z0, z1, z2⟩, ⟨y0, y1, y2⟩, -⟩ := hS1; go_simp; try with_reducible rfl)
        try simp only [List.getElem_toArray, List.getElem_cons_zero, List.getElem_cons_succ, Act.put, List.setIfInBounds_toArray, List.set_cons_zero, List.set_cons_succ]
        refine wpAnyH_take (i := 8) (v := ?_) rfl (by kernel_rfl) (by kernel_rfl) (by kernel_rfl) (fun _ _ _ h => h) (Or.inl ⟨by rfl, ?_⟩) (HSK.out _ b2) ?_
        case refine_2 => (intro w1 hS1; obtain ⟨⟨z0, z1, z2⟩, ⟨y0, y1, y2⟩, -⟩ := hS1; go_simp; try with_reducible rfl)
        try simp only [List.getElem_toArray, List.getElem_cons_zero, List.getElem_cons_succ, Act.put, List.setIfInBounds_toArray, List.set_cons_zero, List.set_cons_succ]
        refine wpAnyH_take (i := 9) (v := ?_) rfl (by kernel_rfl) (by kernel_rfl) (by kernel_rfl) (fun _ _ _ h => h) (Or.inl ⟨by rfl, ?_⟩) (HSK.out _ b2) ?_
        case refine_2 => (intro w1 hS1; obtain ⟨⟨z0, z1, z2⟩, ⟨y0, y1, y2⟩, -⟩ := hS1; go_simp; try with_reducible rfl)
        try simp only [List.getElem_toArray, List.getElem_cons_zero, List.getElem_cons_succ, Act.put, List.setIfInBounds_toArray, List.set_cons_zero, List.set_cons_succ]
        refine wpAnyH_take (i := 10) (v := ?_) rfl (by kernel_rfl) (by kernel_rfl) (by kernel_rfl) (fun _ _ _ h => h) (Or.inl ⟨by rfl, ?_⟩) (HSK.out _ b2) ?_
        case refine_2 => (intro w1 hS1; obtain ⟨⟨z0, z1, z2⟩, ⟨y0, y1, y2⟩, -⟩ := hS1; go_simp; try with_reducible rfl)
        try simp only [List.getElem_toArray, List.getElem_cons_zero, List.getElem_cons_succ, Act.put, List.setIfInBounds_toArray, List.set_cons_zero, List.set_cons_succ]
        refine wpAnyH_take (i := 11) (v := ?_) rfl (by kernel_rfl) (by kernel_rfl) (by kernel_rfl) (fun _ _ _ h => h) (Or.inl ⟨by rfl, ?_⟩) (HSK.out _ b2) ?_
        case refine_2 => (intro w1 hS1; obtain ⟨⟨z0, z1, z2⟩, ⟨y0, y1, y2⟩, -⟩ := hS1; go_simp; try with_reducible rfl)
        try simp only [List.getElem_toArray, List.getElem_cons_zero, List.getElem_cons_succ, Act.put, List.setIfInBounds_toArray, List.set_cons_zero, List.set_cons_succ]
        refine wpAnyH_take (i := 12) (v := ?_) rfl (by kernel_rfl) (by kernel_rfl) (by kernel_rfl) (fun _ _ _ h => h) (Or.inl ⟨by rfl, ?_⟩) (HSK.out _ b2) ?_
        case refine_2 => (intro w1 hS1; obtain ⟨⟨z0, z1, z2⟩, ⟨y0, y1, y2⟩, -⟩ := hS1; go_simp; try with_reducible rfl)
        try simp only [List.getElem_toArray, List.getElem_cons_zero, List.getElem_cons_succ, Act.put, List.setIfInBounds_toArray, List.set_cons_zero, List.set_cons_succ]
        refine wpAnyH_ready (rs := [13]) (by kernel_rfl) (by simp) ?_
        refine (AllReadyH.cons rfl (fun K hK => ?_) AllReadyH.nil)
        go_simp
        refine (HSR.out _ P3.heap.size _ _ (HSK.out _ b2).2.2 (HU15.out.kept b2) (HU25.out.kept b2)).mono ?_
        rintro e W3 ⟨rfl, hb3⟩
        have b3 : Below P5.heap.size P5 W3 := b2.trans (hb3.mono b2.size)
        clear hb3
        refine hK.out _ _ (HSK.out _ b3) (fun hHeld => ?_)
        clear hK K hHeld
        try simp only [List.getElem_toArray, List.getElem_cons_zero, List.getElem_cons_succ, Act.put, List.setIfInBounds_toArray, List.set_cons_zero, List.set_cons_succ]
        refine wpAnyH_take (i := 14) (v := ?_) rfl (by kernel_rfl) (by kernel_rfl) (by kernel_rfl) (fun _ _ _ h => h) (Or.inl ⟨by rfl, ?_⟩) (HSK.out _ b3) ?_
        case refine_2 => (intro w1 hS1; obtain ⟨⟨z0, z1, z2⟩, ⟨y0, y1, y2⟩, -⟩ := hS1; go_simp; try with_reducible rfl)
        try simp only [List.getElem_toArray, List.getElem_cons_zero, List.getElem_cons_succ, Act.put, List.setIfInBounds_toArray, List.set_cons_zero, List.set_cons_succ]
        refine wpAnyH_take (i := 15) (v := ?_) rfl (by kernel_rfl) (by kernel_rfl) (by kernel_rfl) (fun _ _ _ h => h) (Or.inl ⟨by rfl, ?_⟩) (HSK.out _ b3) ?_
        case refine_2 => (intro w1 hS1; obtain ⟨⟨z0, z1, z2⟩, ⟨y0, y1, y2⟩, -⟩ := hS1; go_simp; try with_reducible rfl)
        try simp only [List.getElem_toArray, List.getElem_cons_zero, List.getElem_cons_succ, Act.put, List.setIfInBounds_toArray, List.set_cons_zero, List.set_cons_succ]
        refine wpAnyH_done (by kernel_rfl) ?_ _
        go_wp2_with fail
        go_meet
        exact ⟨rfl, Lib.hid (HSK.out _ b3).2.2⟩
      · have hcv := rb_string (P := Tryz.prog) HV2.out 25 9 5 Tryz.underlying25 Tryz.underlying5 Tryz.underlying9
        go_simp
        clear hcv
        refine hK.out _ _ (HSK.out _ b2) (fun hHeld => ?_)
        clear hK K hHeld
        try simp only [List.getElem_toArray, List.getElem_cons_zero, List.getElem_cons_succ, Act.put, List.setIfInBounds_toArray, List.set_cons_zero, List.set_cons_succ]
        refine wpAnyH_ready (rs := [1]) (by kernel_rfl) (by simp) ?_
        refine (AllReadyH.cons rfl (fun K hK => ?_) AllReadyH.nil)
        have hcv := rb_string (P := Tryz.prog) HV3.out 25 9 5 Tryz.underlying25 Tryz.underlying5 Tryz.underlying9
        go_simp
        clear hcv
        refine hK.out _ _ (HSK.out _ b2) (fun hHeld => ?_)
        clear hK K hHeld
        try simp only [List.getElem_toArray, List.getElem_cons_zero, List.getElem_cons_succ, Act.put, List.setIfInBounds_toArray, List.set_cons_zero, List.set_cons_succ]
        refine wpAnyH_take (i := 5) (v := ?_) rfl (by kernel_rfl) (by kernel_rfl) (by kernel_rfl) (fun _ _ _ h => h) (Or.inl ⟨by rfl, ?_⟩) (HSK.out _ b2) ?_
        case refine_2 => (intro w1 hS1; obtain ⟨⟨z0, z1, z2⟩, ⟨y0, y1, y2⟩, -⟩ := hS1; go_simp; try with_reducible rfl)
        try simp only [List.getElem_toArray, List.getElem_cons_zero, List.getElem_cons_succ, Act.put, List.setIfInBounds_toArray, List.set_cons_zero, List.set_cons_succ]
        refine wpAnyH_take (i := 6) (v := ?_) rfl (by kernel_rfl) (by kernel_rfl) (by kernel_rfl) (fun _ _ _ h => h) (Or.inl ⟨by rfl, ?_⟩) (HSK.out _ b2) ?_
        case refine_2 => (intro w1 hS1; obtain ⟨⟨z0, z1, z2⟩, ⟨y0, y1, y2⟩, -⟩ := hS1; go_simp; try with_reducible rfl)
        try simp only [List.getElem_toArray, List.getElem_cons_zero, List.getElem_cons_succ, Act.put, List.setIfInBounds_toArray, List.set_cons_zero, List.set_cons_succ]
        refine wpAnyH_take (i := 7) (v := ?_) rfl (by kernel_rfl) (by kernel_rfl) (by kernel_rfl) (fun _ _ _ h => h) (Or.inl ⟨by rfl, ?_⟩) (HSK.out _ b2) ?_
        case refine_2 => (intro w1 hS1; obtain ⟨⟨z0, z1, z2⟩, ⟨y0, y1, y2⟩, -⟩ := hS1; go_simp; try with_reducible rfl)
        try simp only [List.getElem_toArray, List.getElem_cons_zero, List.getElem_cons_succ, Act.put, List.setIfInBounds_toArray, List.set_cons_zero, List.set_cons_succ]
        refine wpAnyH_take (i := 8) (v := ?_) rfl (by kernel_rfl) (by kernel_rfl) (by kernel_rfl) (fun _ _ _ h => h) (Or.inl ⟨by rfl, ?_⟩) (HSK.out _ b2) ?_
        case refine_2 => (intro w1 hS1; obtain ⟨⟨z0, z1, z2⟩, ⟨y0, y1, y2⟩, -⟩ := hS1; go_simp; try with_reducible rfl)
        try simp only [List.getElem_toArray, List.getElem_cons_zero, List.getElem_cons_succ, Act.put, List.setIfInBounds_toArray, List.set_cons_zero, List.set_cons_succ]
        refine wpAnyH_take (i := 9) (v := ?_) rfl (by kernel_rfl) (by kernel_rfl) (by kernel_rfl) (fun _ _ _ h => h) (Or.inl ⟨by rfl, ?_⟩) (HSK.out _ b2) ?_
        case refine_2 => (intro w1 hS1; obtain ⟨⟨z0, z1, z2⟩, ⟨y0, y1, y2⟩, -⟩ := hS1; go_simp; try with_reducible rfl)
        try simp only [List.getElem_toArray, List.getElem_cons_zero, List.getElem_cons_succ, Act.put, List.setIfInBounds_toArray, List.set_cons_zero, List.set_cons_succ]
        refine wpAnyH_take (i := 10) (v := ?_) rfl (by kernel_rfl) (by kernel_rfl) (by kernel_rfl) (fun _ _ _ h => h) (Or.inl ⟨by rfl, ?_⟩) (HSK.out _ b2) ?_
        case refine_2 => (intro w1 hS1; obtain ⟨⟨z0, z1, z2⟩, ⟨y0, y1, y2⟩, -⟩ := hS1; go_simp; try with_reducible rfl)
        try simp only [List.getElem_toArray, List.getElem_cons_zero, List.getElem_cons_succ, Act.put, List.setIfInBounds_toArray, List.set_cons_zero, List.set_cons_succ]
        refine wpAnyH_take (i := 11) (v := ?_) rfl (by kernel_rfl) (by kernel_rfl) (by kernel_rfl) (fun _ _ _ h => h) (Or.inl ⟨by rfl, ?_⟩) (HSK.out _ b2) ?_
        case refine_2 => (intro w1 hS1; obtain ⟨⟨z0, z1, z2⟩, ⟨y0, y1, y2⟩, -⟩ := hS1; go_simp; try with_reducible rfl)
        try simp only [List.getElem_toArray, List.getElem_cons_zero, List.getElem_cons_succ, Act.put, List.setIfInBounds_toArray, List.set_cons_zero, List.set_cons_succ]
        refine wpAnyH_take (i := 12) (v := ?_) rfl (by kernel_rfl) (by kernel_rfl) (by kernel_rfl) (fun _ _ _ h => h) (Or.inl ⟨by rfl, ?_⟩) (HSK.out _ b2) ?_
        case refine_2 => (intro w1 hS1; obtain ⟨⟨z0, z1, z2⟩, ⟨y0, y1, y2⟩, -⟩ := hS1; go_simp; try with_reducible rfl)
        try simp only [List.getElem_toArray, List.getElem_cons_zero, List.getElem_cons_succ, Act.put, List.setIfInBounds_toArray, List.set_cons_zero, List.set_cons_succ]
        refine wpAnyH_ready (rs := [13]) (by kernel_rfl) (by simp) ?_
        refine (AllReadyH.cons rfl (fun K hK => ?_) AllReadyH.nil)
        go_simp
        refine (HSR.out _ P3.heap.size _ _ (HSK.out _ b2).2.2 (HU15.out.kept b2) (HU25.out.kept b2)).mono ?_
        rintro e W3 ⟨rfl, hb3⟩
        have b3 : Below P5.heap.size P5 W3 := b2.trans (hb3.mono b2.size)
        clear hb3
        refine hK.out _ _ (HSK.out _ b3) (fun hHeld => ?_)
        clear hK K hHeld
        try simp only [List.getElem_toArray, List.getElem_cons_zero, List.getElem_cons_succ, Act.put, List.setIfInBounds_toArray, List.set_cons_zero, List.set_cons_succ]
        refine wpAnyH_take (i := 14) (v := ?_) rfl (by kernel_rfl) (by kernel_rfl) (by kernel_rfl) (fun _ _ _ h => h) (Or.inl ⟨by rfl, ?_⟩) (HSK.out _ b3) ?_
        case refine_2 => (intro w1 hS1; obtain ⟨⟨z0, z1, z2⟩, ⟨y0, y1, y2⟩, -⟩ := hS1; go_simp; try with_reducible rfl)
        try simp only [List.getElem_toArray, List.getElem_cons_zero, List.getElem_cons_succ, Act.put, List.setIfInBounds_toArray, List.set_cons_zero, List.set_cons_succ]
        refine wpAnyH_take (i := 15) (v := ?_) rfl (by kernel_rfl) (by kernel_rfl) (by kernel_rfl) (fun _ _ _ h => h) (Or.inl ⟨by rfl, ?_⟩) (HSK.out _ b3) ?_
        case refine_2 => (intro w1 hS1; obtain ⟨⟨z0, z1, z2⟩, ⟨y0, y1, y2⟩, -⟩ := hS1; go_simp; try with_reducible rfl)
        try simp only [List.getElem_toArray, List.getElem_cons_zero, List.getElem_cons_succ, Act.put, List.setIfInBounds_toArray, List.set_cons_zero, List.set_cons_succ]
        refine wpAnyH_done (by kernel_rfl) ?_ _
        go_wp2_with fail
        go_meet
        exact ⟨rfl, Lib.hid (HSK.out _ b3).2.2⟩
  case rest =>
    obtain ⟨rfl, HB⟩ := hcut
    clear HY5 HSK HW5 HX5 HT5 HB5 HU15 HU25 HPR HRDB HSR
    go_wp2_with fail
    refine (open_any (.slice p k cap) bs _ (HRB0.out _ HB.out) (by have := HLN.out; omega)).mono ?_
    rintro e V1 ⟨rb, rfl, hle, hrr, hb1⟩
    have HB1 := Lib.hid (HB.out.trans (hb1.mono HB.out.size))
    have HRR1 := Lib.hid hrr
    have HRL : Hid (rb < V1.heap.size ∧ w.heap.size ≤ rb) := Lib.hid ⟨hrr.lt, Nat.le_trans HB.out.size hle⟩
    clear hle hrr hb1
    go_wp2_with fail
    obtain ⟨bx, bn, bz⟩ := box1 V1 #[.slice p k cap, .bool false] 42
    have HB2 := Lib.hid (HB1.out.trans (bx.mono HB1.out.size))
    have HRR2 := Lib.hid (HRR1.out.kept bx)
    obtain ⟨c, hce⟩ : ∃ c, V1.heap.size = c := ⟨_, rfl⟩
    have HNE : Hid (rb < c ∧ c < (V1.alloc (.cells #[.slice p k cap, .bool false] 42)).heap.size ∧ w.heap.size ≤ c ∧ w.heap.size ≤ rb) := Lib.hid ⟨by have := HRL.out.1; omega, by rw [bz]; omega, by rw [← hce]; exact HB1.out.size, HRL.out.2⟩
    have HRF2 : Hid (RF (V1.alloc (.cells #[.slice p k cap, .bool false] 42)) c bs false) := Lib.hid ⟨.slice p k cap, by rw [← hce]; exact bn, HRB0.out _ HB2.out, fun j hj => by
      have h1 := HNE.out.2.2.1
      apply Nat.lt_of_not_le
      intro hcj
      exact HOWN.out j (Nat.le_trans h1 hcj) hj, fun h => by cases h⟩
    clear bx bn bz HRR1 HB1 HRL
    try rw [hce]
    generalize V1.alloc (.cells #[.slice p k cap, .bool false] 42) = V2 at HB2 HRR2 HRF2 HNE ⊢
    clear hce
    refine (cal_rd rb bs false V2 HRR2.out ok HOKB.out).mono ?_
    rintro e V3 ⟨v, rfl, ⟨v1, v2, rfl, ho1, ho2⟩, hr3, ht3⟩
    have HB3 := Lib.hid (ht3.outside HB2.out HB2.out.size HNE.out.2.2.2)
    have HRR3 := Lib.hid hr3
    have HRF3 := Lib.hid (HRF2.out.besides HRR2.out ht3 (fun h => by have := HNE.out.1; omega))
    have HCL : Hid (c < V3.heap.size) := Lib.hid (Nat.lt_of_lt_of_le HNE.out.2.1 ht3.size)
    have HPO1 := Lib.hid ho1
    have HPO2 := Lib.hid ho2
    have HV2 : Hid (c < V2.heap.size) := Lib.hid HNE.out.2.1
    obtain ⟨xa, xc, rfl, _, _⟩ := ho1.shape
    obtain ⟨ya, yc, rfl, _, _⟩ := ho2.shape
    obtain ⟨LX, hLX⟩ : ∃ x, (if ok = true then cW bs else []) = x := ⟨_, rfl⟩
    obtain ⟨LY, hLY⟩ : ∃ x, (if ok = true then cC bs else []) = x := ⟨_, rfl⟩
    obtain ⟨of, hof⟩ : ∃ x : Int, (if ok = true then cOff bs else 0) = x := ⟨_, rfl⟩
    obtain ⟨RX, hRX⟩ : ∃ x, (if ok = true then cR bs else []) = x := ⟨_, rfl⟩
    have HBX : Hid ((∀ s ∈ LX, -9223372036854775808 ≤ s.1 ∧ s.1 ≤ 9223372036854775807 ∧ -9223372036854775808 ≤ s.2 ∧ s.2 ≤ 9223372036854775807) ∧ (∀ s ∈ LY, -9223372036854775808 ≤ s.1 ∧ s.1 ≤ 9223372036854775807 ∧ -9223372036854775808 ≤ s.2 ∧ s.2 ≤ 9223372036854775807)) := Lib.hid ⟨fun s hs => by rw [← hLX] at hs; split at hs <;> first | exact cW_bd bs s hs | simp at hs, fun s hs => by rw [← hLY] at hs; split at hs <;> first | exact cC_bd bs s hs | simp at hs⟩
    have HRD2 : Hid (∀ V, RF V c bs false → Calls Tryz.prog 19 #[.pointer (some ⟨c, 0, none⟩)] V fun e w' => ∃ u1 u2, e = .returned (.tuple #[.agg #[.int .i64 of, u1, u2], .bool ok]) ∧ OS w' V.heap.size u1 LX ∧ OS w' V.heap.size u2 LY ∧ RF w' c RX (!ok) ∧ Rd c V w') := Lib.hid (fun V h => by
      have hh := cal_rf c bs false V h ok HOKB.out
      unfold CalV at hh
      rw [hLX, hLY, hof, hRX] at hh
      exact hh.mono fun e w' ⟨v, h1, ⟨u1, u2, h2, h3, h4⟩, h5, h6⟩ => ⟨u1, u2, by rw [h1, h2], h3, h4, h5, h6⟩)
    rw [hLX] at HPO1 ⊢
    rw [hLY] at HPO2 ⊢
    rw [hof]
    rw [hRX] at HRR3
    clear hLX hLY hof hRX hr3 ht3 HRR2 HRF2 HB2 ho1 ho2
    go_wp2_with fail
    obtain ⟨bx, bn, bz⟩ := box1 V3 #[.int .i64 of, .slice xa LX.length xc, .slice ya LY.length yc] 24
    have HB4 := Lib.hid (HB3.out.trans (bx.mono HB3.out.size))
    have HRR4 := Lib.hid (HRR3.out.kept bx)
    have HRF4 := Lib.hid (HRF3.out.kept bx)
    have HPP1 := Lib.hid (HPO1.out.kept bx)
    have HPP2 := Lib.hid (HPO2.out.kept bx)
    obtain ⟨T12, hTe⟩ : ∃ c, V3.heap.size = c := ⟨_, rfl⟩
    rw [hTe] at bn
    have HT12 := Lib.hid bn
    have HTC : Hid (T12 ≠ c) := Lib.hid (by have := HCL.out; omega)
    clear bx bn bz HRR3 HRF3 HB3 HPO1 HPO2
    try rw [hTe]
    generalize V3.alloc (.cells #[.int .i64 of, .slice xa LX.length xc, .slice ya LY.length yc] 24) = V4 at HB4 HRR4 HRF4 HT12 HPP1 HPP2 ⊢
    clear hTe HCL
    refine (HRD2.out V4 HRF4.out).mono ?_
    rintro e V5 ⟨u1, u2, rfl, hu1, hu2, hr5, ht5⟩
    have HB5 := Lib.hid (ht5.outside HB4.out HB4.out.size HNE.out.2.2.1)
    have HRF5 := Lib.hid hr5
    have HRR5 := Lib.hid (HRR4.out.besides HRF4.out ht5 (by have := HNE.out.1; omega))
    have HT13 := Lib.hid (ht5.keep HT12.out HTC.out)
    have HPR1 := Lib.hid (HPP1.out.rd ht5 HV2.out)
    have HPR2 := Lib.hid (HPP2.out.rd ht5 HV2.out)
    obtain ⟨za, zc, rfl, _, _⟩ := hu1.shape
    obtain ⟨ta, tc, rfl, _, _⟩ := hu2.shape
    have HU1 := Lib.hid hu1
    have HU2 := Lib.hid hu2
    clear hr5 ht5 hu1 hu2 HRR4 HRF4 HB4 HT12 HPP1 HPP2
    go_wp2_with fail
    obtain ⟨bx, bn, bz⟩ := box1 V5 #[.int .i64 of, .slice za LX.length zc, .slice ta LY.length tc] 24
    have HB6 := Lib.hid (HB5.out.trans (bx.mono HB5.out.size))
    obtain ⟨T14, hTe⟩ : ∃ c, V5.heap.size = c := ⟨_, rfl⟩
    rw [hTe] at bn
    obtain ⟨v, h1, h2, -, -⟩ := HRF5.out.kept bx
    obtain ⟨va, vc, rfl⟩ := h2.shapeN' (rfl : RX.length = RX.length)
    obtain ⟨a0, a1, a2⟩ := tri_at (ex_below HT13.out bx)
    obtain ⟨b0, b1, b2⟩ := tri_at bn
    have hrr := HRR5.out.kept bx
    obtain ⟨c0, c1, -, -⟩ := two_cells h1
    have hs1 := ((HPR1.out.kept bx).sps HBX.out.1).2
    have hs2 := ((HPR2.out.kept bx).sps HBX.out.2).2
    have hs3 := ((HU1.out.kept bx).sps HBX.out.1).2
    have hs4 := ((HU2.out.kept bx).sps HBX.out.2).2
    try rw [hTe]
    clear h1 h2 bx bn bz HRR5 HRF5 HB5 HT13 HPR1 HPR2 HU1 HU2 HRD2 HBX
    generalize V5.alloc (.cells #[.int .i64 of, .slice za LX.length zc, .slice ta LY.length tc] 24) = V6 at HB6 hrr c0 c1 a0 b0 a1 b1 a2 b2 hs1 hs2 hs3 hs4 ⊢
    have HSM : Hid (∀ W, Below V6.heap.size V6 W → Calls Tryz.prog 12 #[.agg #[.int .i64 of, .slice xa LX.length xc, .slice ya LY.length yc], .agg #[.int .i64 of, .slice za LX.length zc, .slice ta LY.length tc]] W fun e w' => e = .returned (.bool true) ∧ Below W.heap.size W w') := Lib.hid (fun W hb => by
      have := rsame10_any of of xa LX.length xc ya LY.length yc (fr LX) (til LX) (fr LY) (til LY) za LX.length zc ta LY.length tc (fr LX) (til LX) (fr LY) (til LY) W (hs1.kept hb) (hs2.kept hb) (hs3.kept hb) (hs4.kept hb)
      rw [calEq_refl] at this
      exact this)
    have HSK : Hid (∀ W, Below V6.heap.size V6 W → (W.cell? ⟨T12, 0, none⟩ = some (.int .i64 of) ∧ W.cell? ⟨T12, 1, none⟩ = some (.slice xa LX.length xc) ∧ W.cell? ⟨T12, 2, none⟩ = some (.slice ya LY.length yc) ∧ W.cell? ⟨T14, 0, none⟩ = some (.int .i64 of) ∧ W.cell? ⟨T14, 1, none⟩ = some (.slice za LX.length zc) ∧ W.cell? ⟨T14, 2, none⟩ = some (.slice ta LY.length tc) ∧ W.cell? ⟨c, 0, none⟩ = some (.slice va RX.length vc) ∧ W.cell? ⟨c, 1, none⟩ = some (.bool (!ok)) ∧ RR W rb RX (!ok) ∧ Below V6.heap.size V6 W)) := Lib.hid (fun W hb => by
      have kk : ∀ {q : Addr} {v : Value}, V6.cell? q = some v → W.cell? q = some v := fun {q} {v} e => (hb.cell (p := q) (cell_spot e).2).trans e
      exact ⟨kk a0, kk a1, kk a2, kk b0, kk b1, kk b2, kk c0, kk c1, hrr.kept hb, hb⟩)
    have h0 := HSK.out V6.drew (Below.refl _ _).drew
    clear hTe hrr c0 c1 a0 b0 a1 b1 a2 b2 hs1 hs2 hs3 hs4
    have HL : Hid (∀ W, (W.cell? ⟨T12, 0, none⟩ = some (.int .i64 of) ∧ W.cell? ⟨T12, 1, none⟩ = some (.slice xa LX.length xc) ∧ W.cell? ⟨T12, 2, none⟩ = some (.slice ya LY.length yc) ∧ W.cell? ⟨T14, 0, none⟩ = some (.int .i64 of) ∧ W.cell? ⟨T14, 1, none⟩ = some (.slice za LX.length zc) ∧ W.cell? ⟨T14, 2, none⟩ = some (.slice ta LY.length tc) ∧ W.cell? ⟨c, 0, none⟩ = some (.slice va RX.length vc) ∧ W.cell? ⟨c, 1, none⟩ = some (.bool (!ok)) ∧ RR W rb RX (!ok) ∧ Below V6.heap.size V6 W) → Calls Tryz.prog 20 #[.pointer (some ⟨rb, 0, none⟩)] W fun e w' => e = .returned (.int .i64 (RX.length : Int)) ∧ W = w') := Lib.hid (fun W h => left_rd rb RX (!ok) W h.2.2.2.2.2.2.2.2.1)
    have HBD : Hid (∀ W, (W.cell? ⟨T12, 0, none⟩ = some (.int .i64 of) ∧ W.cell? ⟨T12, 1, none⟩ = some (.slice xa LX.length xc) ∧ W.cell? ⟨T12, 2, none⟩ = some (.slice ya LY.length yc) ∧ W.cell? ⟨T14, 0, none⟩ = some (.int .i64 of) ∧ W.cell? ⟨T14, 1, none⟩ = some (.slice za LX.length zc) ∧ W.cell? ⟨T14, 2, none⟩ = some (.slice ta LY.length tc) ∧ W.cell? ⟨c, 0, none⟩ = some (.slice va RX.length vc) ∧ W.cell? ⟨c, 1, none⟩ = some (.bool (!ok)) ∧ RR W rb RX (!ok) ∧ Below V6.heap.size V6 W) → Calls Tryz.prog 21 #[.pointer (some ⟨rb, 0, none⟩)] W fun e w' => e = .returned (.bool (!ok)) ∧ W = w') := Lib.hid (fun W h => bad_rd rb RX (!ok) W h.2.2.2.2.2.2.2.2.1)
    have HLV : Hid (∀ W, (W.cell? ⟨T12, 0, none⟩ = some (.int .i64 of) ∧ W.cell? ⟨T12, 1, none⟩ = some (.slice xa LX.length xc) ∧ W.cell? ⟨T12, 2, none⟩ = some (.slice ya LY.length yc) ∧ W.cell? ⟨T14, 0, none⟩ = some (.int .i64 of) ∧ W.cell? ⟨T14, 1, none⟩ = some (.slice za LX.length zc) ∧ W.cell? ⟨T14, 2, none⟩ = some (.slice ta LY.length tc) ∧ W.cell? ⟨c, 0, none⟩ = some (.slice va RX.length vc) ∧ W.cell? ⟨c, 1, none⟩ = some (.bool (!ok)) ∧ RR W rb RX (!ok) ∧ Below V6.heap.size V6 W) → Calls Tryz.prog 10 #[] W fun e w' => e = .returned (.bool true) ∧ (w'.cell? ⟨T12, 0, none⟩ = some (.int .i64 of) ∧ w'.cell? ⟨T12, 1, none⟩ = some (.slice xa LX.length xc) ∧ w'.cell? ⟨T12, 2, none⟩ = some (.slice ya LY.length yc) ∧ w'.cell? ⟨T14, 0, none⟩ = some (.int .i64 of) ∧ w'.cell? ⟨T14, 1, none⟩ = some (.slice za LX.length zc) ∧ w'.cell? ⟨T14, 2, none⟩ = some (.slice ta LY.length tc) ∧ w'.cell? ⟨c, 0, none⟩ = some (.slice va RX.length vc) ∧ w'.cell? ⟨c, 1, none⟩ = some (.bool (!ok)) ∧ RR w' rb RX (!ok) ∧ Below V6.heap.size V6 w')) := Lib.hid (fun W h => (lives10 W).mono fun e w' ⟨h1, h2⟩ => ⟨h1, HSK.out w' (h.2.2.2.2.2.2.2.2.2.trans (h2.mono h.2.2.2.2.2.2.2.2.2.size))⟩)
    have HSM2 : Hid (∀ W, (W.cell? ⟨T12, 0, none⟩ = some (.int .i64 of) ∧ W.cell? ⟨T12, 1, none⟩ = some (.slice xa LX.length xc) ∧ W.cell? ⟨T12, 2, none⟩ = some (.slice ya LY.length yc) ∧ W.cell? ⟨T14, 0, none⟩ = some (.int .i64 of) ∧ W.cell? ⟨T14, 1, none⟩ = some (.slice za LX.length zc) ∧ W.cell? ⟨T14, 2, none⟩ = some (.slice ta LY.length tc) ∧ W.cell? ⟨c, 0, none⟩ = some (.slice va RX.length vc) ∧ W.cell? ⟨c, 1, none⟩ = some (.bool (!ok)) ∧ RR W rb RX (!ok) ∧ Below V6.heap.size V6 W) → Calls Tryz.prog 12 #[.agg #[.int .i64 of, .slice xa LX.length xc, .slice ya LY.length yc], .agg #[.int .i64 of, .slice za LX.length zc, .slice ta LY.length tc]] W fun e w' => e = .returned (.bool true) ∧ (w'.cell? ⟨T12, 0, none⟩ = some (.int .i64 of) ∧ w'.cell? ⟨T12, 1, none⟩ = some (.slice xa LX.length xc) ∧ w'.cell? ⟨T12, 2, none⟩ = some (.slice ya LY.length yc) ∧ w'.cell? ⟨T14, 0, none⟩ = some (.int .i64 of) ∧ w'.cell? ⟨T14, 1, none⟩ = some (.slice za LX.length zc) ∧ w'.cell? ⟨T14, 2, none⟩ = some (.slice ta LY.length tc) ∧ w'.cell? ⟨c, 0, none⟩ = some (.slice va RX.length vc) ∧ w'.cell? ⟨c, 1, none⟩ = some (.bool (!ok)) ∧ RR w' rb RX (!ok) ∧ Below V6.heap.size V6 w')) := Lib.hid (fun W h => (HSM.out W h.2.2.2.2.2.2.2.2.2).mono fun e w' ⟨h1, h2⟩ => ⟨h1, HSK.out w' (h.2.2.2.2.2.2.2.2.2.trans (h2.mono h.2.2.2.2.2.2.2.2.2.size))⟩)
    go_region_held3 (fun W => W.cell? ⟨T12, 0, none⟩ = some (.int .i64 of) ∧ W.cell? ⟨T12, 1, none⟩ = some (.slice xa LX.length xc) ∧ W.cell? ⟨T12, 2, none⟩ = some (.slice ya LY.length yc) ∧ W.cell? ⟨T14, 0, none⟩ = some (.int .i64 of) ∧ W.cell? ⟨T14, 1, none⟩ = some (.slice za LX.length zc) ∧ W.cell? ⟨T14, 2, none⟩ = some (.slice ta LY.length tc) ∧ W.cell? ⟨c, 0, none⟩ = some (.slice va RX.length vc) ∧ W.cell? ⟨c, 1, none⟩ = some (.bool (!ok)) ∧ RR W rb RX (!ok) ∧ Below V6.heap.size V6 W)
      (first | exact h0 | assumption)
      (first
        | (go_at_call 20; refine (HL.out _ (by assumption)).mono ?_; rintro e w8 ⟨rfl, rfl⟩)
        | (go_at_call 21; refine (HBD.out _ (by assumption)).mono ?_; rintro e w8 ⟨rfl, rfl⟩)
        | (go_at_call 12; refine (HSM2.out _ (by assumption)).mono ?_; rintro e w8 ⟨rfl, hS8⟩)
        | (go_at_call 10; refine (HLV.out _ (by assumption)).mono ?_; rintro e w9 ⟨rfl, hS9⟩))
    all_goals
      obtain ⟨-, -, -, -, -, -, -, -, -, hbe⟩ := hS9
      have HBE := Lib.hid (HB6.out.trans (hbe.mono HB6.out.size))
      clear hbe h0
      go_wp2_with fail
      go_ret
      exact ⟨rfl, HBE.out⟩
end Go.Proofs.YtibjboacjobaoaaGreat

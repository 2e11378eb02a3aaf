/- The law of a calendar's bytes: its walk. -/
import Derived.Test.YtibjboacjobaoaaGreatNbV
import Derived.Test.YtibjboacjobaoaaGreatNbD
import Derived.Test.YtibjboacjobaoaaGreatMgBC
import Derived.Deep.RegionHeld3
import Derived.Deep.RegionWith
import Derived.Deep.QuietTactic
import Derived.Deep.Cut
import Derived.Deep.CutRange
namespace Go.Proofs.YtibjboacjobaoaaGreat
open Go.RowKit
theorem rb_len {w : World} {p : Option Addr} {k cap : Nat} {bs : List Nat} (h : RB w (.slice p k cap) bs) : bs.length = k := by
  obtain ⟨a, c, hv, _, _⟩ := h.shape
  injection hv with _ h2 _
  exact h2.symm
set_option maxRecDepth 100000 in
set_option maxHeartbeats 16000000 in
theorem cbytes_skip (off : Int) (a : Option Addr) (n ca : Nat) (b : Option Addr) (m cb : Nat) (F T G U : Nat → Int) (off' : Int) (a' : Option Addr) (n' ca' : Nat) (b' : Option Addr) (m' cb' : Nat) (F' T' G' U' : Nat → Int) (p : Option Addr) (k cap : Nat) (bs : List Nat) (w : World) (hS : Sps w a n F T) (hR : Sps w b m G U) (hS' : Sps w a' n' F' T') (hR' : Sps w b' m' G' U') (hl : ¬ ((n ≤ 60 ∧ m ≤ 60) ∧ (n' ≤ 60 ∧ m' ≤ 60) ∧ k ≤ 3000)) :
    Calls Tryz.prog 3 #[calV off a n ca b m cb, calV off' a' n' ca' b' m' cb', .slice p k cap] w fun e w' => e = .returned (.bool true) ∧ Below w.heap.size w w' := by
  have hl1 := light10 off a n ca b m cb
  have HL1 := Lib.hid (fun W => light10 off a n ca b m cb W hS.1 hR.1)
  have HL2 := Lib.hid (fun W => light10 off' a' n' ca' b' m' cb' W hS'.1 hR'.1)
  obtain ⟨x1, hx1⟩ : ∃ x, decide (n ≤ 60 ∧ m ≤ 60) = x := ⟨_, rfl⟩
  obtain ⟨x2, hx2⟩ : ∃ x, decide (n' ≤ 60 ∧ m' ≤ 60) = x := ⟨_, rfl⟩
  rw [hx1] at HL1
  rw [hx2] at HL2
  have hx : x1 = true → x2 = true → (3000 : Int) < (k : Int) := by
    intro h1 h2
    subst h1 h2
    have g1 := of_decide_eq_true hx1
    have g2 := of_decide_eq_true hx2
    omega
  have HX := Lib.hid hx
  clear hx
  obtain ⟨B2, s0, s1, sz⟩ := box2 w #[.int .i64 off, .slice a n ca, .slice b m cb] #[.int .i64 off', .slice a' n' ca', .slice b' m' cb'] 24 24
  obtain ⟨q0, q1, q2⟩ := tri_at s0
  obtain ⟨r0, r1, r2⟩ := tri_at s1
  have HB2 := Lib.hid B2
  have hr : ∀ W, Below (w.heap.size + 2) ((w.alloc (.cells #[.int .i64 off, .slice a n ca, .slice b m cb] 24)).alloc (.cells #[.int .i64 off', .slice a' n' ca', .slice b' m' cb'] 24)) W → W.cell? ⟨(w.heap.size + 1), 0, none⟩ = some (.int .i64 off') ∧ W.cell? ⟨(w.heap.size + 1), 1, none⟩ = some (.slice a' n' ca') ∧ W.cell? ⟨(w.heap.size + 1), 2, none⟩ = some (.slice b' m' cb') := fun W h => by
    refine ⟨(h.cell (p := ⟨w.heap.size + 1, 0, none⟩) (by show w.heap.size + 1 < w.heap.size + 2; omega)).trans r0, (h.cell (p := ⟨w.heap.size + 1, 1, none⟩) (by show w.heap.size + 1 < w.heap.size + 2; omega)).trans r1, (h.cell (p := ⟨w.heap.size + 1, 2, none⟩) (by show w.heap.size + 1 < w.heap.size + 2; omega)).trans r2⟩
  rw [show w.heap.size + 2 = ((w.alloc (.cells #[.int .i64 off, .slice a n ca, .slice b m cb] 24)).alloc (.cells #[.int .i64 off', .slice a' n' ca', .slice b' m' cb'] 24)).heap.size by rw [sz]] at hr
  have HRR := Lib.hid hr
  clear hl1 hS hR hS' hR' hx1 hx2 s0 s1 sz B2 hr r0 r1 r2 hl
  unfold calV at *
  go_enter Tryz.func3, Tryz.ntmps3
  go_wp2_with fail
  generalize ((w.alloc (.cells #[.int .i64 off, .slice a n ca, .slice b m cb] 24)).alloc (.cells #[.int .i64 off', .slice a' n' ca', .slice b' m' cb'] 24)) = W0 at q0 q1 q2 HB2 HRR ⊢
  refine (HL1.out W0).mono ?_
  rintro e W1 ⟨rfl, hb1⟩
  have HB3 := Lib.hid (HB2.out.trans (hb1.mono HB2.out.size))
  obtain ⟨r0, r1, r2⟩ := HRR.out _ hb1
  have HLV : Hid (∀ W, Calls Tryz.prog 10 #[] W fun e w' => e = .returned (.bool true) ∧ Below W.heap.size W w') := Lib.hid lives10
  clear hb1 q0 q1 q2 HB2
  cases x1
  · go_wp2_with fail
    refine (HLV.out _).mono ?_
    rintro e W3 ⟨rfl, hb3⟩
    have HB5 := Lib.hid (HB3.out.trans (hb3.mono HB3.out.size))
    clear hb3
    go_wp2_with fail
    go_ret
    exact ⟨rfl, HB5.out⟩
  · go_wp2_with fail
    refine (HL2.out W1).mono ?_
    rintro e W2 ⟨rfl, hb2⟩
    have HB4 := Lib.hid (HB3.out.trans (hb2.mono HB3.out.size))
    clear hb2 HB3
    cases x2
    · go_wp2_with fail
      refine (HLV.out _).mono ?_
      rintro e W3 ⟨rfl, hb3⟩
      have HB5 := Lib.hid (HB4.out.trans (hb3.mono HB4.out.size))
      clear hb3
      go_wp2_with fail
      go_ret
      exact ⟨rfl, HB5.out⟩
    · have hk3 : (3000 : Int) < (k : Int) := by first | exact HX.out rfl rfl | exact HX.out trivial trivial | simpa using HX.out
      go_wp2_with fail
      refine (HLV.out _).mono ?_
      rintro e W3 ⟨rfl, hb3⟩
      have HB5 := Lib.hid (HB4.out.trans (hb3.mono HB4.out.size))
      clear hb3
      go_wp2_with fail
      go_ret
      exact ⟨rfl, HB5.out⟩
set_option maxRecDepth 100000 in
set_option maxHeartbeats 32000000 in
theorem cbytes_no (off : Int) (a : Option Addr) (n ca : Nat) (b : Option Addr) (m cb : Nat) (F T G U : Nat → Int) (off' : Int) (a' : Option Addr) (n' ca' : Nat) (b' : Option Addr) (m' cb' : Nat) (F' T' G' U' : Nat → Int) (p : Option Addr) (k cap : Nat) (bs : List Nat) (w : World) (hS : Sps w a n F T) (hR : Sps w b m G U) (hS' : Sps w a' n' F' T') (hR' : Sps w b' m' G' U') (hrb : RB w (.slice p k cap) bs) (hown : ∀ j, w.heap.size ≤ j → (Value.slice p k cap).ownBlock ≠ some j) (hl : (n ≤ 60 ∧ m ≤ 60) ∧ (n' ≤ 60 ∧ m' ≤ 60) ∧ k ≤ 3000) (ok : Bool) (hok : cOk bs = ok) (hz : checkE off F T n G U m ≠ 0) :
    Calls Tryz.prog 3 #[calV off a n ca b m cb, calV off' a' n' ca' b' m' cb', .slice p k cap] w fun e w' => e = .returned (.bool true) ∧ Below w.heap.size w w' := by
  obtain ⟨hl1, hl2, hl3⟩ := hl
  have hkb : bs.length = k := rb_len hrb
  have HL1 := Lib.hid (fun W => light10 off a n ca b m cb W hS.1 hR.1)
  have HL2 := Lib.hid (fun W => light10 off' a' n' ca' b' m' cb' W hS'.1 hR'.1)
  rw [decide_eq_true hl1] at HL1
  rw [decide_eq_true hl2] at HL2
  have hk3 : ¬ (3000 : Int) < (k : Int) := by omega
  have HSM := Lib.hid (fun W (hb : Below w.heap.size w W) => csame_any off off' a n ca b m cb F T G U a' n' ca' b' m' cb' F' T' G' U' W (hS.kept hb) (hR.kept hb) (hS'.kept hb) (hR'.kept hb))
  have HSN := Lib.hid (fun W (hb : Below w.heap.size w W) => rsame10_any off off' a n ca b m cb F T G U a' n' ca' b' m' cb' F' T' G' U' W (hS.kept hb) (hR.kept hb) (hS'.kept hb) (hR'.kept hb))
  have HSO := Lib.hid (fun W (hb : Below w.heap.size w W) => csame_any off off a n ca b m cb F T G U a n ca b m cb F T G U W (hS.kept hb) (hR.kept hb) (hS.kept hb) (hR.kept hb))
  have HCK := Lib.hid (fun W (hb : Below w.heap.size w W) => rcheck10 off a n ca F T b m cb G U W (hS.kept hb) (hR.kept hb))
  rw [calEq_refl] at HSO
  obtain ⟨sm, hsm⟩ : ∃ x, calEq off off' F T F' T' n n' G U G' U' m m' = x := ⟨_, rfl⟩
  rw [hsm] at HSM HSN
  have HLN : Hid (bs.length ≤ 3000) := Lib.hid (by omega)
  have HRB0 : Hid (∀ W', Below w.heap.size w W' → RB W' (.slice p k cap) bs) := Lib.hid (fun W' h => hrb.kept h)
  have HOWN := Lib.hid hown
  have HOKB := Lib.hid hok
  obtain ⟨B2, s0, s1, sz⟩ := box2 w #[.int .i64 off, .slice a n ca, .slice b m cb] #[.int .i64 off', .slice a' n' ca', .slice b' m' cb'] 24 24
  have HB2 := Lib.hid B2
  have HT0 := Lib.hid s0
  have HT1 := Lib.hid s1
  have hcell : ∀ W, W.heap[w.heap.size]? = some (.cells #[.int .i64 off, .slice a n ca, .slice b m cb] 24 (0, 0)) → W.heap[w.heap.size + 1]? = some (.cells #[.int .i64 off', .slice a' n' ca', .slice b' m' cb'] 24 (0, 0)) → Below w.heap.size w W → ((W.cell? ⟨w.heap.size, 0, none⟩ = some (.int .i64 off) ∧ W.cell? ⟨w.heap.size, 1, none⟩ = some (.slice a n ca) ∧ W.cell? ⟨w.heap.size, 2, none⟩ = some (.slice b m cb)) ∧ (W.cell? ⟨(w.heap.size + 1), 0, none⟩ = some (.int .i64 off') ∧ W.cell? ⟨(w.heap.size + 1), 1, none⟩ = some (.slice a' n' ca') ∧ W.cell? ⟨(w.heap.size + 1), 2, none⟩ = some (.slice b' m' cb')) ∧ Below w.heap.size w W ∧ W.heap[w.heap.size]? = some (.cells #[.int .i64 off, .slice a n ca, .slice b m cb] 24 (0, 0)) ∧ W.heap[w.heap.size + 1]? = some (.cells #[.int .i64 off', .slice a' n' ca', .slice b' m' cb'] 24 (0, 0))) := fun W h0 h1 hb => by
    obtain ⟨c0, c1, c2⟩ := tri_at h0
    obtain ⟨d0, d1, d2⟩ := tri_at h1
    exact ⟨⟨c0, c1, c2⟩, ⟨d0, d1, d2⟩, hb, h0, h1⟩
  have HCELL := Lib.hid hcell
  have HCHK := Lib.hid hz
  clear hS hR hS' hR' hrb hown hok hz hsm s0 s1 sz B2 hcell hl1 hl2 hl3 hkb
  unfold calV at *
  go_enter Tryz.func3, Tryz.ntmps3
  obtain ⟨⟨q0, q1, q2⟩, ⟨r0, r1, r2⟩, -, -, -⟩ := HCELL.out _ HT0.out HT1.out HB2.out
  go_wp2_with fail
  generalize ((w.alloc (.cells #[.int .i64 off, .slice a n ca, .slice b m cb] 24)).alloc (.cells #[.int .i64 off', .slice a' n' ca', .slice b' m' cb'] 24)) = W0 at q0 q1 q2 r0 r1 r2 HB2 HT0 HT1 ⊢
  refine (HL1.out W0).mono ?_
  rintro e W1 ⟨rfl, hb1⟩
  have HB3 := Lib.hid (HB2.out.trans (hb1.mono HB2.out.size))
  have HT3 := Lib.hid (ex_below HT0.out hb1)
  have HU3 := Lib.hid (ex_below HT1.out hb1)
  clear hb1 q0 q1 q2 r0 r1 r2 HB2 HT0 HT1
  obtain ⟨⟨q0, q1, q2⟩, ⟨r0, r1, r2⟩, -, -, -⟩ := HCELL.out _ HT3.out HU3.out HB3.out
  go_wp2_with fail
  refine (HL2.out W1).mono ?_
  rintro e W2 ⟨rfl, hb2⟩
  have HB4 := Lib.hid (HB3.out.trans (hb2.mono HB3.out.size))
  have HT4 := Lib.hid (ex_below HT3.out hb2)
  have HU4 := Lib.hid (ex_below HU3.out hb2)
  clear hb2 q0 q1 q2 r0 r1 r2 HB3 HT3 HU3 HL1 HL2
  go_upto_region 3 with (fail)
  have h0 := HCELL.out W2.drew HT4.out HU4.out HB4.out.drew
  have HSK : Hid (∀ W, Below W2.heap.size W2 W → ((W.cell? ⟨w.heap.size, 0, none⟩ = some (.int .i64 off) ∧ W.cell? ⟨w.heap.size, 1, none⟩ = some (.slice a n ca) ∧ W.cell? ⟨w.heap.size, 2, none⟩ = some (.slice b m cb)) ∧ (W.cell? ⟨(w.heap.size + 1), 0, none⟩ = some (.int .i64 off') ∧ W.cell? ⟨(w.heap.size + 1), 1, none⟩ = some (.slice a' n' ca') ∧ W.cell? ⟨(w.heap.size + 1), 2, none⟩ = some (.slice b' m' cb')) ∧ Below w.heap.size w W ∧ W.heap[w.heap.size]? = some (.cells #[.int .i64 off, .slice a n ca, .slice b m cb] 24 (0, 0)) ∧ W.heap[w.heap.size + 1]? = some (.cells #[.int .i64 off', .slice a' n' ca', .slice b' m' cb'] 24 (0, 0)))) := Lib.hid (fun W h => HCELL.out W (ex_below HT4.out h) (ex_below HU4.out h) (HB4.out.trans (h.mono HB4.out.size)))
  have b0 : Below W2.heap.size W2 W2.drew := (Below.refl _ _).drew
  refine wp_region_held_drew (S := fun w1 => (w1.cell? ⟨w.heap.size, 0, none⟩ = some (.int .i64 off) ∧ w1.cell? ⟨w.heap.size, 1, none⟩ = some (.slice a n ca) ∧ w1.cell? ⟨w.heap.size, 2, none⟩ = some (.slice b m cb)) ∧ (w1.cell? ⟨(w.heap.size + 1), 0, none⟩ = some (.int .i64 off') ∧ w1.cell? ⟨(w.heap.size + 1), 1, none⟩ = some (.slice a' n' ca') ∧ w1.cell? ⟨(w.heap.size + 1), 2, none⟩ = some (.slice b' m' cb')) ∧ Below w.heap.size w w1 ∧ w1.heap[w.heap.size]? = some (.cells #[.int .i64 off, .slice a n ca, .slice b m cb] 24 (0, 0)) ∧ w1.heap[w.heap.size + 1]? = some (.cells #[.int .i64 off', .slice a' n' ca', .slice b' m' cb'] 24 (0, 0))) (by kernel_rfl) h0 (fun hHeld => ?_)
  refine wpAnyH_take (i := 0) (v := ?_) rfl (by kernel_rfl) (by kernel_rfl) (by kernel_rfl) (fun _ _ _ h => h) (Or.inl ⟨by rfl, ?_⟩) (by assumption) ?_
  case refine_2 => (intro w1 hS1; obtain ⟨⟨z0, z1, z2⟩, ⟨y0, y1, y2⟩, -, -, -⟩ := hS1; go_simp; try with_reducible rfl)
  try simp only [List.getElem_toArray, List.getElem_cons_zero, List.getElem_cons_succ, Act.put, List.setIfInBounds_toArray, List.set_cons_zero, List.set_cons_succ]
  refine wpAnyH_take (i := 1) (v := ?_) rfl (by kernel_rfl) (by kernel_rfl) (by kernel_rfl) (fun _ _ _ h => h) (Or.inl ⟨by rfl, ?_⟩) (by assumption) ?_
  case refine_2 => (intro w1 hS1; obtain ⟨⟨z0, z1, z2⟩, ⟨y0, y1, y2⟩, -, -, -⟩ := hS1; go_simp; try with_reducible rfl)
  try simp only [List.getElem_toArray, List.getElem_cons_zero, List.getElem_cons_succ, Act.put, List.setIfInBounds_toArray, List.set_cons_zero, List.set_cons_succ]
  refine wpAnyH_take (i := 3) (v := ?_) rfl (by kernel_rfl) (by kernel_rfl) (by kernel_rfl) (fun _ _ _ h => h) (Or.inl ⟨by rfl, ?_⟩) (by assumption) ?_
  case refine_2 => (intro w1 hS1; obtain ⟨⟨z0, z1, z2⟩, ⟨y0, y1, y2⟩, -, -, -⟩ := hS1; go_simp; try with_reducible rfl)
  try simp only [List.getElem_toArray, List.getElem_cons_zero, List.getElem_cons_succ, Act.put, List.setIfInBounds_toArray, List.set_cons_zero, List.set_cons_succ]
  refine wpAnyH_take (i := 4) (v := ?_) rfl (by kernel_rfl) (by kernel_rfl) (by kernel_rfl) (fun _ _ _ h => h) (Or.inl ⟨by rfl, ?_⟩) (by assumption) ?_
  case refine_2 => (intro w1 hS1; obtain ⟨⟨z0, z1, z2⟩, ⟨y0, y1, y2⟩, -, -, -⟩ := hS1; go_simp; try with_reducible rfl)
  try simp only [List.getElem_toArray, List.getElem_cons_zero, List.getElem_cons_succ, Act.put, List.setIfInBounds_toArray, List.set_cons_zero, List.set_cons_succ]
  refine wpAnyH_ready (rs := [2]) (by kernel_rfl) (by simp) ?_
  refine (AllReadyH.cons rfl (fun K hK => ?_) AllReadyH.nil)
  go_simp
  refine (HSM.out W2.drew h0.2.2.1).mono ?_
  rintro e W3 ⟨rfl, hb3⟩
  have b3 : Below W2.heap.size W2 W3 := b0.trans hb3
  clear hb3
  refine hK.out _ _ (HSK.out _ b3) (fun hHeld => ?_)
  clear hK K hHeld
  try simp only [List.getElem_toArray, List.getElem_cons_zero, List.getElem_cons_succ, Act.put, List.setIfInBounds_toArray, List.set_cons_zero, List.set_cons_succ]
  refine wpAnyH_ready (rs := [5]) (by kernel_rfl) (by simp) ?_
  refine (AllReadyH.cons rfl (fun K hK => ?_) AllReadyH.nil)
  go_simp
  refine (HSN.out W3 (HSK.out _ b3).2.2.1).mono ?_
  rintro e W4 ⟨rfl, hb4⟩
  have b4 : Below W2.heap.size W2 W4 := b3.trans (hb4.mono b3.size)
  clear hb4
  have hbn : (sm != sm) = false := by cases sm <;> rfl
  refine hK.out _ _ (HSK.out _ b4) (fun hHeld => ?_)
  clear hK K hHeld
  try simp only [List.getElem_toArray, List.getElem_cons_zero, List.getElem_cons_succ, Act.put, List.setIfInBounds_toArray, List.set_cons_zero, List.set_cons_succ]
  refine wpAnyH_take (i := 6) (v := ?_) rfl (by kernel_rfl) (by kernel_rfl) (by kernel_rfl) (fun _ _ _ h => h) (Or.inl ⟨by rfl, ?_⟩) (HSK.out _ b4) ?_
  case refine_2 => (intro w1 hS1; obtain ⟨⟨z0, z1, z2⟩, ⟨y0, y1, y2⟩, -, -, -⟩ := hS1; go_simp; try with_reducible rfl)
  try simp only [List.getElem_toArray, List.getElem_cons_zero, List.getElem_cons_succ, Act.put, List.setIfInBounds_toArray, List.set_cons_zero, List.set_cons_succ]
  refine wpAnyH_take (i := 7) (v := ?_) rfl (by kernel_rfl) (by kernel_rfl) (by kernel_rfl) (fun _ _ _ h => h) (Or.inl ⟨by rfl, ?_⟩) (HSK.out _ b4) ?_
  case refine_2 => (intro w1 hS1; obtain ⟨⟨z0, z1, z2⟩, ⟨y0, y1, y2⟩, -, -, -⟩ := hS1; go_simp; try with_reducible rfl)
  try simp only [List.getElem_toArray, List.getElem_cons_zero, List.getElem_cons_succ, Act.put, List.setIfInBounds_toArray, List.set_cons_zero, List.set_cons_succ]
  refine wpAnyH_take (i := 8) (v := ?_) rfl (by kernel_rfl) (by kernel_rfl) (by kernel_rfl) (fun _ _ _ h => h) (Or.inl ⟨by rfl, ?_⟩) (HSK.out _ b4) ?_
  case refine_2 => (intro w1 hS1; obtain ⟨⟨z0, z1, z2⟩, ⟨y0, y1, y2⟩, -, -, -⟩ := hS1; go_simp; try with_reducible rfl)
  try simp only [List.getElem_toArray, List.getElem_cons_zero, List.getElem_cons_succ, Act.put, List.setIfInBounds_toArray, List.set_cons_zero, List.set_cons_succ]
  refine wpAnyH_take (i := 9) (v := ?_) rfl (by kernel_rfl) (by kernel_rfl) (by kernel_rfl) (fun _ _ _ h => h) (Or.inl ⟨by rfl, ?_⟩) (HSK.out _ b4) ?_
  case refine_2 => (intro w1 hS1; obtain ⟨⟨z0, z1, z2⟩, ⟨y0, y1, y2⟩, -, -, -⟩ := hS1; go_simp; try with_reducible rfl)
  try simp only [List.getElem_toArray, List.getElem_cons_zero, List.getElem_cons_succ, Act.put, List.setIfInBounds_toArray, List.set_cons_zero, List.set_cons_succ]
  refine wpAnyH_ready (rs := [10]) (by kernel_rfl) (by simp) ?_
  refine (AllReadyH.cons rfl (fun K hK => ?_) AllReadyH.nil)
  go_simp
  refine (HSO.out W4 (HSK.out _ b4).2.2.1).mono ?_
  rintro e W5 ⟨rfl, hb5⟩
  have b5 : Below W2.heap.size W2 W5 := b4.trans (hb5.mono b4.size)
  clear hb5
  refine hK.out _ _ (HSK.out _ b5) (fun hHeld => ?_)
  clear hK K hHeld
  try simp only [List.getElem_toArray, List.getElem_cons_zero, List.getElem_cons_succ, Act.put, List.setIfInBounds_toArray, List.set_cons_zero, List.set_cons_succ]
  refine wpAnyH_take (i := 11) (v := ?_) rfl (by kernel_rfl) (by kernel_rfl) (by kernel_rfl) (fun _ _ _ h => h) (Or.inl ⟨by rfl, ?_⟩) (HSK.out _ b5) ?_
  case refine_2 => (intro w1 hS1; obtain ⟨⟨z0, z1, z2⟩, ⟨y0, y1, y2⟩, -, -, -⟩ := hS1; go_simp; try with_reducible rfl)
  try simp only [List.getElem_toArray, List.getElem_cons_zero, List.getElem_cons_succ, Act.put, List.setIfInBounds_toArray, List.set_cons_zero, List.set_cons_succ]
  refine wpAnyH_take (i := 12) (v := ?_) rfl (by kernel_rfl) (by kernel_rfl) (by kernel_rfl) (fun _ _ _ h => h) (Or.inl ⟨by rfl, ?_⟩) (HSK.out _ b5) ?_
  case refine_2 => (intro w1 hS1; obtain ⟨⟨z0, z1, z2⟩, ⟨y0, y1, y2⟩, -, -, -⟩ := hS1; go_simp; try with_reducible rfl)
  try simp only [List.getElem_toArray, List.getElem_cons_zero, List.getElem_cons_succ, Act.put, List.setIfInBounds_toArray, List.set_cons_zero, List.set_cons_succ]
  refine wpAnyH_done (by kernel_rfl) ?_ _
  have HB5 := Lib.hid (HSK.out _ b5).2.2.1
  have HT5 := Lib.hid (HSK.out _ b5).2.2.2.1
  have HU5 := Lib.hid (HSK.out _ b5).2.2.2.2
  clear h0 b0 b3 b4 b5 HB4 HT4 HU4 HSK HSM HSN HSO
  obtain ⟨⟨q0, q1, q2⟩, ⟨r0, r1, r2⟩, -, -, -⟩ := HCELL.out _ HT5.out HU5.out HB5.out
  clear r0 r1 r2
  go_wp2_with fail
  refine (HCK.out _ HB5.out).mono ?_
  rintro e X0 ⟨rfl, hb6⟩
  have HB6 := Lib.hid (HB5.out.trans (hb6.mono HB5.out.size))
  have HT6 := Lib.hid (ex_below HT5.out hb6)
  clear hb6 q0 q1 q2 HB5 HT5 HU5 HCK HCELL
  have hz0 := HCHK.out
  have hzb : (checkE off F T n G U m == 0) = false := by simp [hz0]
  go_wp2_with fail
  have HB := HB6
  refine (open_any (.slice p k cap) bs _ (HRB0.out _ HB.out) (by have := HLN.out; omega)).mono ?_
  rintro e V1 ⟨rb, rfl, hle, hrr, hb1⟩
  have HB1 := Lib.hid (HB.out.trans (hb1.mono HB.out.size))
  have HRR1 := Lib.hid hrr
  have HRL : Hid (rb < V1.heap.size ∧ w.heap.size ≤ rb) := Lib.hid ⟨hrr.lt, Nat.le_trans HB.out.size hle⟩
  clear hle hrr hb1
  go_wp2_with fail
  obtain ⟨bx, bn, bz⟩ := box1 V1 #[.slice p k cap, .bool false] 42
  have HB2 := Lib.hid (HB1.out.trans (bx.mono HB1.out.size))
  have HRR2 := Lib.hid (HRR1.out.kept bx)
  obtain ⟨c, hce⟩ : ∃ c, V1.heap.size = c := ⟨_, rfl⟩
  have HNE : Hid (rb < c ∧ c < (V1.alloc (.cells #[.slice p k cap, .bool false] 42)).heap.size ∧ w.heap.size ≤ c ∧ w.heap.size ≤ rb) := Lib.hid ⟨by have := HRL.out.1; omega, by rw [bz]; omega, by rw [← hce]; exact HB1.out.size, HRL.out.2⟩
  have HRF2 : Hid (RF (V1.alloc (.cells #[.slice p k cap, .bool false] 42)) c bs false) := Lib.hid ⟨.slice p k cap, by rw [← hce]; exact bn, HRB0.out _ HB2.out, fun j hj => by
    have h1 := HNE.out.2.2.1
    apply Nat.lt_of_not_le
    intro hcj
    exact HOWN.out j (Nat.le_trans h1 hcj) hj, fun h => by cases h⟩
  clear bx bn bz HRR1 HB1 HRL
  try rw [hce]
  generalize V1.alloc (.cells #[.slice p k cap, .bool false] 42) = V2 at HB2 HRR2 HRF2 HNE ⊢
  clear hce
  refine (cal_rd rb bs false V2 HRR2.out ok HOKB.out).mono ?_
  rintro e V3 ⟨v, rfl, ⟨v1, v2, rfl, ho1, ho2⟩, hr3, ht3⟩
  have HB3 := Lib.hid (ht3.outside HB2.out HB2.out.size HNE.out.2.2.2)
  have HRR3 := Lib.hid hr3
  have HRF3 := Lib.hid (HRF2.out.besides HRR2.out ht3 (fun h => by have := HNE.out.1; omega))
  have HCL : Hid (c < V3.heap.size) := Lib.hid (Nat.lt_of_lt_of_le HNE.out.2.1 ht3.size)
  have HPO1 := Lib.hid ho1
  have HPO2 := Lib.hid ho2
  have HV2 : Hid (c < V2.heap.size) := Lib.hid HNE.out.2.1
  obtain ⟨xa, xc, rfl, _, _⟩ := ho1.shape
  obtain ⟨ya, yc, rfl, _, _⟩ := ho2.shape
  obtain ⟨LX, hLX⟩ : ∃ x, (if ok = true then cW bs else []) = x := ⟨_, rfl⟩
  obtain ⟨LY, hLY⟩ : ∃ x, (if ok = true then cC bs else []) = x := ⟨_, rfl⟩
  obtain ⟨of, hof⟩ : ∃ x : Int, (if ok = true then cOff bs else 0) = x := ⟨_, rfl⟩
  obtain ⟨RX, hRX⟩ : ∃ x, (if ok = true then cR bs else []) = x := ⟨_, rfl⟩
  have HBX : Hid ((∀ s ∈ LX, -9223372036854775808 ≤ s.1 ∧ s.1 ≤ 9223372036854775807 ∧ -9223372036854775808 ≤ s.2 ∧ s.2 ≤ 9223372036854775807) ∧ (∀ s ∈ LY, -9223372036854775808 ≤ s.1 ∧ s.1 ≤ 9223372036854775807 ∧ -9223372036854775808 ≤ s.2 ∧ s.2 ≤ 9223372036854775807)) := Lib.hid ⟨fun s hs => by rw [← hLX] at hs; split at hs <;> first | exact cW_bd bs s hs | simp at hs, fun s hs => by rw [← hLY] at hs; split at hs <;> first | exact cC_bd bs s hs | simp at hs⟩
  have HRD2 : Hid (∀ V, RF V c bs false → Calls Tryz.prog 19 #[.pointer (some ⟨c, 0, none⟩)] V fun e w' => ∃ u1 u2, e = .returned (.tuple #[.agg #[.int .i64 of, u1, u2], .bool ok]) ∧ OS w' V.heap.size u1 LX ∧ OS w' V.heap.size u2 LY ∧ RF w' c RX (!ok) ∧ Rd c V w') := Lib.hid (fun V h => by
    have hh := cal_rf c bs false V h ok HOKB.out
    unfold CalV at hh
    rw [hLX, hLY, hof, hRX] at hh
    exact hh.mono fun e w' ⟨v, h1, ⟨u1, u2, h2, h3, h4⟩, h5, h6⟩ => ⟨u1, u2, by rw [h1, h2], h3, h4, h5, h6⟩)
  rw [hLX] at HPO1 ⊢
  rw [hLY] at HPO2 ⊢
  rw [hof]
  rw [hRX] at HRR3
  clear hLX hLY hof hRX hr3 ht3 HRR2 HRF2 HB2 ho1 ho2
  go_wp2_with fail
  obtain ⟨bx, bn, bz⟩ := box1 V3 #[.int .i64 of, .slice xa LX.length xc, .slice ya LY.length yc] 24
  have HB4 := Lib.hid (HB3.out.trans (bx.mono HB3.out.size))
  have HRR4 := Lib.hid (HRR3.out.kept bx)
  have HRF4 := Lib.hid (HRF3.out.kept bx)
  have HPP1 := Lib.hid (HPO1.out.kept bx)
  have HPP2 := Lib.hid (HPO2.out.kept bx)
  obtain ⟨T12, hTe⟩ : ∃ c, V3.heap.size = c := ⟨_, rfl⟩
  rw [hTe] at bn
  have HT12 := Lib.hid bn
  have HTC : Hid (T12 ≠ c) := Lib.hid (by have := HCL.out; omega)
  clear bx bn bz HRR3 HRF3 HB3 HPO1 HPO2
  try rw [hTe]
  generalize V3.alloc (.cells #[.int .i64 of, .slice xa LX.length xc, .slice ya LY.length yc] 24) = V4 at HB4 HRR4 HRF4 HT12 HPP1 HPP2 ⊢
  clear hTe HCL
  refine (HRD2.out V4 HRF4.out).mono ?_
  rintro e V5 ⟨u1, u2, rfl, hu1, hu2, hr5, ht5⟩
  have HB5 := Lib.hid (ht5.outside HB4.out HB4.out.size HNE.out.2.2.1)
  have HRF5 := Lib.hid hr5
  have HRR5 := Lib.hid (HRR4.out.besides HRF4.out ht5 (by have := HNE.out.1; omega))
  have HT13 := Lib.hid (ht5.keep HT12.out HTC.out)
  have HPR1 := Lib.hid (HPP1.out.rd ht5 HV2.out)
  have HPR2 := Lib.hid (HPP2.out.rd ht5 HV2.out)
  obtain ⟨za, zc, rfl, _, _⟩ := hu1.shape
  obtain ⟨ta, tc, rfl, _, _⟩ := hu2.shape
  have HU1 := Lib.hid hu1
  have HU2 := Lib.hid hu2
  clear hr5 ht5 hu1 hu2 HRR4 HRF4 HB4 HT12 HPP1 HPP2
  go_wp2_with fail
  obtain ⟨bx, bn, bz⟩ := box1 V5 #[.int .i64 of, .slice za LX.length zc, .slice ta LY.length tc] 24
  have HB6 := Lib.hid (HB5.out.trans (bx.mono HB5.out.size))
  obtain ⟨T14, hTe⟩ : ∃ c, V5.heap.size = c := ⟨_, rfl⟩
  rw [hTe] at bn
  obtain ⟨v, h1, h2, -, -⟩ := HRF5.out.kept bx
  obtain ⟨va, vc, rfl⟩ := h2.shapeN' (rfl : RX.length = RX.length)
  obtain ⟨a0, a1, a2⟩ := tri_at (ex_below HT13.out bx)
  obtain ⟨b0, b1, b2⟩ := tri_at bn
  have hrr := HRR5.out.kept bx
  obtain ⟨c0, c1, -, -⟩ := two_cells h1
  have hs1 := ((HPR1.out.kept bx).sps HBX.out.1).2
  have hs2 := ((HPR2.out.kept bx).sps HBX.out.2).2
  have hs3 := ((HU1.out.kept bx).sps HBX.out.1).2
  have hs4 := ((HU2.out.kept bx).sps HBX.out.2).2
  try rw [hTe]
  clear h1 h2 bx bn bz HRR5 HRF5 HB5 HT13 HPR1 HPR2 HU1 HU2 HRD2 HBX
  generalize V5.alloc (.cells #[.int .i64 of, .slice za LX.length zc, .slice ta LY.length tc] 24) = V6 at HB6 hrr c0 c1 a0 b0 a1 b1 a2 b2 hs1 hs2 hs3 hs4 ⊢
  have HSM : Hid (∀ W, Below V6.heap.size V6 W → Calls Tryz.prog 12 #[.agg #[.int .i64 of, .slice xa LX.length xc, .slice ya LY.length yc], .agg #[.int .i64 of, .slice za LX.length zc, .slice ta LY.length tc]] W fun e w' => e = .returned (.bool true) ∧ Below W.heap.size W w') := Lib.hid (fun W hb => by
    have := rsame10_any of of xa LX.length xc ya LY.length yc (fr LX) (til LX) (fr LY) (til LY) za LX.length zc ta LY.length tc (fr LX) (til LX) (fr LY) (til LY) W (hs1.kept hb) (hs2.kept hb) (hs3.kept hb) (hs4.kept hb)
    rw [calEq_refl] at this
    exact this)
  have HSK : Hid (∀ W, Below V6.heap.size V6 W → (W.cell? ⟨T12, 0, none⟩ = some (.int .i64 of) ∧ W.cell? ⟨T12, 1, none⟩ = some (.slice xa LX.length xc) ∧ W.cell? ⟨T12, 2, none⟩ = some (.slice ya LY.length yc) ∧ W.cell? ⟨T14, 0, none⟩ = some (.int .i64 of) ∧ W.cell? ⟨T14, 1, none⟩ = some (.slice za LX.length zc) ∧ W.cell? ⟨T14, 2, none⟩ = some (.slice ta LY.length tc) ∧ W.cell? ⟨c, 0, none⟩ = some (.slice va RX.length vc) ∧ W.cell? ⟨c, 1, none⟩ = some (.bool (!ok)) ∧ RR W rb RX (!ok) ∧ Below V6.heap.size V6 W)) := Lib.hid (fun W hb => by
    have kk : ∀ {q : Addr} {v : Value}, V6.cell? q = some v → W.cell? q = some v := fun {q} {v} e => (hb.cell (p := q) (cell_spot e).2).trans e
    exact ⟨kk a0, kk a1, kk a2, kk b0, kk b1, kk b2, kk c0, kk c1, hrr.kept hb, hb⟩)
  have h0 := HSK.out V6.drew (Below.refl _ _).drew
  clear hTe hrr c0 c1 a0 b0 a1 b1 a2 b2 hs1 hs2 hs3 hs4
  have HL : Hid (∀ W, (W.cell? ⟨T12, 0, none⟩ = some (.int .i64 of) ∧ W.cell? ⟨T12, 1, none⟩ = some (.slice xa LX.length xc) ∧ W.cell? ⟨T12, 2, none⟩ = some (.slice ya LY.length yc) ∧ W.cell? ⟨T14, 0, none⟩ = some (.int .i64 of) ∧ W.cell? ⟨T14, 1, none⟩ = some (.slice za LX.length zc) ∧ W.cell? ⟨T14, 2, none⟩ = some (.slice ta LY.length tc) ∧ W.cell? ⟨c, 0, none⟩ = some (.slice va RX.length vc) ∧ W.cell? ⟨c, 1, none⟩ = some (.bool (!ok)) ∧ RR W rb RX (!ok) ∧ Below V6.heap.size V6 W) → Calls Tryz.prog 20 #[.pointer (some ⟨rb, 0, none⟩)] W fun e w' => e = .returned (.int .i64 (RX.length : Int)) ∧ W = w') := Lib.hid (fun W h => left_rd rb RX (!ok) W h.2.2.2.2.2.2.2.2.1)
  have HBD : Hid (∀ W, (W.cell? ⟨T12, 0, none⟩ = some (.int .i64 of) ∧ W.cell? ⟨T12, 1, none⟩ = some (.slice xa LX.length xc) ∧ W.cell? ⟨T12, 2, none⟩ = some (.slice ya LY.length yc) ∧ W.cell? ⟨T14, 0, none⟩ = some (.int .i64 of) ∧ W.cell? ⟨T14, 1, none⟩ = some (.slice za LX.length zc) ∧ W.cell? ⟨T14, 2, none⟩ = some (.slice ta LY.length tc) ∧ W.cell? ⟨c, 0, none⟩ = some (.slice va RX.length vc) ∧ W.cell? ⟨c, 1, none⟩ = some (.bool (!ok)) ∧ RR W rb RX (!ok) ∧ Below V6.heap.size V6 W) → Calls Tryz.prog 21 #[.pointer (some ⟨rb, 0, none⟩)] W fun e w' => e = .returned (.bool (!ok)) ∧ W = w') := Lib.hid (fun W h => bad_rd rb RX (!ok) W h.2.2.2.2.2.2.2.2.1)
  have HLV : Hid (∀ W, (W.cell? ⟨T12, 0, none⟩ = some (.int .i64 of) ∧ W.cell? ⟨T12, 1, none⟩ = some (.slice xa LX.length xc) ∧ W.cell? ⟨T12, 2, none⟩ = some (.slice ya LY.length yc) ∧ W.cell? ⟨T14, 0, none⟩ = some (.int .i64 of) ∧ W.cell? ⟨T14, 1, none⟩ = some (.slice za LX.length zc) ∧ W.cell? ⟨T14, 2, none⟩ = some (.slice ta LY.length tc) ∧ W.cell? ⟨c, 0, none⟩ = some (.slice va RX.length vc) ∧ W.cell? ⟨c, 1, none⟩ = some (.bool (!ok)) ∧ RR W rb RX (!ok) ∧ Below V6.heap.size V6 W) → Calls Tryz.prog 10 #[] W fun e w' => e = .returned (.bool true) ∧ (w'.cell? ⟨T12, 0, none⟩ = some (.int .i64 of) ∧ w'.cell? ⟨T12, 1, none⟩ = some (.slice xa LX.length xc) ∧ w'.cell? ⟨T12, 2, none⟩ = some (.slice ya LY.length yc) ∧ w'.cell? ⟨T14, 0, none⟩ = some (.int .i64 of) ∧ w'.cell? ⟨T14, 1, none⟩ = some (.slice za LX.length zc) ∧ w'.cell? ⟨T14, 2, none⟩ = some (.slice ta LY.length tc) ∧ w'.cell? ⟨c, 0, none⟩ = some (.slice va RX.length vc) ∧ w'.cell? ⟨c, 1, none⟩ = some (.bool (!ok)) ∧ RR w' rb RX (!ok) ∧ Below V6.heap.size V6 w')) := Lib.hid (fun W h => (lives10 W).mono fun e w' ⟨h1, h2⟩ => ⟨h1, HSK.out w' (h.2.2.2.2.2.2.2.2.2.trans (h2.mono h.2.2.2.2.2.2.2.2.2.size))⟩)
  have HSM2 : Hid (∀ W, (W.cell? ⟨T12, 0, none⟩ = some (.int .i64 of) ∧ W.cell? ⟨T12, 1, none⟩ = some (.slice xa LX.length xc) ∧ W.cell? ⟨T12, 2, none⟩ = some (.slice ya LY.length yc) ∧ W.cell? ⟨T14, 0, none⟩ = some (.int .i64 of) ∧ W.cell? ⟨T14, 1, none⟩ = some (.slice za LX.length zc) ∧ W.cell? ⟨T14, 2, none⟩ = some (.slice ta LY.length tc) ∧ W.cell? ⟨c, 0, none⟩ = some (.slice va RX.length vc) ∧ W.cell? ⟨c, 1, none⟩ = some (.bool (!ok)) ∧ RR W rb RX (!ok) ∧ Below V6.heap.size V6 W) → Calls Tryz.prog 12 #[.agg #[.int .i64 of, .slice xa LX.length xc, .slice ya LY.length yc], .agg #[.int .i64 of, .slice za LX.length zc, .slice ta LY.length tc]] W fun e w' => e = .returned (.bool true) ∧ (w'.cell? ⟨T12, 0, none⟩ = some (.int .i64 of) ∧ w'.cell? ⟨T12, 1, none⟩ = some (.slice xa LX.length xc) ∧ w'.cell? ⟨T12, 2, none⟩ = some (.slice ya LY.length yc) ∧ w'.cell? ⟨T14, 0, none⟩ = some (.int .i64 of) ∧ w'.cell? ⟨T14, 1, none⟩ = some (.slice za LX.length zc) ∧ w'.cell? ⟨T14, 2, none⟩ = some (.slice ta LY.length tc) ∧ w'.cell? ⟨c, 0, none⟩ = some (.slice va RX.length vc) ∧ w'.cell? ⟨c, 1, none⟩ = some (.bool (!ok)) ∧ RR w' rb RX (!ok) ∧ Below V6.heap.size V6 w')) := Lib.hid (fun W h => (HSM.out W h.2.2.2.2.2.2.2.2.2).mono fun e w' ⟨h1, h2⟩ => ⟨h1, HSK.out w' (h.2.2.2.2.2.2.2.2.2.trans (h2.mono h.2.2.2.2.2.2.2.2.2.size))⟩)
  go_region_held3 (fun W => W.cell? ⟨T12, 0, none⟩ = some (.int .i64 of) ∧ W.cell? ⟨T12, 1, none⟩ = some (.slice xa LX.length xc) ∧ W.cell? ⟨T12, 2, none⟩ = some (.slice ya LY.length yc) ∧ W.cell? ⟨T14, 0, none⟩ = some (.int .i64 of) ∧ W.cell? ⟨T14, 1, none⟩ = some (.slice za LX.length zc) ∧ W.cell? ⟨T14, 2, none⟩ = some (.slice ta LY.length tc) ∧ W.cell? ⟨c, 0, none⟩ = some (.slice va RX.length vc) ∧ W.cell? ⟨c, 1, none⟩ = some (.bool (!ok)) ∧ RR W rb RX (!ok) ∧ Below V6.heap.size V6 W)
    (first | exact h0 | assumption)
    (first
      | (go_at_call 20; refine (HL.out _ (by assumption)).mono ?_; rintro e w8 ⟨rfl, rfl⟩)
      | (go_at_call 21; refine (HBD.out _ (by assumption)).mono ?_; rintro e w8 ⟨rfl, rfl⟩)
      | (go_at_call 12; refine (HSM2.out _ (by assumption)).mono ?_; rintro e w8 ⟨rfl, hS8⟩)
      | (go_at_call 10; refine (HLV.out _ (by assumption)).mono ?_; rintro e w9 ⟨rfl, hS9⟩))
  all_goals
    obtain ⟨-, -, -, -, -, -, -, -, -, hbe⟩ := hS9
    have HBE := Lib.hid (HB6.out.trans (hbe.mono HB6.out.size))
    clear hbe h0
    go_wp2_with fail
    go_ret
    exact ⟨rfl, HBE.out⟩
end Go.Proofs.YtibjboacjobaoaaGreat

import Derived.Test.YtibjboacjobaoaaGreatMgAY
import Derived.Deep.RegionHeld3
import Derived.Test.YtibjboacjobaoaaGreatMgBA
import Derived.Test.YtibjboacjobaoaaGreatMgAN
import Derived.Lib.SmallJoins
import Derived.WideShapes
namespace Go.Proofs.YtibjboacjobaoaaGreat
open Go.RowKit
/- The clock's Open. -/
open Go.RowKit

def Cal.openA (D : Cal) (t : Int) : Bool := decide (0 ≤ t) && (decide (t < 1125899906842624) && D.opB t)
/- The example of layer 10. -/
open Go.RowKit

/-- What is due is one thing. -/
theorem Cal.due_is {D : Cal} {s b v e d : Int} (h : D.Dues s b v e) (s0 : 0 ≤ s) (hb : 0 < b) (hsd : s < d) (hd : d ≤ 1125899906842624) (hg : D.g d = D.g s + b) (ho : D.opB (d - 1) = true) (ht : tsum D.F D.T D.n ≠ 0) : v = d ∧ e = 0 := by
  have h1 := D.g_step (d - 1) (by omega)
  rw [ho, show d - 1 + 1 = d by omega] at h1
  simp only [if_true] at h1
  rcases h with ⟨h, _, _⟩ | ⟨_, _, h, _⟩ | ⟨_, _, _, h, _⟩ | ⟨_, _, _, _, h⟩
  · omega
  · omega
  · exact absurd h ht
  · rcases h with ⟨_, _, h⟩ | ⟨h2, h3, h4, h5, h6⟩
    · have := D.g_mono (a := d) (b := 1125899906842624) (by omega) hd
      omega
    · refine ⟨?_, h2⟩
      have h7 := D.g_step (v - 1) (by omega)
      rw [h4, show v - 1 + 1 = v by omega] at h7
      simp only [if_true] at h7
      rcases Int.lt_trichotomy v d with hc | hc | hc
      · have := D.g_mono (a := v) (b := d - 1) (by omega) (by omega)
        omega
      · exact hc
      · have := D.g_mono (a := d) (b := v - 1) (by omega) (by omega)
        omega
def ex10 : Cal := ⟨fr [(10, 20)], til [(10, 20)], 1, fun _ => 0, fun _ => 0, 0, 0⟩
theorem ex10_ok : ex10.ok := ⟨wk_ex, by decide, by decide, by decide, by decide⟩
theorem ex10_g {a b : Int} (h0 : 0 ≤ a) (hab : a ≤ b) (h1 : b ≤ 1125899906842624) : ex10.g b = ex10.g a + (ex10.V b - ex10.V a) := by
  have := ex10.g_free ex10_ok h0 hab h1 (fun t _ _ => by
    cases hh : hasB ex10.G ex10.U t ex10.m with
    | false => rfl
    | true =>
      obtain ⟨j, hj, _⟩ := (hasB_iff ex10.m).1 hh
      exact absurd hj (Nat.not_lt_zero _))
  omega
theorem ex10_one {v e : Int} (h : ex10.Dues 0 5 v e) : v = 15 ∧ e = 0 := by
  refine ex10.due_is h (by decide) (by decide) (d := 15) (by decide) (by decide) ?_ (by decide +kernel) (by decide)
  rw [ex10_g (a := 0) (b := 15) (by decide) (by decide) (by decide)]
  have : ex10.V 15 - ex10.V 0 = 5 := by decide +kernel
  omega
theorem ex10_two {v e : Int} (h : ex10.Dues 15 6 v e) : v = 604811 ∧ e = 0 := by
  refine ex10.due_is h (by decide) (by decide) (d := 604811) (by decide) (by decide) ?_ (by decide +kernel) (by decide)
  rw [ex10_g (a := 15) (b := 604811) (by decide) (by decide) (by decide)]
  have : ex10.V 604811 - ex10.V 15 = 6 := by decide +kernel
  omega

set_option maxRecDepth 100000 in
set_option maxHeartbeats 4000000 in
theorem lives10 (w : World) : Calls Tryz.prog 10 #[] w fun e w' => e = .returned (.bool true) ∧ Below w.heap.size w w' := by
  have B0 : Below w.heap.size w (w.alloc (.cells #[.int .i64 10, .int .i64 20] 101)) := (Below.refl _ _).alloc (Nat.le_refl _) _
  have hnew : Calls Tryz.prog 46 #[.agg #[.int .i64 0, .slice (some ⟨w.heap.size, 0, none⟩) 1 1, .slice none 0 0]] (w.alloc (.cells #[.int .i64 10, .int .i64 20] 101)) (Clocked ex10 _) :=
    clock_ok ex10 (some ⟨w.heap.size, 0, none⟩) 1 none 0 _ ex10_ok (lit_one w 10 20 (by omega)) ⟨by decide, fun h => absurd h (Nat.not_lt_zero _)⟩
  have HB0 := Lib.hid B0
  clear B0
  go_enter Tryz.func10, Tryz.ntmps10
  go_wp2_with fail
  refine hnew.mono ?_
  rintro e w1 ⟨L, rfl, hC, hle, hb1⟩
  have HB1 := Lib.hid (HB0.out.trans (hb1.mono HB0.out.size))
  have HL := Lib.hid (Nat.le_trans HB0.out.size hle)
  have hdu := due_any hC ex10_ok 0 5 (by omega)
  clear hnew hC hle hb1
  go_wp2_with fail
  refine hdu.mono ?_
  rintro e w2 ⟨v, er, rfl, hv, hC, ho⟩
  obtain ⟨rfl, rfl⟩ := ex10_one hv
  have HB2 := Lib.hid (HB1.out.trans (ho.toBelow HB1.out.size (fun k hk => hk ▸ HL.out)))
  have hdu2 := due_any hC ex10_ok 15 6 (by omega)
  clear hdu hv hC ho
  go_wp2_with fail
  refine hdu2.mono ?_
  rintro e w3 ⟨v, er, rfl, hv, hC, ho⟩
  obtain ⟨rfl, rfl⟩ := ex10_two hv
  have HB3 := Lib.hid (HB2.out.trans (ho.toBelow HB2.out.size (fun k hk => hk ▸ HL.out)))
  clear hdu2 hv hC ho
  go_wp2_with fail
  go_ret
  exact ⟨rfl, HB3.out⟩
/- How a calendar of the law reads. -/
open Go.RowKit
set_option maxRecDepth 100000 in
theorem slice_form {H : Type} {enc : TypeId × Value → H} {w : World} {base : Nat} {sp : Nat → Bool} {held : Bool} {fuel : Nat} {v : Value} {x : DataW H × List MemPlace}
    (h : DataW.trod enc Tryz.prog w base sp held fuel 22 [v] = some x) : ∃ a n c, v = .slice a n c := by
  rcases Deep.open_slice Tryz.underlying22 h with ⟨hcs, _⟩ | ⟨x, l, c, m, nn, D, Pl, hcs, _⟩
  · simp only [List.cons.injEq, and_true] at hcs
    exact ⟨_, _, _, hcs⟩
  · simp only [List.cons.injEq, and_true] at hcs
    exact ⟨_, _, _, hcs⟩
set_option maxRecDepth 100000 in
theorem cal_in {H : Type} {enc : TypeId × Value → H} {w : World} {base b0 : Nat} {r : Reach} {sp : Nat → Bool} {held : Bool} {v : Value} {d : DataW H} {p : List MemPlace}
    (hv : Value.okWide Tryz.prog w r b0 24 v) (h : DataW.Trod enc Tryz.prog w base sp held 24 v d p) :
    ∃ off a n ca b m cb F T G U, v = calV off a n ca b m cb ∧ Sps w a n F T ∧ Sps w b m G U ∧ -9223372036854775808 ≤ off ∧ off ≤ 9223372036854775807 := by
  obtain ⟨v0, v1, v2, y0, y1, y2, k, rfl, _, _, h0, h1, h2⟩ := Joins.open_agg3 Tryz.underlying24 (by kernel_rfl) (by kernel_rfl) hv h
  obtain ⟨off, e0, _, w0⟩ := DataW.trod_int Tryz.underlying2 h0
  simp only [List.cons.injEq, and_true] at e0
  subst e0
  obtain ⟨a, n, ca, rfl⟩ := slice_form h1
  obtain ⟨b, m, cb, rfl⟩ := slice_form h2
  obtain ⟨F, T, hS⟩ := spans_in h1
  obtain ⟨G, U, hR⟩ := spans_in h2
  obtain ⟨l1, l2⟩ := bounds_i64 w0
  exact ⟨off, a, n, ca, b, m, cb, F, T, G, U, rfl, hS, hR, l1, l2⟩

set_option maxRecDepth 100000 in
set_option maxHeartbeats 4000000 in
/-- What the law looks at. -/
theorem light10 (off : Int) (a : Option Addr) (n ca : Nat) (b : Option Addr) (m cb : Nat) (w : World) (hn : n ≤ maxLen) (hm : m ≤ maxLen) :
    Calls Tryz.prog 9 #[calV off a n ca b m cb] w fun e w' => e = .returned (.bool (decide (n ≤ 60 ∧ m ≤ 60))) ∧ Below w.heap.size w w' := by
  have B1 : Below w.heap.size w (w.alloc (.cells #[.int .i64 off, .slice a n ca, .slice b m cb] 24)) := (Below.refl _ _).alloc (Nat.le_refl _) _
  have c1 : (w.alloc (.cells #[.int .i64 off, .slice a n ca, .slice b m cb] 24)).cell? ⟨w.heap.size, 1, none⟩ = some (.slice a n ca) := by simp
  have c2 : (w.alloc (.cells #[.int .i64 off, .slice a n ca, .slice b m cb] 24)).cell? ⟨w.heap.size, 2, none⟩ = some (.slice b m cb) := by simp
  obtain ⟨b1, d1⟩ : ∃ c, decide ((n : Int) ≤ 60) = c := ⟨_, rfl⟩
  obtain ⟨b2, d2⟩ : ∃ c, decide ((m : Int) ≤ 60) = c := ⟨_, rfl⟩
  have he : decide (n ≤ 60 ∧ m ≤ 60) = (b1 && b2) := by
    rw [← d1, ← d2]
    by_cases h1 : n ≤ 60 <;> by_cases h2 : m ≤ 60
    · rw [decide_eq_true ⟨h1, h2⟩, decide_eq_true (show (n : Int) ≤ 60 by omega), decide_eq_true (show (m : Int) ≤ 60 by omega)]; rfl
    · rw [decide_eq_false (fun h => h2 h.2), decide_eq_true (show (n : Int) ≤ 60 by omega), decide_eq_false (show ¬ (m : Int) ≤ 60 by omega)]; rfl
    · rw [decide_eq_false (fun h => h1 h.1), decide_eq_false (show ¬ (n : Int) ≤ 60 by omega)]; rfl
    · rw [decide_eq_false (fun h => h1 h.1), decide_eq_false (show ¬ (n : Int) ≤ 60 by omega)]; rfl
  rw [he]
  have HB1 := Lib.hid B1
  unfold maxLen at hn hm
  unfold calV
  clear he B1
  cases b1 <;> cases b2
  all_goals
    go_enter Tryz.func9, Tryz.ntmps9
    go_wp2_with fail
    go_ret
    exact ⟨rfl, HB1.out⟩

set_option maxRecDepth 100000 in
set_option maxHeartbeats 4000000 in
/-- The reference's number of a calendar. -/
theorem rcheck10 (off : Int) (a : Option Addr) (n ca : Nat) (F T : Nat → Int) (b : Option Addr) (m cb : Nat) (G U : Nat → Int) (w : World) (hS : Sps w a n F T) (hR : Sps w b m G U) :
    Calls Tryz.prog 13 #[calV off a n ca b m cb] w fun e w' => e = .returned (.int .i64 (checkE off F T n G U m)) ∧ Below w.heap.size w w' := by
  have B1 : Below w.heap.size w (w.alloc (.cells #[.int .i64 off, .slice a n ca, .slice b m cb] 24)) := (Below.refl _ _).alloc (Nat.le_refl _) _
  have c0 : (w.alloc (.cells #[.int .i64 off, .slice a n ca, .slice b m cb] 24)).cell? ⟨w.heap.size, 0, none⟩ = some (.int .i64 off) := by simp
  have c1 : (w.alloc (.cells #[.int .i64 off, .slice a n ca, .slice b m cb] 24)).cell? ⟨w.heap.size, 1, none⟩ = some (.slice a n ca) := by simp
  have c2 : (w.alloc (.cells #[.int .i64 off, .slice a n ca, .slice b m cb] 24)).cell? ⟨w.heap.size, 2, none⟩ = some (.slice b m cb) := by simp
  have hlt : w.heap.size < (w.alloc (.cells #[.int .i64 off, .slice a n ca, .slice b m cb] 24)).heap.size := by simp
  have HB1 := Lib.hid B1
  unfold calV
  by_cases ho : off < 0 ∨ 604800 ≤ off
  · have he : checkE off F T n G U m = 2 := if_pos ho
    rw [he]
    obtain ⟨b1, d1⟩ : ∃ c, decide (off < 0) = c := ⟨_, rfl⟩
    obtain ⟨b2, d2⟩ : ∃ c, decide (604800 ≤ off) = c := ⟨_, rfl⟩
    have hor : b1 = true ∨ b2 = true := by
      rcases ho with h | h
      · exact .inl (d1 ▸ decide_eq_true h)
      · exact .inr (d2 ▸ decide_eq_true h)
    clear hS hR he ho B1 hlt
    cases b1 <;> cases b2
    · rcases hor with h | h <;> cases h
    all_goals
      clear hor
      go_enter Tryz.func13, Tryz.ntmps13
      go_wp2_with fail
      go_ret
      exact ⟨rfl, HB1.out⟩
  · have d1 : decide (off < 0) = false := decide_eq_false (by omega)
    have d2 : decide (604800 ≤ off) = false := decide_eq_false (by omega)
    have hwr := wrong_any a n ca F T _ (hS.kept B1)
    have HR := Lib.hid (fun W (hb : Below w.heap.size w W) => rrow_any b m cb G U W (hR.kept hb))
    have HC := Lib.hid (And.intro c2 hlt)
    by_cases hw : wrongE F T n = 0
    · have he : checkE off F T n G U m = rowE G U m := by unfold checkE; rw [if_neg ho, if_neg (by rw [hw]; simp)]
      rw [he]
      rw [hw] at hwr
      clear hS hR he ho B1 hlt hw
      go_enter Tryz.func13, Tryz.ntmps13
      go_wp2_with fail
      refine hwr.mono ?_
      rintro e w2 ⟨rfl, hb2⟩
      have c2' := (hb2.cell (p := ⟨w.heap.size, 2, none⟩) HC.out.2).trans HC.out.1
      have HB2 := Lib.hid (HB1.out.trans (hb2.mono HB1.out.size))
      have h3 := HR.out w2 HB2.out
      clear hwr hb2 c0 c1 c2
      go_wp2_with fail
      refine h3.mono ?_
      rintro e w3 ⟨rfl, hb3⟩
      have HB3 := Lib.hid (HB2.out.trans (hb3.mono HB2.out.size))
      clear h3 hb3 c2'
      go_wp2_with fail
      go_ret
      exact ⟨rfl, HB3.out⟩
    · have he : checkE off F T n G U m = wrongE F T n := by unfold checkE; rw [if_neg ho, if_pos hw]
      rw [he]
      obtain ⟨z, hz⟩ : ∃ z, wrongE F T n = z := ⟨_, rfl⟩
      have hz' : (z != 0) = true := by rw [← hz]; simpa using hw
      rw [hz] at hwr ⊢
      clear hS hR he ho B1 hlt hw HR HC c2 hz
      go_enter Tryz.func13, Tryz.ntmps13
      go_wp2_with fail
      refine hwr.mono ?_
      rintro e w2 ⟨rfl, hb2⟩
      have HB2 := Lib.hid (HB1.out.trans (hb2.mono HB1.out.size))
      clear hwr hb2 c0 c1
      go_wp2_with fail
      go_ret
      exact ⟨rfl, HB2.out⟩
theorem clock_in (off : Int) (a : Option Addr) (n ca : Nat) (b : Option Addr) (m cb : Nat) (F T G U : Nat → Int) (w : World) (hS : Sps w a n F T) (hR : Sps w b m G U) (hz : checkE off F T n G U m = 0) :
    Calls Tryz.prog 46 #[calV off a n ca b m cb] w (Clocked ⟨F, T, n, G, U, m, off⟩ w) := clock_ok ⟨F, T, n, G, U, m, off⟩ a ca b cb w (checkE_ok hz) hS hR
theorem until_none {F T : Nat → Int} (t : Int) : openB F T 0 t = false := by
  unfold openB
  simp [hasB]
theorem Cal.g_none {D : Cal} (hn : D.n = 0) {a b : Int} (h0 : 0 ≤ a) (h : a ≤ b) : D.g b = D.g a := by
  obtain ⟨k, rfl⟩ := up_to h
  clear h
  induction k with
  | zero => simp
  | succ k ih =>
    have h4 := D.g_step (a + k) (by omega)
    have h6 : D.opB (a + k) = false := by unfold Cal.opB; rw [hn, until_none]; simp
    rw [h6] at h4
    rw [show a + ((k + 1 : Nat) : Int) = a + k + 1 by omega, h4, ih]
    simp

/-- What is due, of a budget above zero: nothing, or the least. -/
theorem Cal.due_two {D : Cal} (hd : D.ok) {s y v er : Int} (h : D.Dues s y v er) (s0 : 0 ≤ s) (s1 : s ≤ 1125899906842624) (y0 : 1 ≤ y) :
    (v = 0 ∧ D.g 1125899906842624 - D.g s < y ∧ (er = 10 ∨ (er = 40 ∧ D.n = 0))) ∨ (er = 0 ∧ D.g v = D.g s + y ∧ D.opB (v - 1) = true ∧ s < v ∧ v ≤ 1125899906842624) := by
  rcases h with ⟨h, _, _⟩ | ⟨_, _, h, _⟩ | ⟨_, _, _, h, h2, h3⟩ | ⟨_, _, _, _, h⟩
  · omega
  · omega
  · have hn : D.n = 0 := by
      rcases Nat.eq_zero_or_pos D.n with hn | hn
      · exact hn
      · have := tsum_pos hd.wk.good hn
        omega
    have := D.g_none hn s0 s1
    exact .inl ⟨h2, by omega, .inr ⟨h3, hn⟩⟩
  · rcases h with ⟨h1, h2, h3⟩ | h
    · exact .inl ⟨h2, h3, .inl h1⟩
    · exact .inr h
end Go.Proofs.YtibjboacjobaoaaGreat

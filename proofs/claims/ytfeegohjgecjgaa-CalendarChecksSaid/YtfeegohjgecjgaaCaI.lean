/- How a calendar of the law reads. -/
import Derived.Test.YtfeegohjgecjgaaCaG
import Derived.Test.YtfeegohjgecjgaaSpM
import Derived.Lib.SmallJoins
import Derived.WideShapes
namespace Go.Proofs.Ytfeegohjgecjgaa
open Go.RowKit
set_option maxRecDepth 100000 in
theorem slice_form {H : Type} {enc : TypeId × Value → H} {w : World} {base : Nat} {sp : Nat → Bool} {held : Bool} {fuel : Nat} {v : Value} {x : DataW H × List MemPlace}
    (h : DataW.trod enc Try.prog w base sp held fuel 22 [v] = some x) : ∃ a n c, v = .slice a n c := by
  rcases Deep.open_slice Try.underlying22 h with ⟨hcs, _⟩ | ⟨x, l, c, m, nn, D, Pl, hcs, _⟩
  · simp only [List.cons.injEq, and_true] at hcs
    exact ⟨_, _, _, hcs⟩
  · simp only [List.cons.injEq, and_true] at hcs
    exact ⟨_, _, _, hcs⟩
set_option maxRecDepth 100000 in
theorem cal_in {H : Type} {enc : TypeId × Value → H} {w : World} {base b0 : Nat} {r : Reach} {sp : Nat → Bool} {held : Bool} {v : Value} {d : DataW H} {p : List MemPlace}
    (hv : Value.okWide Try.prog w r b0 53 v) (h : DataW.Trod enc Try.prog w base sp held 53 v d p) :
    ∃ off a n ca b m cb F T G U, v = calV off a n ca b m cb ∧ Sps w a n F T ∧ Sps w b m G U ∧ -9223372036854775808 ≤ off ∧ off ≤ 9223372036854775807 := by
  obtain ⟨v0, v1, v2, y0, y1, y2, k, rfl, _, _, h0, h1, h2⟩ := Joins.open_agg3 Try.underlying53 (by kernel_rfl) (by kernel_rfl) hv h
  obtain ⟨off, e0, _, w0⟩ := DataW.trod_int Try.underlying2 h0
  simp only [List.cons.injEq, and_true] at e0
  subst e0
  obtain ⟨a, n, ca, rfl⟩ := slice_form h1
  obtain ⟨b, m, cb, rfl⟩ := slice_form h2
  obtain ⟨F, T, hS⟩ := spans_in h1
  obtain ⟨G, U, hR⟩ := spans_in h2
  obtain ⟨l1, l2⟩ := bounds_i64 w0
  exact ⟨off, a, n, ca, b, m, cb, F, T, G, U, rfl, hS, hR, l1, l2⟩

set_option maxRecDepth 100000 in
set_option maxHeartbeats 4000000 in
/-- What the law looks at. -/
theorem light10 (off : Int) (a : Option Addr) (n ca : Nat) (b : Option Addr) (m cb : Nat) (w : World) (hn : n ≤ maxLen) (hm : m ≤ maxLen) :
    Calls Try.prog 31 #[calV off a n ca b m cb] w fun e w' => e = .returned (.bool (decide (n ≤ 60 ∧ m ≤ 60))) ∧ Below w.heap.size w w' := by
  have B1 : Below w.heap.size w (w.alloc (.cells #[.int .i64 off, .slice a n ca, .slice b m cb] 53)) := (Below.refl _ _).alloc (Nat.le_refl _) _
  have c1 : (w.alloc (.cells #[.int .i64 off, .slice a n ca, .slice b m cb] 53)).cell? ⟨w.heap.size, 1, none⟩ = some (.slice a n ca) := by simp
  have c2 : (w.alloc (.cells #[.int .i64 off, .slice a n ca, .slice b m cb] 53)).cell? ⟨w.heap.size, 2, none⟩ = some (.slice b m cb) := by simp
  obtain ⟨b1, d1⟩ : ∃ c, decide ((n : Int) ≤ 60) = c := ⟨_, rfl⟩
  obtain ⟨b2, d2⟩ : ∃ c, decide ((m : Int) ≤ 60) = c := ⟨_, rfl⟩
  have he : decide (n ≤ 60 ∧ m ≤ 60) = (b1 && b2) := by
    rw [← d1, ← d2]
    by_cases h1 : n ≤ 60 <;> by_cases h2 : m ≤ 60
    · rw [decide_eq_true ⟨h1, h2⟩, decide_eq_true (show (n : Int) ≤ 60 by omega), decide_eq_true (show (m : Int) ≤ 60 by omega)]; rfl
    · rw [decide_eq_false (fun h => h2 h.2), decide_eq_true (show (n : Int) ≤ 60 by omega), decide_eq_false (show ¬ (m : Int) ≤ 60 by omega)]; rfl
    · rw [decide_eq_false (fun h => h1 h.1), decide_eq_false (show ¬ (n : Int) ≤ 60 by omega)]; rfl
    · rw [decide_eq_false (fun h => h1 h.1), decide_eq_false (show ¬ (n : Int) ≤ 60 by omega)]; rfl
  rw [he]
  have HB1 := Lib.hid B1
  unfold maxLen at hn hm
  unfold calV
  clear he B1
  cases b1 <;> cases b2
  all_goals
    go_enter Try.func31, Try.ntmps31
    go_wp2_with fail
    go_ret
    exact ⟨rfl, HB1.out⟩

set_option maxRecDepth 100000 in
set_option maxHeartbeats 4000000 in
/-- The reference's number of a calendar. -/
theorem rcheck10 (off : Int) (a : Option Addr) (n ca : Nat) (F T : Nat → Int) (b : Option Addr) (m cb : Nat) (G U : Nat → Int) (w : World) (hS : Sps w a n F T) (hR : Sps w b m G U) :
    Calls Try.prog 34 #[calV off a n ca b m cb] w fun e w' => e = .returned (.int .i64 (checkE off F T n G U m)) ∧ Below w.heap.size w w' := by
  have B1 : Below w.heap.size w (w.alloc (.cells #[.int .i64 off, .slice a n ca, .slice b m cb] 53)) := (Below.refl _ _).alloc (Nat.le_refl _) _
  have c0 : (w.alloc (.cells #[.int .i64 off, .slice a n ca, .slice b m cb] 53)).cell? ⟨w.heap.size, 0, none⟩ = some (.int .i64 off) := by simp
  have c1 : (w.alloc (.cells #[.int .i64 off, .slice a n ca, .slice b m cb] 53)).cell? ⟨w.heap.size, 1, none⟩ = some (.slice a n ca) := by simp
  have c2 : (w.alloc (.cells #[.int .i64 off, .slice a n ca, .slice b m cb] 53)).cell? ⟨w.heap.size, 2, none⟩ = some (.slice b m cb) := by simp
  have hlt : w.heap.size < (w.alloc (.cells #[.int .i64 off, .slice a n ca, .slice b m cb] 53)).heap.size := by simp
  have HB1 := Lib.hid B1
  unfold calV
  by_cases ho : off < 0 ∨ 604800 ≤ off
  · have he : checkE off F T n G U m = 2 := if_pos ho
    rw [he]
    obtain ⟨b1, d1⟩ : ∃ c, decide (off < 0) = c := ⟨_, rfl⟩
    obtain ⟨b2, d2⟩ : ∃ c, decide (604800 ≤ off) = c := ⟨_, rfl⟩
    have hor : b1 = true ∨ b2 = true := by
      rcases ho with h | h
      · exact .inl (d1 ▸ decide_eq_true h)
      · exact .inr (d2 ▸ decide_eq_true h)
    clear hS hR he ho B1 hlt
    cases b1 <;> cases b2
    · rcases hor with h | h <;> cases h
    all_goals
      clear hor
      go_enter Try.func34, Try.ntmps34
      go_wp2_with fail
      go_ret
      exact ⟨rfl, HB1.out⟩
  · have d1 : decide (off < 0) = false := decide_eq_false (by omega)
    have d2 : decide (604800 ≤ off) = false := decide_eq_false (by omega)
    have hwr := wrong_any a n ca F T _ (hS.kept B1)
    have HR := Lib.hid (fun W (hb : Below w.heap.size w W) => rrow_any b m cb G U W (hR.kept hb))
    have HC := Lib.hid (And.intro c2 hlt)
    by_cases hw : wrongE F T n = 0
    · have he : checkE off F T n G U m = rowE G U m := by unfold checkE; rw [if_neg ho, if_neg (by rw [hw]; simp)]
      rw [he]
      rw [hw] at hwr
      clear hS hR he ho B1 hlt hw
      go_enter Try.func34, Try.ntmps34
      go_wp2_with fail
      refine hwr.mono ?_
      rintro e w2 ⟨rfl, hb2⟩
      have c2' := (hb2.cell (p := ⟨w.heap.size, 2, none⟩) HC.out.2).trans HC.out.1
      have HB2 := Lib.hid (HB1.out.trans (hb2.mono HB1.out.size))
      have h3 := HR.out w2 HB2.out
      clear hwr hb2 c0 c1 c2
      go_wp2_with fail
      refine h3.mono ?_
      rintro e w3 ⟨rfl, hb3⟩
      have HB3 := Lib.hid (HB2.out.trans (hb3.mono HB2.out.size))
      clear h3 hb3 c2'
      go_wp2_with fail
      go_ret
      exact ⟨rfl, HB3.out⟩
    · have he : checkE off F T n G U m = wrongE F T n := by unfold checkE; rw [if_neg ho, if_pos hw]
      rw [he]
      obtain ⟨z, hz⟩ : ∃ z, wrongE F T n = z := ⟨_, rfl⟩
      have hz' : (z != 0) = true := by rw [← hz]; simpa using hw
      rw [hz] at hwr ⊢
      clear hS hR he ho B1 hlt hw HR HC c2 hz
      go_enter Try.func34, Try.ntmps34
      go_wp2_with fail
      refine hwr.mono ?_
      rintro e w2 ⟨rfl, hb2⟩
      have HB2 := Lib.hid (HB1.out.trans (hb2.mono HB1.out.size))
      clear hwr hb2 c0 c1
      go_wp2_with fail
      go_ret
      exact ⟨rfl, HB2.out⟩
theorem clock_in (off : Int) (a : Option Addr) (n ca : Nat) (b : Option Addr) (m cb : Nat) (F T G U : Nat → Int) (w : World) (hS : Sps w a n F T) (hR : Sps w b m G U) (hz : checkE off F T n G U m = 0) :
    Calls Try.prog 33 #[calV off a n ca b m cb] w (Clocked ⟨F, T, n, G, U, m, off⟩ w) := clock_ok ⟨F, T, n, G, U, m, off⟩ a ca b cb w (checkE_ok hz) hS hR
theorem until_none {F T : Nat → Int} (t : Int) : openB F T 0 t = false := by
  unfold openB
  simp [hasB]
theorem Cal.g_none {D : Cal} (hn : D.n = 0) {a b : Int} (h0 : 0 ≤ a) (h : a ≤ b) : D.g b = D.g a := by
  obtain ⟨k, rfl⟩ := up_to h
  clear h
  induction k with
  | zero => simp
  | succ k ih =>
    have h4 := D.g_step (a + k) (by omega)
    have h6 : D.opB (a + k) = false := by unfold Cal.opB; rw [hn, until_none]; simp
    rw [h6] at h4
    rw [show a + ((k + 1 : Nat) : Int) = a + k + 1 by omega, h4, ih]
    simp

/-- What is due, of a budget above zero: nothing, or the least. -/
theorem Cal.due_two {D : Cal} (hd : D.ok) {s y v er : Int} (h : D.Dues s y v er) (s0 : 0 ≤ s) (s1 : s ≤ 1125899906842624) (y0 : 1 ≤ y) :
    (v = 0 ∧ D.g 1125899906842624 - D.g s < y ∧ (er = 10 ∨ (er = 40 ∧ D.n = 0))) ∨ (er = 0 ∧ D.g v = D.g s + y ∧ D.opB (v - 1) = true ∧ s < v ∧ v ≤ 1125899906842624) := by
  rcases h with ⟨h, _, _⟩ | ⟨_, _, h, _⟩ | ⟨_, _, _, h, h2, h3⟩ | ⟨_, _, _, _, h⟩
  · omega
  · omega
  · have hn : D.n = 0 := by
      rcases Nat.eq_zero_or_pos D.n with hn | hn
      · exact hn
      · have := tsum_pos hd.wk.good hn
        omega
    have := D.g_none hn s0 s1
    exact .inl ⟨h2, by omega, .inr ⟨h3, hn⟩⟩
  · rcases h with ⟨h1, h2, h3⟩ | h
    · exact .inl ⟨h2, h3, .inl h1⟩
    · exact .inr h
end Go.Proofs.Ytfeegohjgecjgaa

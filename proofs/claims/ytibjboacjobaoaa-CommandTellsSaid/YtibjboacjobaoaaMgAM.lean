import Derived.Test.YtibjboacjobaoaaMgAK
import Derived.Test.YtibjboacjobaoaaMgAL
import Derived.Test.YtibjboacjobaoaaMgAC
import Derived.Lib.SmallJoins
import Derived.WideShapes
import Derived.Test.YtibjboacjobaoaaMgAA
import Derived.OwnWalk
import Derived.Lib.Hide
namespace Go.Proofs.Ytibjboacjobaoaa
open Go.RowKit
/- A clock made; the example of layer 10. -/
open Go.RowKit

/-- A calendar as it is handed on. -/
def calV (off : Int) (a : Option Addr) (n ca : Nat) (b : Option Addr) (m cb : Nat) : Value := .agg #[.int .i64 off, .slice a n ca, .slice b m cb]
/-- New's number. -/
def checkE (off : Int) (F T : Nat → Int) (n : Nat) (G U : Nat → Int) (m : Nat) : Int :=
  if off < 0 ∨ 604800 ≤ off then 2 else if wrongE F T n ≠ 0 then wrongE F T n else rowE G U m
theorem checkE_ok {off : Int} {F T : Nat → Int} {n : Nat} {G U : Nat → Int} {m : Nat} (h : checkE off F T n G U m = 0) : Cal.ok ⟨F, T, n, G, U, m, off⟩ := by
  unfold checkE at h
  split at h
  · cases h
  · split at h
    · contradiction
    · rename_i h1 h2
      have h3 : (wrongE F T n != 0) = false := by simpa using h2
      obtain ⟨h4, h5⟩ := rowE_zero h
      exact ⟨wk_of h3, h5, h4, by show 0 ≤ off; omega, by show off < 604800; omega⟩
theorem checkE_of {D : Cal} (h : D.ok) : checkE D.off D.F D.T D.n D.G D.U D.m = 0 := by
  have := h.off0
  have := h.off1
  unfold checkE
  rw [if_neg (by omega), if_neg (by rw [wk_wrong h.wk]; simp), rowE_ok h.len h.good]

/-- A clock made. -/
def Clocked (D : Cal) (w : World) (e : Ending) (w' : World) : Prop := ∃ L : Loc, e = .returned (.tuple #[.pointer (some ⟨L.K, 0, none⟩), .int .i64 0]) ∧ Ck L D w' ∧ w.heap.size ≤ L.C ∧ Below w.heap.size w w'
set_option maxRecDepth 100000 in
set_option maxHeartbeats 4000000 in
theorem clock_ok (D : Cal) (a : Option Addr) (ca : Nat) (b : Option Addr) (cb : Nat) (w : World) (hd : D.ok) (hS : Sps w a D.n D.F D.T) (hR : Sps w b D.m D.G D.U) :
    Calls Try.prog 109 #[calV D.off a D.n ca b D.m cb] w (Clocked D w) := by
  have B1 : Below w.heap.size w (w.alloc (.cells #[.int .i64 D.off, .slice a D.n ca, .slice b D.m cb] 25)) := (Below.refl _ _).alloc (Nat.le_refl _) _
  have hnw := new_ok a D.n ca D.F D.T _ (hS.kept B1) hd.wk
  have HB1 := Lib.hid B1
  have HD := Lib.hid hd
  have HR := Lib.hid hR
  have o0 := hd.off0
  have o1 := hd.off1
  have c0 : (w.alloc (.cells #[.int .i64 D.off, .slice a D.n ca, .slice b D.m cb] 25)).cell? ⟨w.heap.size, 0, none⟩ = some (.int .i64 D.off) := by simp
  have c1 : (w.alloc (.cells #[.int .i64 D.off, .slice a D.n ca, .slice b D.m cb] 25)).cell? ⟨w.heap.size, 2, none⟩ = some (.slice b D.m cb) := by simp
  have hlt : w.heap.size < (w.alloc (.cells #[.int .i64 D.off, .slice a D.n ca, .slice b D.m cb] 25)).heap.size := by simp
  have HC := Lib.hid (And.intro c0 (And.intro c1 hlt))
  obtain ⟨off, ho⟩ : ∃ o, D.off = o := ⟨_, rfl⟩
  have d1 : decide (off < 0) = false := decide_eq_false (by omega)
  have d2 : decide (604800 ≤ off) = false := decide_eq_false (by omega)
  have HO := Lib.hid ho
  unfold calV
  rw [ho] at hnw HB1 HC ⊢
  clear hd hS hR B1 c0 c1 hlt ho o0 o1
  go_enter Try.func109, Try.ntmps109
  go_wp2_with fail
  refine hnw.mono ?_
  rintro e w2 ⟨P, C, pa, pc, rfl, hP, hb2⟩
  have c2 := (hb2.cell (p := ⟨w.heap.size, 2, none⟩) HC.out.2.2).trans HC.out.2.1
  have c0 := (hb2.cell (p := ⟨w.heap.size, 0, none⟩) HC.out.2.2).trans HC.out.1
  have HC0 := Lib.hid c0
  have HB2 := Lib.hid (HB1.out.trans (hb2.mono HB1.out.size))
  have HP2 := Lib.hid hP
  have HZ := Lib.hid HB1.out.size
  have hal := made_ok b D.m cb D.G D.U w2 (HR.out.kept HB2.out) HD.out.len HD.out.good
  clear hnw hP hb2
  go_wp2_with fail
  refine hal.mono ?_
  rintro e w3 ⟨A, ba, bc, rfl, hA, hA3, hfar, hb3⟩
  have c3 := (hb3.cell (p := ⟨w.heap.size, 0, none⟩) (cell_spot HC0.out).2).trans HC0.out
  have HB3 := Lib.hid (HB2.out.trans (hb3.mono HB2.out.size))
  have HP3 := Lib.hid (HP2.out.kept hb3)
  have HA3 := Lib.hid hA3
  have HF := Lib.hid (And.intro hA hfar)
  have hC2 := HP2.out.lt
  have hz3 := hb3.size
  clear hal hA hA3 hfar hb3 c2 c0
  go_wp2_with fail
  go_ret2
  have B4 : Below w3.heap.size w3 (w3.alloc (.cells #[.pointer (some ⟨A, 0, none⟩), .pointer (some ⟨P, 0, none⟩), .int .i64 off] 191)) := (Below.refl _ _).alloc (Nat.le_refl _) _
  have hA4 := HA3.out.kept B4
  have hP4 := HP3.out.kept B4
  obtain ⟨hfA, hfR⟩ := HF.out
  have hal : (w3.alloc (.cells #[.pointer (some ⟨A, 0, none⟩), .pointer (some ⟨P, 0, none⟩), .int .i64 off] 191)).cell? ⟨A, 0, none⟩ = some (.slice ba D.m bc) := by
    rcases hA4.mem with ⟨h, _⟩ | ⟨A', h, h2⟩
    · cases h
    · injection h with h; injection h with h; subst h; exact h2
  refine ⟨⟨_, w3.heap.size, A, P, C, pa, pc, ba, bc⟩, rfl, ⟨by simp, by simp, by simp [HO.out], hal, hA4.sps, hA4.cap, hP4, ?_, ?_, ?_⟩, ?_, HB3.out.alloc HB3.out.size _⟩
  · show w3.heap.size ≠ C; omega
  · show A ≠ C; omega
  · intro x h1 h2
    have := (hfR x h1 h2).1
    show x.block ≠ C
    omega
  · have := hP4.hC; have := HZ.out; show w.heap.size ≤ C; omega

theorem checkE_val {off : Int} {F T : Nat → Int} {n : Nat} {G U : Nat → Int} {m : Nat} : checkE off F T n G U m = if off < 0 ∨ 604800 ≤ off then 2 else if wrongE F T n ≠ 0 then wrongE F T n else rowE G U m := rfl
set_option maxRecDepth 100000 in
set_option maxHeartbeats 4000000 in
theorem clock_bad (off : Int) (a : Option Addr) (n ca : Nat) (F T : Nat → Int) (b : Option Addr) (m cb : Nat) (G U : Nat → Int) (w : World) (hS : Sps w a n F T) (hR : Sps w b m G U) (hz : checkE off F T n G U m ≠ 0) :
    Calls Try.prog 109 #[calV off a n ca b m cb] w fun e w' => e = .returned (.tuple #[.pointer none, .int .i64 (checkE off F T n G U m)]) ∧ Below w.heap.size w w' := by
  have B1 : Below w.heap.size w (w.alloc (.cells #[.int .i64 off, .slice a n ca, .slice b m cb] 25)) := (Below.refl _ _).alloc (Nat.le_refl _) _
  have c0 : (w.alloc (.cells #[.int .i64 off, .slice a n ca, .slice b m cb] 25)).cell? ⟨w.heap.size, 0, none⟩ = some (.int .i64 off) := by simp
  have c1 : (w.alloc (.cells #[.int .i64 off, .slice a n ca, .slice b m cb] 25)).cell? ⟨w.heap.size, 2, none⟩ = some (.slice b m cb) := by simp
  have hlt : w.heap.size < (w.alloc (.cells #[.int .i64 off, .slice a n ca, .slice b m cb] 25)).heap.size := by simp
  have HB1 := Lib.hid B1
  unfold calV
  by_cases ho : off < 0 ∨ 604800 ≤ off
  · have he : checkE off F T n G U m = 2 := if_pos ho
    rw [he]
    obtain ⟨b1, d1⟩ : ∃ c, decide (off < 0) = c := ⟨_, rfl⟩
    obtain ⟨b2, d2⟩ : ∃ c, decide (604800 ≤ off) = c := ⟨_, rfl⟩
    have hor : b1 = true ∨ b2 = true := by
      rcases ho with h | h
      · exact .inl (d1 ▸ decide_eq_true h)
      · exact .inr (d2 ▸ decide_eq_true h)
    clear hS hR hz he ho B1 c0 c1 hlt
    cases b1 <;> cases b2
    · rcases hor with h | h <;> cases h
    all_goals
      clear hor
      go_enter Try.func109, Try.ntmps109
      go_wp2_with fail
      go_ret2
      exact ⟨rfl, HB1.out⟩
  · have d1 : decide (off < 0) = false := decide_eq_false (by omega)
    have d2 : decide (604800 ≤ off) = false := decide_eq_false (by omega)
    by_cases hw : (wrongE F T n != 0) = true
    · have hw' : wrongE F T n ≠ 0 := by simpa using hw
      have he : checkE off F T n G U m = wrongE F T n := by unfold checkE; rw [if_neg ho, if_pos hw']
      rw [he]
      have hnw := new_no a n ca F T _ (hS.kept B1) hw
      generalize wrongE F T n = z at hnw hw ⊢
      clear hS hR hz he ho B1 c0 c1 hlt
      go_enter Try.func109, Try.ntmps109
      go_wp2_with fail
      refine hnw.mono ?_
      rintro e w2 ⟨rfl, hb2⟩
      have HB2 := Lib.hid (HB1.out.trans (hb2.mono HB1.out.size))
      clear hnw hb2
      go_wp2_with fail
      go_ret2
      exact ⟨rfl, HB2.out⟩
    · have hw' : (wrongE F T n != 0) = false := by simpa using hw
      have hw0 : wrongE F T n = 0 := by simpa using hw'
      have he : checkE off F T n G U m = rowE G U m := by unfold checkE; rw [if_neg ho, if_neg (by rw [hw0]; simp)]
      rw [he] at hz ⊢
      have hz' : (rowE G U m != 0) = true := by simpa using hz
      have hnw := new_ok a n ca F T _ (hS.kept B1) (wk_of hw')
      have HR := Lib.hid (fun W (hb : Below w.heap.size w W) => made_bad b m cb G U W (hR.kept hb) hz')
      generalize rowE G U m = z at HR hz' ⊢
      have HC := Lib.hid (And.intro c1 hlt)
      clear hS hR hz he ho B1 c0 c1 hlt hw hw' hw0
      go_enter Try.func109, Try.ntmps109
      go_wp2_with fail
      refine hnw.mono ?_
      rintro e w2 ⟨P, C, pa, pc, rfl, hP, hb2⟩
      have c2 := (hb2.cell (p := ⟨w.heap.size, 2, none⟩) HC.out.2).trans HC.out.1
      have HB2 := Lib.hid (HB1.out.trans (hb2.mono HB1.out.size))
      have h3 := HR.out w2 HB2.out
      clear hnw hb2 hP
      go_wp2_with fail
      refine h3.mono ?_
      rintro e w3 ⟨rfl, hb3⟩
      have HB3 := Lib.hid (HB2.out.trans (hb3.mono HB2.out.size))
      clear h3 hb3 c2
      go_wp2_with fail
      go_ret2
      exact ⟨rfl, HB3.out⟩
/- The example of layer 10. -/
open Go.RowKit

/-- What is due is one thing. -/
theorem Cal.due_is {D : Cal} {s b v e d : Int} (h : D.Dues s b v e) (s0 : 0 ≤ s) (hb : 0 < b) (hsd : s < d) (hd : d ≤ 1125899906842624) (hg : D.g d = D.g s + b) (ho : D.opB (d - 1) = true) (ht : tsum D.F D.T D.n ≠ 0) : v = d ∧ e = 0 := by
  have h1 := D.g_step (d - 1) (by omega)
  rw [ho, show d - 1 + 1 = d by omega] at h1
  simp only [if_true] at h1
  rcases h with ⟨h, _, _⟩ | ⟨_, _, h, _⟩ | ⟨_, _, _, h, _⟩ | ⟨_, _, _, _, h⟩
  · omega
  · omega
  · exact absurd h ht
  · rcases h with ⟨_, _, h⟩ | ⟨h2, h3, h4, h5, h6⟩
    · have := D.g_mono (a := d) (b := 1125899906842624) (by omega) hd
      omega
    · refine ⟨?_, h2⟩
      have h7 := D.g_step (v - 1) (by omega)
      rw [h4, show v - 1 + 1 = v by omega] at h7
      simp only [if_true] at h7
      rcases Int.lt_trichotomy v d with hc | hc | hc
      · have := D.g_mono (a := v) (b := d - 1) (by omega) (by omega)
        omega
      · exact hc
      · have := D.g_mono (a := d) (b := v - 1) (by omega) (by omega)
        omega
def ex10 : Cal := ⟨fr [(10, 20)], til [(10, 20)], 1, fun _ => 0, fun _ => 0, 0, 0⟩
theorem ex10_ok : ex10.ok := ⟨wk_ex, by decide, by decide, by decide, by decide⟩
theorem ex10_g {a b : Int} (h0 : 0 ≤ a) (hab : a ≤ b) (h1 : b ≤ 1125899906842624) : ex10.g b = ex10.g a + (ex10.V b - ex10.V a) := by
  have := ex10.g_free ex10_ok h0 hab h1 (fun t _ _ => by
    cases hh : hasB ex10.G ex10.U t ex10.m with
    | false => rfl
    | true =>
      obtain ⟨j, hj, _⟩ := (hasB_iff ex10.m).1 hh
      exact absurd hj (Nat.not_lt_zero _))
  omega
theorem ex10_one {v e : Int} (h : ex10.Dues 0 5 v e) : v = 15 ∧ e = 0 := by
  refine ex10.due_is h (by decide) (by decide) (d := 15) (by decide) (by decide) ?_ (by decide +kernel) (by decide)
  rw [ex10_g (a := 0) (b := 15) (by decide) (by decide) (by decide)]
  have : ex10.V 15 - ex10.V 0 = 5 := by decide +kernel
  omega
theorem ex10_two {v e : Int} (h : ex10.Dues 15 6 v e) : v = 604811 ∧ e = 0 := by
  refine ex10.due_is h (by decide) (by decide) (d := 604811) (by decide) (by decide) ?_ (by decide +kernel) (by decide)
  rw [ex10_g (a := 15) (b := 604811) (by decide) (by decide) (by decide)]
  have : ex10.V 604811 - ex10.V 15 = 6 := by decide +kernel
  omega

/- How a calendar of the law reads. -/
open Go.RowKit
set_option maxRecDepth 100000 in
theorem slice_form {H : Type} {enc : TypeId × Value → H} {w : World} {base : Nat} {sp : Nat → Bool} {held : Bool} {fuel : Nat} {v : Value} {x : DataW H × List MemPlace}
    (h : DataW.trod enc Try.prog w base sp held fuel 23 [v] = some x) : ∃ a n c, v = .slice a n c := by
  rcases Deep.open_slice Try.underlying23 h with ⟨hcs, _⟩ | ⟨x, l, c, m, nn, D, Pl, hcs, _⟩
  · simp only [List.cons.injEq, and_true] at hcs
    exact ⟨_, _, _, hcs⟩
  · simp only [List.cons.injEq, and_true] at hcs
    exact ⟨_, _, _, hcs⟩
set_option maxRecDepth 100000 in
theorem cal_in {H : Type} {enc : TypeId × Value → H} {w : World} {base b0 : Nat} {r : Reach} {sp : Nat → Bool} {held : Bool} {v : Value} {d : DataW H} {p : List MemPlace}
    (hv : Value.okWide Try.prog w r b0 25 v) (h : DataW.Trod enc Try.prog w base sp held 25 v d p) :
    ∃ off a n ca b m cb F T G U, v = calV off a n ca b m cb ∧ Sps w a n F T ∧ Sps w b m G U ∧ -9223372036854775808 ≤ off ∧ off ≤ 9223372036854775807 := by
  obtain ⟨v0, v1, v2, y0, y1, y2, k, rfl, _, _, h0, h1, h2⟩ := Joins.open_agg3 Try.underlying25 (by kernel_rfl) (by kernel_rfl) hv h
  obtain ⟨off, e0, _, w0⟩ := DataW.trod_int Try.underlying2 h0
  simp only [List.cons.injEq, and_true] at e0
  subst e0
  obtain ⟨a, n, ca, rfl⟩ := slice_form h1
  obtain ⟨b, m, cb, rfl⟩ := slice_form h2
  obtain ⟨F, T, hS⟩ := spans_in h1
  obtain ⟨G, U, hR⟩ := spans_in h2
  obtain ⟨l1, l2⟩ := bounds_i64 w0
  exact ⟨off, a, n, ca, b, m, cb, F, T, G, U, rfl, hS, hR, l1, l2⟩

set_option maxRecDepth 100000 in
set_option maxHeartbeats 4000000 in
/-- What the law looks at. -/
theorem light10 (off : Int) (a : Option Addr) (n ca : Nat) (b : Option Addr) (m cb : Nat) (w : World) (hn : n ≤ maxLen) (hm : m ≤ maxLen) :
    Calls Try.prog 50 #[calV off a n ca b m cb] w fun e w' => e = .returned (.bool (decide (n ≤ 60 ∧ m ≤ 60))) ∧ Below w.heap.size w w' := by
  have B1 : Below w.heap.size w (w.alloc (.cells #[.int .i64 off, .slice a n ca, .slice b m cb] 25)) := (Below.refl _ _).alloc (Nat.le_refl _) _
  have c1 : (w.alloc (.cells #[.int .i64 off, .slice a n ca, .slice b m cb] 25)).cell? ⟨w.heap.size, 1, none⟩ = some (.slice a n ca) := by simp
  have c2 : (w.alloc (.cells #[.int .i64 off, .slice a n ca, .slice b m cb] 25)).cell? ⟨w.heap.size, 2, none⟩ = some (.slice b m cb) := by simp
  obtain ⟨b1, d1⟩ : ∃ c, decide ((n : Int) ≤ 60) = c := ⟨_, rfl⟩
  obtain ⟨b2, d2⟩ : ∃ c, decide ((m : Int) ≤ 60) = c := ⟨_, rfl⟩
  have he : decide (n ≤ 60 ∧ m ≤ 60) = (b1 && b2) := by
    rw [← d1, ← d2]
    by_cases h1 : n ≤ 60 <;> by_cases h2 : m ≤ 60
    · rw [decide_eq_true ⟨h1, h2⟩, decide_eq_true (show (n : Int) ≤ 60 by omega), decide_eq_true (show (m : Int) ≤ 60 by omega)]; rfl
    · rw [decide_eq_false (fun h => h2 h.2), decide_eq_true (show (n : Int) ≤ 60 by omega), decide_eq_false (show ¬ (m : Int) ≤ 60 by omega)]; rfl
    · rw [decide_eq_false (fun h => h1 h.1), decide_eq_false (show ¬ (n : Int) ≤ 60 by omega)]; rfl
    · rw [decide_eq_false (fun h => h1 h.1), decide_eq_false (show ¬ (n : Int) ≤ 60 by omega)]; rfl
  rw [he]
  have HB1 := Lib.hid B1
  unfold maxLen at hn hm
  unfold calV
  clear he B1
  cases b1 <;> cases b2
  all_goals
    go_enter Try.func50, Try.ntmps50
    go_wp2_with fail
    go_ret
    exact ⟨rfl, HB1.out⟩

set_option maxRecDepth 100000 in
set_option maxHeartbeats 4000000 in
/-- The reference's number of a calendar. -/
theorem rcheck10 (off : Int) (a : Option Addr) (n ca : Nat) (F T : Nat → Int) (b : Option Addr) (m cb : Nat) (G U : Nat → Int) (w : World) (hS : Sps w a n F T) (hR : Sps w b m G U) :
    Calls Try.prog 56 #[calV off a n ca b m cb] w fun e w' => e = .returned (.int .i64 (checkE off F T n G U m)) ∧ Below w.heap.size w w' := by
  have B1 : Below w.heap.size w (w.alloc (.cells #[.int .i64 off, .slice a n ca, .slice b m cb] 25)) := (Below.refl _ _).alloc (Nat.le_refl _) _
  have c0 : (w.alloc (.cells #[.int .i64 off, .slice a n ca, .slice b m cb] 25)).cell? ⟨w.heap.size, 0, none⟩ = some (.int .i64 off) := by simp
  have c1 : (w.alloc (.cells #[.int .i64 off, .slice a n ca, .slice b m cb] 25)).cell? ⟨w.heap.size, 1, none⟩ = some (.slice a n ca) := by simp
  have c2 : (w.alloc (.cells #[.int .i64 off, .slice a n ca, .slice b m cb] 25)).cell? ⟨w.heap.size, 2, none⟩ = some (.slice b m cb) := by simp
  have hlt : w.heap.size < (w.alloc (.cells #[.int .i64 off, .slice a n ca, .slice b m cb] 25)).heap.size := by simp
  have HB1 := Lib.hid B1
  unfold calV
  by_cases ho : off < 0 ∨ 604800 ≤ off
  · have he : checkE off F T n G U m = 2 := if_pos ho
    rw [he]
    obtain ⟨b1, d1⟩ : ∃ c, decide (off < 0) = c := ⟨_, rfl⟩
    obtain ⟨b2, d2⟩ : ∃ c, decide (604800 ≤ off) = c := ⟨_, rfl⟩
    have hor : b1 = true ∨ b2 = true := by
      rcases ho with h | h
      · exact .inl (d1 ▸ decide_eq_true h)
      · exact .inr (d2 ▸ decide_eq_true h)
    clear hS hR he ho B1 hlt
    cases b1 <;> cases b2
    · rcases hor with h | h <;> cases h
    all_goals
      clear hor
      go_enter Try.func56, Try.ntmps56
      go_wp2_with fail
      go_ret
      exact ⟨rfl, HB1.out⟩
  · have d1 : decide (off < 0) = false := decide_eq_false (by omega)
    have d2 : decide (604800 ≤ off) = false := decide_eq_false (by omega)
    have hwr := wrong_any a n ca F T _ (hS.kept B1)
    have HR := Lib.hid (fun W (hb : Below w.heap.size w W) => rrow_any b m cb G U W (hR.kept hb))
    have HC := Lib.hid (And.intro c2 hlt)
    by_cases hw : wrongE F T n = 0
    · have he : checkE off F T n G U m = rowE G U m := by unfold checkE; rw [if_neg ho, if_neg (by rw [hw]; simp)]
      rw [he]
      rw [hw] at hwr
      clear hS hR he ho B1 hlt hw
      go_enter Try.func56, Try.ntmps56
      go_wp2_with fail
      refine hwr.mono ?_
      rintro e w2 ⟨rfl, hb2⟩
      have c2' := (hb2.cell (p := ⟨w.heap.size, 2, none⟩) HC.out.2).trans HC.out.1
      have HB2 := Lib.hid (HB1.out.trans (hb2.mono HB1.out.size))
      have h3 := HR.out w2 HB2.out
      clear hwr hb2 c0 c1 c2
      go_wp2_with fail
      refine h3.mono ?_
      rintro e w3 ⟨rfl, hb3⟩
      have HB3 := Lib.hid (HB2.out.trans (hb3.mono HB2.out.size))
      clear h3 hb3 c2'
      go_wp2_with fail
      go_ret
      exact ⟨rfl, HB3.out⟩
    · have he : checkE off F T n G U m = wrongE F T n := by unfold checkE; rw [if_neg ho, if_pos hw]
      rw [he]
      obtain ⟨z, hz⟩ : ∃ z, wrongE F T n = z := ⟨_, rfl⟩
      have hz' : (z != 0) = true := by rw [← hz]; simpa using hw
      rw [hz] at hwr ⊢
      clear hS hR he ho B1 hlt hw HR HC c2 hz
      go_enter Try.func56, Try.ntmps56
      go_wp2_with fail
      refine hwr.mono ?_
      rintro e w2 ⟨rfl, hb2⟩
      have HB2 := Lib.hid (HB1.out.trans (hb2.mono HB1.out.size))
      clear hwr hb2 c0 c1
      go_wp2_with fail
      go_ret
      exact ⟨rfl, HB2.out⟩
theorem clock_in (off : Int) (a : Option Addr) (n ca : Nat) (b : Option Addr) (m cb : Nat) (F T G U : Nat → Int) (w : World) (hS : Sps w a n F T) (hR : Sps w b m G U) (hz : checkE off F T n G U m = 0) :
    Calls Try.prog 109 #[calV off a n ca b m cb] w (Clocked ⟨F, T, n, G, U, m, off⟩ w) := clock_ok ⟨F, T, n, G, U, m, off⟩ a ca b cb w (checkE_ok hz) hS hR
theorem until_none {F T : Nat → Int} (t : Int) : openB F T 0 t = false := by
  unfold openB
  simp [hasB]
theorem Cal.g_none {D : Cal} (hn : D.n = 0) {a b : Int} (h0 : 0 ≤ a) (h : a ≤ b) : D.g b = D.g a := by
  obtain ⟨k, rfl⟩ := up_to h
  clear h
  induction k with
  | zero => simp
  | succ k ih =>
    have h4 := D.g_step (a + k) (by omega)
    have h6 : D.opB (a + k) = false := by unfold Cal.opB; rw [hn, until_none]; simp
    rw [h6] at h4
    rw [show a + ((k + 1 : Nat) : Int) = a + k + 1 by omega, h4, ih]
    simp

/-- What is due, of a budget above zero: nothing, or the least. -/
theorem Cal.due_two {D : Cal} (hd : D.ok) {s y v er : Int} (h : D.Dues s y v er) (s0 : 0 ≤ s) (s1 : s ≤ 1125899906842624) (y0 : 1 ≤ y) :
    (v = 0 ∧ D.g 1125899906842624 - D.g s < y ∧ (er = 10 ∨ (er = 40 ∧ D.n = 0))) ∨ (er = 0 ∧ D.g v = D.g s + y ∧ D.opB (v - 1) = true ∧ s < v ∧ v ≤ 1125899906842624) := by
  rcases h with ⟨h, _, _⟩ | ⟨_, _, h, _⟩ | ⟨_, _, _, h, h2, h3⟩ | ⟨_, _, _, _, h⟩
  · omega
  · omega
  · have hn : D.n = 0 := by
      rcases Nat.eq_zero_or_pos D.n with hn | hn
      · exact hn
      · have := tsum_pos hd.wk.good hn
        omega
    have := D.g_none hn s0 s1
    exact .inl ⟨h2, by omega, .inr ⟨h3, hn⟩⟩
  · rcases h with ⟨h1, h2, h3⟩ | h
    · exact .inl ⟨h2, h3, .inl h1⟩
    · exact .inr h
/- Boxes that a call makes first; what stays where a block was. -/
open Go.RowKit
theorem heap_old (w : World) (o : Obj) {k : Nat} (h : k < w.heap.size) : (w.alloc o).heap[k]? = w.heap[k]? := ((Below.refl _ w).alloc (Nat.le_refl _) o).block k h
/-- Boxes that a call makes first. -/
theorem box1 (w : World) (A : Array Value) (ta : TypeId) : Below w.heap.size w (w.alloc (.cells A ta)) ∧ (w.alloc (.cells A ta)).heap[w.heap.size]? = some (.cells A ta (0, 0)) ∧ (w.alloc (.cells A ta)).heap.size = w.heap.size + 1 :=
  ⟨(Below.refl _ _).alloc (Nat.le_refl _) _, heap_alloc_new w _, World.size_alloc ..⟩
theorem box2 (w : World) (A B : Array Value) (ta tb : TypeId) : Below w.heap.size w ((w.alloc (.cells A ta)).alloc (.cells B tb)) ∧
    ((w.alloc (.cells A ta)).alloc (.cells B tb)).heap[w.heap.size]? = some (.cells A ta (0, 0)) ∧ ((w.alloc (.cells A ta)).alloc (.cells B tb)).heap[w.heap.size + 1]? = some (.cells B tb (0, 0)) ∧ ((w.alloc (.cells A ta)).alloc (.cells B tb)).heap.size = w.heap.size + 1 + 1 := by
  obtain ⟨h1, h2, h3⟩ := box1 w A ta
  obtain ⟨k1, k2, k3⟩ := box1 (w.alloc (.cells A ta)) B tb
  rw [h3] at k2 k3
  exact ⟨h1.trans (k1.mono h1.size), (heap_old _ _ (by rw [h3]; omega)).trans h2, k2, k3⟩
theorem box3 (w : World) (A B C : Array Value) (ta tb tc : TypeId) : Below w.heap.size w (((w.alloc (.cells A ta)).alloc (.cells B tb)).alloc (.cells C tc)) ∧
    (((w.alloc (.cells A ta)).alloc (.cells B tb)).alloc (.cells C tc)).heap[w.heap.size]? = some (.cells A ta (0, 0)) ∧ (((w.alloc (.cells A ta)).alloc (.cells B tb)).alloc (.cells C tc)).heap[w.heap.size + 1]? = some (.cells B tb (0, 0)) ∧
    (((w.alloc (.cells A ta)).alloc (.cells B tb)).alloc (.cells C tc)).heap[w.heap.size + 1 + 1]? = some (.cells C tc (0, 0)) ∧ (((w.alloc (.cells A ta)).alloc (.cells B tb)).alloc (.cells C tc)).heap.size = w.heap.size + 1 + 1 + 1 := by
  obtain ⟨h1, h2, h2', h3⟩ := box2 w A B ta tb
  obtain ⟨k1, k2, k3⟩ := box1 ((w.alloc (.cells A ta)).alloc (.cells B tb)) C tc
  rw [h3] at k2 k3
  exact ⟨h1.trans (k1.mono h1.size), (heap_old _ _ (by rw [h3]; omega)).trans h2, (heap_old _ _ (by rw [h3]; omega)).trans h2', k2, k3⟩
theorem box4 (w : World) (A B C E : Array Value) (ta tb tc te : TypeId) : Below w.heap.size w ((((w.alloc (.cells A ta)).alloc (.cells B tb)).alloc (.cells C tc)).alloc (.cells E te)) ∧
    ((((w.alloc (.cells A ta)).alloc (.cells B tb)).alloc (.cells C tc)).alloc (.cells E te)).heap[w.heap.size]? = some (.cells A ta (0, 0)) ∧ ((((w.alloc (.cells A ta)).alloc (.cells B tb)).alloc (.cells C tc)).alloc (.cells E te)).heap[w.heap.size + 1]? = some (.cells B tb (0, 0)) ∧
    ((((w.alloc (.cells A ta)).alloc (.cells B tb)).alloc (.cells C tc)).alloc (.cells E te)).heap[w.heap.size + 1 + 1]? = some (.cells C tc (0, 0)) ∧ ((((w.alloc (.cells A ta)).alloc (.cells B tb)).alloc (.cells C tc)).alloc (.cells E te)).heap[w.heap.size + 1 + 1 + 1]? = some (.cells E te (0, 0)) ∧
    ((((w.alloc (.cells A ta)).alloc (.cells B tb)).alloc (.cells C tc)).alloc (.cells E te)).heap.size = w.heap.size + 1 + 1 + 1 + 1 := by
  obtain ⟨h1, h2, h2', h2'', h3⟩ := box3 w A B C ta tb tc
  obtain ⟨k1, k2, k3⟩ := box1 (((w.alloc (.cells A ta)).alloc (.cells B tb)).alloc (.cells C tc)) E te
  rw [h3] at k2 k3
  exact ⟨h1.trans (k1.mono h1.size), (heap_old _ _ (by rw [h3]; omega)).trans h2, (heap_old _ _ (by rw [h3]; omega)).trans h2', (heap_old _ _ (by rw [h3]; omega)).trans h2'', k2, k3⟩

theorem ex_lt {w : World} {T : Nat} {o : Obj} (h : w.heap[T]? = some o) : T < w.heap.size := (Array.getElem?_eq_some_iff.mp h).1
theorem ex_below {w w' : World} {T : Nat} {o : Obj} (h : w.heap[T]? = some o) (hb : Below w.heap.size w w') : w'.heap[T]? = some o := (hb.block T (ex_lt h)).trans h
end Go.Proofs.Ytibjboacjobaoaa

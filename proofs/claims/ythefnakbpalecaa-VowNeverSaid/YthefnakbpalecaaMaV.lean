import Derived.Test.YthefnakbpalecaaVyN
import Derived.Test.YthefnakbpalecaaMaO
import Derived.Test.YthefnakbpalecaaDoA
import Derived.Deep.DeepCutAuto
namespace Go.Proofs.Ythefnakbpalecaa
open Go.RowKit
/- The vow: which states are sound, both ways. -/
open Go.RowKit Go.Maps
/-- A state that a node can have. -/
def sdB (t v : Int) : Bool := decide (t ≤ 1152921504606846976) && (decide (-1 ≤ v) && decide (v ≤ 6))
theorem vsound_any (t v : Int) (w : World) : Calls Try.prog 27 #[.agg #[.int .u64 t, .int .i64 v]] w fun e w' => e = .returned (.bool (sdB t v)) ∧ Below w.heap.size w w' := by
  obtain ⟨B1, so, -⟩ := box1 w #[.int .u64 t, .int .i64 v] 48
  obtain ⟨N, hN⟩ : ∃ N, w.heap.size = N := ⟨_, rfl⟩
  rw [hN] at so
  have HB := Lib.hid B1
  have HS := Lib.hid so
  clear B1 so
  go_enter Try.func27, Try.ntmps27
  go_upto_region 1 with fail
  try rw [hN]
  clear hN
  generalize w.alloc (.cells #[.int .u64 t, .int .i64 v] 48) = w1 at HB HS ⊢
  obtain ⟨c0, c1⟩ := two_rd HS.out
  by_cases h1 : t ≤ 1152921504606846976
  · by_cases h2 : -1 ≤ v
    · by_cases h3 : v ≤ 6
      · have g1 : decide (t ≤ 1152921504606846976) = true := decide_eq_true h1
        have g2 : decide (-1 ≤ v) = true := decide_eq_true h2
        have g3 : decide (v ≥ -1) = true := decide_eq_true h2
        have g4 : decide (v ≤ 6) = true := decide_eq_true h3
        have g5 : decide (v < 7) = true := decide_eq_true (by omega)
        have HV : Hid (sdB t v = true) := Lib.hid (by unfold sdB; simp; omega)
        go_wp2_with fail
        go_ret
        exact ⟨by rw [HV.out]; rfl, HB.out⟩
      · have g1 : decide (t ≤ 1152921504606846976) = true := decide_eq_true h1
        have g2 : decide (-1 ≤ v) = true := decide_eq_true h2
        have g3 : decide (v ≥ -1) = true := decide_eq_true h2
        have g4 : decide (v ≤ 6) = false := decide_eq_false h3
        have g5 : decide (v < 7) = false := decide_eq_false (by omega)
        have HV : Hid (sdB t v = false) := Lib.hid (by unfold sdB; simp; omega)
        go_wp2_with fail
        go_ret
        exact ⟨by rw [HV.out]; rfl, HB.out⟩
    · have g1 : decide (t ≤ 1152921504606846976) = true := decide_eq_true h1
      have g2 : decide (-1 ≤ v) = false := decide_eq_false h2
      have g3 : decide (v ≥ -1) = false := decide_eq_false h2
      have HV : Hid (sdB t v = false) := Lib.hid (by unfold sdB; simp; omega)
      go_wp2_with fail
      go_ret
      exact ⟨by rw [HV.out]; rfl, HB.out⟩
  · have g1 : decide (t ≤ 1152921504606846976) = false := decide_eq_false h1
    have HV : Hid (sdB t v = false) := Lib.hid (by unfold sdB; simp; omega)
    go_wp2_with fail
    go_ret
    exact ⟨by rw [HV.out]; rfl, HB.out⟩
theorem rvsound_any (t v : Int) (w : World) : Calls Try.prog 28 #[.agg #[.int .u64 t, .int .i64 v]] w fun e w' => e = .returned (.bool (sdB t v)) ∧ Below w.heap.size w w' := by
  obtain ⟨B1, so, -⟩ := box1 w #[.int .u64 t, .int .i64 v] 51
  obtain ⟨N, hN⟩ : ∃ N, w.heap.size = N := ⟨_, rfl⟩
  rw [hN] at so
  have HB := Lib.hid B1
  have HS := Lib.hid so
  clear B1 so
  go_enter Try.func28, Try.ntmps28
  go_upto_region 1 with fail
  try rw [hN]
  clear hN
  generalize w.alloc (.cells #[.int .u64 t, .int .i64 v] 51) = w1 at HB HS ⊢
  obtain ⟨c0, c1⟩ := two_rd HS.out
  by_cases h1 : t ≤ 1152921504606846976
  · by_cases h2 : -1 ≤ v
    · by_cases h3 : v ≤ 6
      · have g1 : decide (t ≤ 1152921504606846976) = true := decide_eq_true h1
        have g2 : decide (-1 ≤ v) = true := decide_eq_true h2
        have g3 : decide (v ≥ -1) = true := decide_eq_true h2
        have g4 : decide (v ≤ 6) = true := decide_eq_true h3
        have g5 : decide (v < 7) = true := decide_eq_true (by omega)
        have HV : Hid (sdB t v = true) := Lib.hid (by unfold sdB; simp; omega)
        go_wp2_with fail
        go_ret
        exact ⟨by rw [HV.out]; rfl, HB.out⟩
      · have g1 : decide (t ≤ 1152921504606846976) = true := decide_eq_true h1
        have g2 : decide (-1 ≤ v) = true := decide_eq_true h2
        have g3 : decide (v ≥ -1) = true := decide_eq_true h2
        have g4 : decide (v ≤ 6) = false := decide_eq_false h3
        have g5 : decide (v < 7) = false := decide_eq_false (by omega)
        have HV : Hid (sdB t v = false) := Lib.hid (by unfold sdB; simp; omega)
        go_wp2_with fail
        go_ret
        exact ⟨by rw [HV.out]; rfl, HB.out⟩
    · have g1 : decide (t ≤ 1152921504606846976) = true := decide_eq_true h1
      have g2 : decide (-1 ≤ v) = false := decide_eq_false h2
      have g3 : decide (v ≥ -1) = false := decide_eq_false h2
      have HV : Hid (sdB t v = false) := Lib.hid (by unfold sdB; simp; omega)
      go_wp2_with fail
      go_ret
      exact ⟨by rw [HV.out]; rfl, HB.out⟩
  · have g1 : decide (t ≤ 1152921504606846976) = false := decide_eq_false h1
    have HV : Hid (sdB t v = false) := Lib.hid (by unfold sdB; simp; omega)
    go_wp2_with fail
    go_ret
    exact ⟨by rw [HV.out]; rfl, HB.out⟩
/- The vow: which state may follow, both ways. -/
open Go.RowKit Go.Maps
def mayB (t v t1 v1 : Int) : Bool := sdB t v && (sdB t1 v1 && (decide (t < t1) || (decide (t1 = t) && (decide (v1 = v) || decide (v = -1)))))
theorem vmay_any (t v t1 v1 : Int) (w : World) : Calls Try.prog 29 #[.agg #[.int .u64 t, .int .i64 v], .agg #[.int .u64 t1, .int .i64 v1]] w fun e w' => e = .returned (.bool (mayB t v t1 v1)) ∧ Below w.heap.size w w' := by
  obtain ⟨B1, s0, s1, -⟩ := box2 w #[.int .u64 t, .int .i64 v] #[.int .u64 t1, .int .i64 v1] 48 48
  obtain ⟨N, hN⟩ : ∃ N, w.heap.size = N := ⟨_, rfl⟩
  rw [hN] at s0 s1
  have HB := Lib.hid B1
  have HS := Lib.hid (And.intro s0 s1)
  clear B1 s0 s1
  go_enter Try.func29, Try.ntmps29
  go_upto_region 1 with fail
  try rw [hN]
  clear hN
  generalize (w.alloc (.cells #[.int .u64 t, .int .i64 v] 48)).alloc (.cells #[.int .u64 t1, .int .i64 v1] 48) = w1 at HB HS ⊢
  obtain ⟨c0, c1⟩ := two_rd HS.out.1
  obtain ⟨k0, k1⟩ := two_rd HS.out.2
  have HX := Lib.hid (vsound_any t v w1)
  cases ha : sdB t v with
  | false =>
    have HV : Hid (mayB t v t1 v1 = false) := Lib.hid (by unfold mayB; rw [ha]; rfl)
    rw [ha] at HX
    go_wp2_with fail
    refine HX.out.mono ?_
    rintro e w2 ⟨rfl, hb⟩
    have HB2 := Lib.hid (HB.out.trans (hb.mono HB.out.size))
    clear hb
    go_wp2_with fail
    go_ret
    exact ⟨by rw [HV.out]; rfl, HB2.out⟩
  | true =>
    rw [ha] at HX
    go_wp2_with fail
    refine HX.out.mono ?_
    rintro e w2 ⟨rfl, hb⟩
    have HB2 := Lib.hid (HB.out.trans (hb.mono HB.out.size))
    have HS2 := Lib.hid (And.intro (ex_below HS.out.1 hb) (ex_below HS.out.2 hb))
    clear hb HX c0 c1 k0 k1
    obtain ⟨c0, c1⟩ := two_rd HS2.out.1
    obtain ⟨k0, k1⟩ := two_rd HS2.out.2
    have HY := Lib.hid (vsound_any t1 v1 w2)
    cases hb1 : sdB t1 v1 with
    | false =>
      have HV : Hid (mayB t v t1 v1 = false) := Lib.hid (by unfold mayB; rw [ha, hb1]; rfl)
      rw [hb1] at HY
      go_wp2_with fail
      refine HY.out.mono ?_
      rintro e w3 ⟨rfl, hb⟩
      have HB_d := Lib.hid (HB2.out.trans (hb.mono HB2.out.size))
      clear hb
      go_wp2_with fail
      go_ret
      exact ⟨by rw [HV.out]; rfl, HB_d.out⟩
    | true =>
      have HM : Hid (mayB t v t1 v1 = (decide (t < t1) || (decide (t1 = t) && (decide (v1 = v) || decide (v = -1))))) := Lib.hid (by unfold mayB; rw [ha, hb1]; rfl)
      rw [hb1] at HY
      go_wp2_with fail
      refine HY.out.mono ?_
      rintro e w3 ⟨rfl, hb⟩
      have HB_d := Lib.hid (HB2.out.trans (hb.mono HB2.out.size))
      have HS3 := Lib.hid (And.intro (ex_below HS2.out.1 hb) (ex_below HS2.out.2 hb))
      clear hb HY c0 c1 k0 k1 ha hb1
      obtain ⟨c0, c1⟩ := two_rd HS3.out.1
      obtain ⟨k0, k1⟩ := two_rd HS3.out.2
      rcases Int.lt_trichotomy t t1 with h | h | h
      · have g0 : decide (t1 > t) = true := decide_eq_true h
        have g1 : decide (t < t1) = true := decide_eq_true h
        have g2 : decide (t1 = t) = false := decide_eq_false (by omega)
        have g3 : (t1 == t) = false := by simp; omega
        go_wp2_with fail
        go_ret
        exact ⟨by rw [HM.out, g1]; rfl, HB_d.out⟩
      · subst h
        have g0 : decide (t > t) = false := decide_eq_false (by omega)
        have g1 : decide (t < t) = false := decide_eq_false (by omega)
        by_cases hv : v1 = v
        · subst hv
          go_wp2_with fail
          go_ret
          exact ⟨by rw [HM.out]; simp, HB_d.out⟩
        · have g2 : decide (v1 = v) = false := decide_eq_false hv
          have g3 : (v1 == v) = false := by simp; omega
          by_cases hn : v = -1
          · subst hn
            go_wp2_with fail
            go_ret
            exact ⟨by rw [HM.out]; simp, HB_d.out⟩
          · have g4 : decide (v = -1) = false := decide_eq_false hn
            have g5 : (v == -1) = false := by simp; omega
            go_wp2_with fail
            go_ret
            exact ⟨by rw [HM.out, g2, g4, g1]; simp, HB_d.out⟩
      · have g0 : decide (t1 > t) = false := decide_eq_false (by omega)
        have g1 : decide (t < t1) = false := decide_eq_false (by omega)
        have g2 : decide (t1 = t) = false := decide_eq_false (by omega)
        have g3 : (t1 == t) = false := by simp; omega
        go_wp2_with fail
        go_ret
        exact ⟨by rw [HM.out, g1, g2]; rfl, HB_d.out⟩
theorem rvmay_any (t v t1 v1 : Int) (w : World) : Calls Try.prog 30 #[.agg #[.int .u64 t, .int .i64 v], .agg #[.int .u64 t1, .int .i64 v1]] w fun e w' => e = .returned (.bool (mayB t v t1 v1)) ∧ Below w.heap.size w w' := by
  obtain ⟨B1, s0, s1, -⟩ := box2 w #[.int .u64 t, .int .i64 v] #[.int .u64 t1, .int .i64 v1] 51 51
  obtain ⟨N, hN⟩ : ∃ N, w.heap.size = N := ⟨_, rfl⟩
  rw [hN] at s0 s1
  have HB := Lib.hid B1
  have HS := Lib.hid (And.intro s0 s1)
  clear B1 s0 s1
  go_enter Try.func30, Try.ntmps30
  go_upto_region 1 with fail
  try rw [hN]
  clear hN
  generalize (w.alloc (.cells #[.int .u64 t, .int .i64 v] 51)).alloc (.cells #[.int .u64 t1, .int .i64 v1] 51) = w1 at HB HS ⊢
  obtain ⟨c0, c1⟩ := two_rd HS.out.1
  obtain ⟨k0, k1⟩ := two_rd HS.out.2
  have HX := Lib.hid (rvsound_any t v w1)
  cases ha : sdB t v with
  | false =>
    have HV : Hid (mayB t v t1 v1 = false) := Lib.hid (by unfold mayB; rw [ha]; rfl)
    rw [ha] at HX
    go_wp2_with fail
    refine HX.out.mono ?_
    rintro e w2 ⟨rfl, hb⟩
    have HB2 := Lib.hid (HB.out.trans (hb.mono HB.out.size))
    clear hb
    go_wp2_with fail
    go_ret
    exact ⟨by rw [HV.out]; rfl, HB2.out⟩
  | true =>
    rw [ha] at HX
    go_wp2_with fail
    refine HX.out.mono ?_
    rintro e w2 ⟨rfl, hb⟩
    have HB2 := Lib.hid (HB.out.trans (hb.mono HB.out.size))
    have HS2 := Lib.hid (And.intro (ex_below HS.out.1 hb) (ex_below HS.out.2 hb))
    clear hb HX c0 c1 k0 k1
    obtain ⟨c0, c1⟩ := two_rd HS2.out.1
    obtain ⟨k0, k1⟩ := two_rd HS2.out.2
    have HY := Lib.hid (rvsound_any t1 v1 w2)
    cases hb1 : sdB t1 v1 with
    | false =>
      have HV : Hid (mayB t v t1 v1 = false) := Lib.hid (by unfold mayB; rw [ha, hb1]; rfl)
      rw [hb1] at HY
      go_wp2_with fail
      refine HY.out.mono ?_
      rintro e w3 ⟨rfl, hb⟩
      have HB_d := Lib.hid (HB2.out.trans (hb.mono HB2.out.size))
      clear hb
      go_wp2_with fail
      go_ret
      exact ⟨by rw [HV.out]; rfl, HB_d.out⟩
    | true =>
      have HM : Hid (mayB t v t1 v1 = (decide (t < t1) || (decide (t1 = t) && (decide (v1 = v) || decide (v = -1))))) := Lib.hid (by unfold mayB; rw [ha, hb1]; rfl)
      rw [hb1] at HY
      go_wp2_with fail
      refine HY.out.mono ?_
      rintro e w3 ⟨rfl, hb⟩
      have HB_d := Lib.hid (HB2.out.trans (hb.mono HB2.out.size))
      have HS3 := Lib.hid (And.intro (ex_below HS2.out.1 hb) (ex_below HS2.out.2 hb))
      clear hb HY c0 c1 k0 k1 ha hb1
      obtain ⟨c0, c1⟩ := two_rd HS3.out.1
      obtain ⟨k0, k1⟩ := two_rd HS3.out.2
      rcases Int.lt_trichotomy t t1 with h | h | h
      · have g0 : decide (t1 > t) = true := decide_eq_true h
        have g1 : decide (t < t1) = true := decide_eq_true h
        have g2 : decide (t1 = t) = false := decide_eq_false (by omega)
        have g3 : (t1 == t) = false := by simp; omega
        go_wp2_with fail
        go_ret
        exact ⟨by rw [HM.out, g1]; rfl, HB_d.out⟩
      · subst h
        have g0 : decide (t > t) = false := decide_eq_false (by omega)
        have g1 : decide (t < t) = false := decide_eq_false (by omega)
        by_cases hv : v1 = v
        · subst hv
          go_wp2_with fail
          go_ret
          exact ⟨by rw [HM.out]; simp, HB_d.out⟩
        · have g2 : decide (v1 = v) = false := decide_eq_false hv
          have g3 : (v1 == v) = false := by simp; omega
          by_cases hn : v = -1
          · subst hn
            go_wp2_with fail
            go_ret
            exact ⟨by rw [HM.out]; simp, HB_d.out⟩
          · have g4 : decide (v = -1) = false := decide_eq_false hn
            have g5 : (v == -1) = false := by simp; omega
            go_wp2_with fail
            go_ret
            exact ⟨by rw [HM.out, g2, g4, g1]; simp, HB_d.out⟩
      · have g0 : decide (t1 > t) = false := decide_eq_false (by omega)
        have g1 : decide (t < t1) = false := decide_eq_false (by omega)
        have g2 : decide (t1 = t) = false := decide_eq_false (by omega)
        have g3 : (t1 == t) = false := by simp; omega
        go_wp2_with fail
        go_ret
        exact ⟨by rw [HM.out, g1, g2]; rfl, HB_d.out⟩
/- The vow: its small calls: discard, none, opened, State. -/
open Go.RowKit Go.Maps
def nNew : Nm := [118, 111, 119, 46, 110, 101, 119]
def nVow : Nm := [118, 111, 119]
/-- What discarding makes of a disk. -/
def discD (D : Dd) : Dd × Int := ((removeD D nNew).1, if (removeD D nNew).2 = 31 then 0 else (removeD D nNew).2)
theorem discard_any {S : Nat → Prop} {w : World} {B m mt : Nat} {D : Dd} {M : Lit → Option Value} {V : Nm → Value} (h : DKx S w B m mt D M V) (hst : D.st < 1000000000) : Calls Try.prog 78 #[.pointer (some ⟨B, 0, none⟩)] w fun e w' => Did S w B e w' (discD D) := by
  have HC := Lib.hid (dremove_any h (n := nNew) (by decide) hst)
  obtain ⟨r, hr⟩ : ∃ r, removeD D nNew = r := ⟨_, rfl⟩
  obtain ⟨D1, k⟩ := r
  rw [hr] at HC
  have HR : Hid (discD D = (D1, if k = 31 then 0 else k)) := Lib.hid (by unfold discD; rw [hr])
  clear hr h
  go_enter Try.func78, Try.ntmps78
  by_cases hk : k = 31
  · have HR2 : Hid (discD D = (D1, 0)) := Lib.hid (by rw [HR.out, if_pos hk])
    subst hk
    go_wp2_with fail
    refine HC.out.mono ?_
    rintro e w1 ⟨S1, rfl, hd, hf⟩
    have HD := Lib.hid hd
    have HF := Lib.hid hf
    clear hd hf HC HR
    go_wp2_with fail
    go_ret
    rw [HR2.out]
    exact ⟨S1, rfl, HD.out, HF.out⟩
  · have HR2 : Hid (discD D = (D1, k)) := Lib.hid (by rw [HR.out, if_neg hk])
    have g0 : decide (k = 31) = false := decide_eq_false hk
    have g1 : (k == 31) = false := by simp; omega
    go_wp2_with fail
    refine HC.out.mono ?_
    rintro e w1 ⟨S1, rfl, hd, hf⟩
    have HD := Lib.hid hd
    have HF := Lib.hid hf
    clear hd hf HC HR
    go_wp2_with fail
    go_ret
    rw [HR2.out]
    exact ⟨S1, rfl, HD.out, HF.out⟩
/- The vow: a book in memory; opened, State. -/
open Go.RowKit Go.Maps
/-- A book of the disk at block B, with a state. -/
def BK (w : World) (b B : Nat) (t v : Int) : Prop := w.heap[b]? = some (.cells #[.pointer (some ⟨B, 0, none⟩), .int .u64 t, .int .i64 v] 73 (0, 0))
/-- A book that is nil, or that no call made. -/
def NoB (w : World) (x : Value) : Prop := x = .pointer none ∨ ∃ b, x = .pointer (some ⟨b, 0, none⟩) ∧ w.cell? ⟨b, 0, none⟩ = some (.pointer none)
theorem NoB.below {w w' : World} {x : Value} (h : NoB w x) (hb : Below w.heap.size w w') : NoB w' x := by
  rcases h with rfl | ⟨b, rfl, h⟩
  · exact .inl rfl
  · exact .inr ⟨b, rfl, (hb.cell (p := ⟨b, 0, none⟩) (cell_spot h).2).trans h⟩
theorem vopened_no (x : Value) (w : World) (h : NoB w x) : Calls Try.prog 86 #[x] w fun e w' => e = .returned (.bool false) ∧ w = w' := by
  rcases h with rfl | ⟨b, rfl, h⟩
  · go_enter Try.func86, Try.ntmps86
    go_wp2_with fail
    go_ret
    exact ⟨rfl, rfl⟩
  · go_enter Try.func86, Try.ntmps86
    go_wp2_with fail
    go_ret
    exact ⟨rfl, rfl⟩
theorem vopened_yes {w : World} {b B : Nat} {t v : Int} (h : BK w b B t v) : Calls Try.prog 86 #[.pointer (some ⟨b, 0, none⟩)] w fun e w' => e = .returned (.bool true) ∧ w = w' := by
  obtain ⟨c0, c1, c2⟩ := three_rd h
  clear h
  go_enter Try.func86, Try.ntmps86
  go_wp2_with fail
  go_ret
  exact ⟨rfl, rfl⟩
set_option maxRecDepth 100000 in
theorem vstate_yes {w : World} {b B : Nat} {t v : Int} (h : BK w b B t v) : Calls Try.prog 35 #[.pointer (some ⟨b, 0, none⟩)] w fun e w' => e = .returned (.agg #[.int .u64 t, .int .i64 v]) ∧ Below w.heap.size w w' := by
  obtain ⟨B1, s1, -⟩ := box1 w #[.int .u64 0, .int .i64 0] 48
  have HK := Lib.hid (ex_below h B1)
  obtain ⟨c0, c1, c2⟩ := three_rd (ex_below h B1)
  obtain ⟨p0, p1⟩ := two_rd s1
  have HB := Lib.hid B1
  have HS1 := Lib.hid s1
  clear B1 s1 h
  go_enter Try.func35, Try.ntmps35
  go_upto_region 1 with fail
  obtain ⟨N, hN⟩ : ∃ N, w.heap.size = N := ⟨_, rfl⟩
  have HN := Lib.hid hN
  rw [hN] at p0 p1 HS1
  try rw [hN]
  clear hN
  generalize w.alloc (.cells #[.int .u64 0, .int .i64 0] 48) = w1 at p0 p1 c0 c1 c2 HS1 HB HK ⊢
  have f1 : ∀ o, w1.frozen? ⟨N, o, none⟩ = false := fun o => by simp [World.frozen?, HS1.out]
  go_wp2_with fail
  refine (vopened_yes HK.out).mono ?_
  rintro e w2 ⟨rfl, rfl⟩
  go_wp2_with fail
  refine bodyPost_ret (vs_res rfl _ _ N (.int .u64 t) (.int .i64 v) rfl (by go_simp) (by go_simp)) rfl ?_
  have hN := HN.out
  refine ⟨rfl, ?_⟩
  exact below_two (below_two (HB.out) (by omega) _ _) (by omega) _ _
set_option maxRecDepth 100000 in
theorem vstate_no (x : Value) (w : World) (h : NoB w x) : Calls Try.prog 35 #[x] w fun e w' => e = .returned (.agg #[.int .u64 0, .int .i64 (-1)]) ∧ Below w.heap.size w w' := by
  obtain ⟨B1, s1, -⟩ := box1 w #[.int .u64 0, .int .i64 0] 48
  have HK := Lib.hid (h.below B1)
  have HB := Lib.hid B1
  have HS1 := Lib.hid s1
  clear B1 s1 h
  go_enter Try.func35, Try.ntmps35
  go_upto_region 1 with fail
  obtain ⟨N, hN⟩ : ∃ N, w.heap.size = N := ⟨_, rfl⟩
  have HN := Lib.hid hN
  rw [hN] at HS1
  try rw [hN]
  clear hN
  generalize w.alloc (.cells #[.int .u64 0, .int .i64 0] 48) = w1 at HS1 HB HK ⊢
  go_wp2_with fail
  refine (vopened_no x _ HK.out).mono ?_
  rintro e w2 ⟨rfl, rfl⟩
  go_wp2_with fail
  refine (vnone_any _).mono ?_
  rintro e w3 ⟨rfl, hb⟩
  have HS3 := Lib.hid (ex_below HS1.out hb)
  have HB3 := Lib.hid (HB.out.trans (hb.mono HB.out.size))
  clear hb
  obtain ⟨p0, p1⟩ := two_rd HS3.out
  have f1 : ∀ o, w3.frozen? ⟨N, o, none⟩ = false := fun o => by simp [World.frozen?, HS3.out]
  go_wp2_with fail
  refine bodyPost_ret (vs_res rfl _ _ N (.int .u64 0) (.int .i64 (-1)) rfl (by go_simp) (by go_simp)) rfl ?_
  have hN := HN.out
  refine ⟨rfl, ?_⟩
  exact below_two (below_two (HB3.out) (by omega) _ _) (by omega) _ _
end Go.Proofs.Ythefnakbpalecaa

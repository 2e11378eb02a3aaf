/- The reference's Due of a calendar. -/
import Derived.Test.YtfeegohjgecjgaaCaV
namespace Go.Proofs.Ytfeegohjgecjgaa
open Go.RowKit
set_option maxRecDepth 100000 in
set_option maxHeartbeats 8000000 in
theorem rdue_bad {D : Cal} (hd : D.ok) (a : Option Addr) (ca : Nat) (b : Option Addr) (cb : Nat) (s y : Int) (w : World) (hS : Sps w a D.n D.F D.T) (hR : Sps w b D.m D.G D.U) (hb : ¬ (instB s = true ∧ 0 ≤ y)) :
    Calls Try.prog 43 #[calV D.off a D.n ca b D.m cb, .int .i64 s, .int .i64 y] w fun e w' => (∃ v er, e = .returned (.tuple #[.int .i64 v, .int .i64 er]) ∧ D.Dues s y v er) ∧ Below w.heap.size w w' := by
  obtain ⟨off, ho⟩ : ∃ o, D.off = o := ⟨_, rfl⟩
  have B1 : Below w.heap.size w (w.alloc (.cells #[.int .i64 off, .slice a D.n ca, .slice b D.m cb] 53)) := (Below.refl _ _).alloc (Nat.le_refl _) _
  have c0 : (w.alloc (.cells #[.int .i64 off, .slice a D.n ca, .slice b D.m cb] 53)).cell? ⟨w.heap.size, 0, none⟩ = some (.int .i64 off) := by simp
  have c1 : (w.alloc (.cells #[.int .i64 off, .slice a D.n ca, .slice b D.m cb] 53)).cell? ⟨w.heap.size, 1, none⟩ = some (.slice a D.n ca) := by simp
  have c2 : (w.alloc (.cells #[.int .i64 off, .slice a D.n ca, .slice b D.m cb] 53)).cell? ⟨w.heap.size, 2, none⟩ = some (.slice b D.m cb) := by simp
  have hlt : w.heap.size < (w.alloc (.cells #[.int .i64 off, .slice a D.n ca, .slice b D.m cb] 53)).heap.size := by simp
  have HB1 := Lib.hid B1
  have HD := Lib.hid (show D.Dues s y 0 2 from .inl ⟨fun h => hb ⟨(instB_iff s).2 ⟨h.1, h.2.1⟩, h.2.2⟩, rfl, rfl⟩)
  have hi1 := rinstant_any s
  obtain ⟨bx, ex⟩ : ∃ b, instB s = b := ⟨_, rfl⟩
  rw [ex] at hi1
  have HI1 := Lib.hid hi1
  rw [ho]
  cases bx
  case false =>
    unfold calV
    clear hd hS hR hb ex B1 ho hi1 hlt
    go_enter Try.func43, Try.ntmps43
    go_wp2_with fail
    refine (HI1.out _).mono ?_
    rintro e w2 ⟨rfl, rfl⟩
    go_wp2_with fail
    go_ret2
    exact ⟨⟨_, _, rfl, HD.out⟩, HB1.out⟩
  case true =>
    have d1 : decide (y < 0) = true := decide_eq_true (by
      rcases Int.lt_or_le y 0 with h | h
      · exact h
      · exact absurd ⟨ex, h⟩ hb)
    unfold calV
    clear hd hS hR hb ex B1 ho hi1 hlt
    go_enter Try.func43, Try.ntmps43
    go_wp2_with fail
    refine (HI1.out _).mono ?_
    rintro e w2 ⟨rfl, rfl⟩
    go_wp2_with fail
    go_ret2
    exact ⟨⟨_, _, rfl, HD.out⟩, HB1.out⟩
set_option maxRecDepth 100000 in
set_option maxHeartbeats 8000000 in
theorem rdue_zero {D : Cal} (hd : D.ok) (a : Option Addr) (ca : Nat) (b : Option Addr) (cb : Nat) (s y : Int) (w : World) (hS : Sps w a D.n D.F D.T) (hR : Sps w b D.m D.G D.U) (hs : instB s = true) (hy : y = 0) :
    Calls Try.prog 43 #[calV D.off a D.n ca b D.m cb, .int .i64 s, .int .i64 y] w fun e w' => (∃ v er, e = .returned (.tuple #[.int .i64 v, .int .i64 er]) ∧ D.Dues s y v er) ∧ Below w.heap.size w w' := by
  obtain ⟨off, ho⟩ : ∃ o, D.off = o := ⟨_, rfl⟩
  have B1 : Below w.heap.size w (w.alloc (.cells #[.int .i64 off, .slice a D.n ca, .slice b D.m cb] 53)) := (Below.refl _ _).alloc (Nat.le_refl _) _
  have c0 : (w.alloc (.cells #[.int .i64 off, .slice a D.n ca, .slice b D.m cb] 53)).cell? ⟨w.heap.size, 0, none⟩ = some (.int .i64 off) := by simp
  have c1 : (w.alloc (.cells #[.int .i64 off, .slice a D.n ca, .slice b D.m cb] 53)).cell? ⟨w.heap.size, 1, none⟩ = some (.slice a D.n ca) := by simp
  have c2 : (w.alloc (.cells #[.int .i64 off, .slice a D.n ca, .slice b D.m cb] 53)).cell? ⟨w.heap.size, 2, none⟩ = some (.slice b D.m cb) := by simp
  have hlt : w.heap.size < (w.alloc (.cells #[.int .i64 off, .slice a D.n ca, .slice b D.m cb] 53)).heap.size := by simp
  have HB1 := Lib.hid B1
  obtain ⟨s0, s1⟩ := (instB_iff s).1 hs
  have HD := Lib.hid (show D.Dues s y s 0 from .inr (.inl ⟨s0, s1, hy, rfl, rfl⟩))
  have hi1 := rinstant_any s
  rw [hs] at hi1
  have HI1 := Lib.hid hi1
  have d1 : decide (y < 0) = false := decide_eq_false (by omega)
  have d2 : (y == 0) = true := by simpa using hy
  rw [ho]
  unfold calV
  clear hd hS hR B1 ho hi1 hlt hy hs
  go_enter Try.func43, Try.ntmps43
  go_wp2_with fail
  refine (HI1.out _).mono ?_
  rintro e w2 ⟨rfl, rfl⟩
  go_wp2_with fail
  go_ret2
  exact ⟨⟨_, _, rfl, HD.out⟩, HB1.out⟩
set_option maxRecDepth 100000 in
set_option maxHeartbeats 8000000 in
theorem rdue_closed {D : Cal} (hd : D.ok) (a : Option Addr) (ca : Nat) (b : Option Addr) (cb : Nat) (s y : Int) (w : World) (hS : Sps w a D.n D.F D.T) (hR : Sps w b D.m D.G D.U) (hs : instB s = true) (hy : 0 < y) (ht : tsum D.F D.T D.n = 0) :
    Calls Try.prog 43 #[calV D.off a D.n ca b D.m cb, .int .i64 s, .int .i64 y] w fun e w' => (∃ v er, e = .returned (.tuple #[.int .i64 v, .int .i64 er]) ∧ D.Dues s y v er) ∧ Below w.heap.size w w' := by
  obtain ⟨off, ho⟩ : ∃ o, D.off = o := ⟨_, rfl⟩
  have B1 : Below w.heap.size w (w.alloc (.cells #[.int .i64 off, .slice a D.n ca, .slice b D.m cb] 53)) := (Below.refl _ _).alloc (Nat.le_refl _) _
  have c0 : (w.alloc (.cells #[.int .i64 off, .slice a D.n ca, .slice b D.m cb] 53)).cell? ⟨w.heap.size, 0, none⟩ = some (.int .i64 off) := by simp
  have c1 : (w.alloc (.cells #[.int .i64 off, .slice a D.n ca, .slice b D.m cb] 53)).cell? ⟨w.heap.size, 1, none⟩ = some (.slice a D.n ca) := by simp
  have c2 : (w.alloc (.cells #[.int .i64 off, .slice a D.n ca, .slice b D.m cb] 53)).cell? ⟨w.heap.size, 2, none⟩ = some (.slice b D.m cb) := by simp
  have hlt : w.heap.size < (w.alloc (.cells #[.int .i64 off, .slice a D.n ca, .slice b D.m cb] 53)).heap.size := by simp
  have HB1 := Lib.hid B1
  obtain ⟨s0, s1⟩ := (instB_iff s).1 hs
  have HD := Lib.hid (show D.Dues s y 0 40 from .inr (.inr (.inl ⟨s0, s1, hy, ht, rfl, rfl⟩)))
  have hi1 := rinstant_any s
  rw [hs] at hi1
  have HI1 := Lib.hid hi1
  have d1 : decide (y < 0) = false := decide_eq_false (by omega)
  have d2 : (y == 0) = false := by simp; omega
  have hlen := rlen_any a D.n ca D.F D.T _ (hS.kept B1) hd.wk.len hd.wk.good
  rw [ht] at hlen
  rw [ho]
  unfold calV
  clear hd hS hR B1 ho hi1 hlt hy hs ht
  go_enter Try.func43, Try.ntmps43
  go_wp2_with fail
  refine (HI1.out _).mono ?_
  rintro e w2 ⟨rfl, rfl⟩
  go_wp2_with fail
  refine hlen.mono ?_
  rintro e w2 ⟨rfl, hb2⟩
  have HB2 := Lib.hid (HB1.out.trans (hb2.mono HB1.out.size))
  clear hlen hb2
  go_wp2_with fail
  go_ret2
  exact ⟨⟨_, _, rfl, HD.out⟩, HB2.out⟩
set_option maxRecDepth 100000 in
set_option maxHeartbeats 8000000 in
theorem rdue_open {D : Cal} (hd : D.ok) (a : Option Addr) (ca : Nat) (b : Option Addr) (cb : Nat) (s y : Int) (w : World) (hS : Sps w a D.n D.F D.T) (hR : Sps w b D.m D.G D.U) (hs : instB s = true) (hy : 0 < y) (hy1 : y ≤ 9223372036854775807) (ht : tsum D.F D.T D.n ≠ 0) :
    Calls Try.prog 43 #[calV D.off a D.n ca b D.m cb, .int .i64 s, .int .i64 y] w fun e w' => (∃ v er, e = .returned (.tuple #[.int .i64 v, .int .i64 er]) ∧ D.Dues s y v er) ∧ Below w.heap.size w w' := by
  have HCNT := Lib.hid (fun (u v : Int) (u0 : 0 ≤ u) (uv : u ≤ v) (v1 : v ≤ 1125899906842624) W (hb : Below w.heap.size w W) => rcount hd a ca b cb u v W (hS.kept hb) (hR.kept hb) u0 uv v1)
  obtain ⟨off, ho⟩ : ∃ o, D.off = o := ⟨_, rfl⟩
  have B1 : Below w.heap.size w (w.alloc (.cells #[.int .i64 off, .slice a D.n ca, .slice b D.m cb] 53)) := (Below.refl _ _).alloc (Nat.le_refl _) _
  have c0 : (w.alloc (.cells #[.int .i64 off, .slice a D.n ca, .slice b D.m cb] 53)).cell? ⟨w.heap.size, 0, none⟩ = some (.int .i64 off) := by simp
  have c1 : (w.alloc (.cells #[.int .i64 off, .slice a D.n ca, .slice b D.m cb] 53)).cell? ⟨w.heap.size, 1, none⟩ = some (.slice a D.n ca) := by simp
  have c2 : (w.alloc (.cells #[.int .i64 off, .slice a D.n ca, .slice b D.m cb] 53)).cell? ⟨w.heap.size, 2, none⟩ = some (.slice b D.m cb) := by simp
  have hlt : w.heap.size < (w.alloc (.cells #[.int .i64 off, .slice a D.n ca, .slice b D.m cb] 53)).heap.size := by simp
  have HB1 := Lib.hid B1
  obtain ⟨s0, s1⟩ := (instB_iff s).1 hs
  have HDU := Lib.hid (fun v e (h : D.DueIs s y v e) => show D.Dues s y v e from .inr (.inr (.inr ⟨s0, s1, hy, ht, h⟩)))
  have hi1 := rinstant_any s
  rw [hs] at hi1
  have HI1 := Lib.hid hi1
  have d1 : decide (y < 0) = false := decide_eq_false (by omega)
  have d2 : (y == 0) = false := by simp; omega
  have d3 : (tsum D.F D.T D.n == 0) = false := by simpa using ht
  have hlen := rlen_any a D.n ca D.F D.T _ (hS.kept B1) hd.wk.len hd.wk.good
  generalize tsum D.F D.T D.n = tt at hlen d3
  have HCELL := Lib.hid (fun W (hb : Below (w.alloc (.cells #[.int .i64 off, .slice a D.n ca, .slice b D.m cb] 53)).heap.size (w.alloc (.cells #[.int .i64 off, .slice a D.n ca, .slice b D.m cb] 53)) W) => And.intro ((hb.cell (p := ⟨w.heap.size, 0, none⟩) hlt).trans c0) (And.intro ((hb.cell (p := ⟨w.heap.size, 1, none⟩) hlt).trans c1) ((hb.cell (p := ⟨w.heap.size, 2, none⟩) hlt).trans c2)))
  have HGM := Lib.hid (fun (u v : Int) (u0 : 0 ≤ u) (uv : u ≤ v) => D.g_mono u0 uv)
  have HGS := Lib.hid (fun (u : Int) (u0 : 0 ≤ u) => D.g_step u u0)
  rw [ho] at HCNT
  rw [ho]
  unfold calV at *
  clear hd hS hR B1 ho hi1 hlt hs ht
  go_enter Try.func43, Try.ntmps43
  go_wp2_with fail
  generalize w.alloc (.cells #[.int .i64 off, .slice a D.n ca, .slice b D.m cb] 53) = W1 at *
  refine (HI1.out _).mono ?_
  rintro e w2 ⟨rfl, rfl⟩
  go_wp2_with fail
  refine hlen.mono ?_
  rintro e w2 ⟨rfl, hb2⟩
  have HB2 := Lib.hid (HB1.out.trans (hb2.mono HB1.out.size))
  have HS2 := Lib.hid hb2
  have hct := HCNT.out s 1125899906842624 s0 s1 (Int.le_refl _) w2 HB2.out
  have hgm := HGM.out s 1125899906842624 s0 s1
  obtain ⟨q, eq⟩ : ∃ q, D.g 1125899906842624 - D.g s = q := ⟨_, rfl⟩
  have q0 : 0 ≤ q := by omega
  rw [eq] at hct
  have HQ := Lib.hid eq
  obtain ⟨k0, k1, k2⟩ := HCELL.out w2 hb2
  clear hlen hb2 c0 c1 c2 eq hgm
  go_wp2_with fail
  refine hct.mono ?_
  rintro e w3 ⟨rfl, hb3⟩
  have HB3 := Lib.hid (HB2.out.trans (hb3.mono HB2.out.size))
  have HS3 := Lib.hid (HS2.out.trans (hb3.mono HS2.out.size))
  clear hct hb3 k0 k1 k2
  by_cases hq : q < y
  · have dq : decide (q < y) = true := decide_eq_true hq
    go_wp2_with fail
    go_ret2
    exact ⟨⟨_, _, rfl, HDU.out 0 10 (.inl ⟨rfl, rfl, by rw [HQ.out]; exact hq⟩)⟩, HB3.out⟩
  · have dq : decide (q < y) = false := decide_eq_false hq
    have hsH : s < 1125899906842624 := by
      rcases Int.lt_or_le s 1125899906842624 with h | h
      · exact h
      · have e : s = 1125899906842624 := by omega
        have := HQ.out
        rw [e] at this
        generalize D.g 1125899906842624 = gH at this
        omega
    have HTOP := Lib.hid (show D.g s + y ≤ D.g 1125899906842624 by
      have := HQ.out
      generalize D.g 1125899906842624 = gH at *
      omega)
    go_wp2_with fail
    go_loopw [8, 9] (fun i j wr => ∃ l h : Int, i = .int .i64 l ∧ j = .int .i64 h ∧ s ≤ l ∧ l < h ∧ h ≤ 1125899906842624 ∧ D.g l < D.g s + y ∧ D.g s + y ≤ D.g h ∧ Below w3.heap.size w3 wr) (fun i j _ => (intOf j - intOf i).toNat)
    case atStart => exact ⟨s, 1125899906842624, rfl, rfl, Int.le_refl _, hsH, Int.le_refl _, by omega, HTOP.out, Below.refl _ _⟩
    case round =>
      obtain ⟨l, h, rfl, rfl, sl, lh, hH, gl, gh, hB⟩ := hrel
      have HSR := Lib.hid (HS3.out.trans (hB.mono HS3.out.size))
      have HBR := Lib.hid (HB3.out.trans (hB.mono HB3.out.size))
      have HBW := Lib.hid hB
      have e1 : IntKind.i64.wrap (h - l) = h - l := IntWalk.i64_in _ (by omega)
      by_cases hone : 1 < h - l
      · have dd : decide (1 < h - l) = true := decide_eq_true hone
        obtain ⟨k, hk⟩ : ∃ k, (h - l) / 2 = k := ⟨_, rfl⟩
        have hk0 : 0 < k := by omega
        have hk1 : k < h - l := by omega
        have e2 : (h - l).tdiv 2 = k := by rw [Int.tdiv_eq_ediv_of_nonneg (by omega), hk]
        have e3 : IntKind.i64.wrap k = k := IntWalk.i64_in _ (by omega)
        have e4 : IntKind.i64.wrap (l + k) = l + k := IntWalk.i64_in _ (by omega)
        obtain ⟨k0, k1, k2⟩ := HCELL.out wr HSR.out
        have hct := HCNT.out s (l + k) s0 (by omega) (by omega) wr HBR.out
        obtain ⟨z, ez⟩ : ∃ z, D.g (l + k) - D.g s = z := ⟨_, rfl⟩
        rw [ez] at hct
        have l0 : 0 ≤ l := by omega
        have HR := Lib.hid (And.intro sl (And.intro hH (And.intro gl gh)))
        have HM := Lib.hid (show s ≤ l + k ∧ l + k < h ∧ l < l + k ∧ (h - (l + k)).toNat < (h - l).toNat ∧ (l + k - l).toNat < (h - l).toNat by omega)
        by_cases hz : z < y
        · have dz : decide (z < y) = true := decide_eq_true hz
          have HZ := Lib.hid (show D.g (l + k) < D.g s + y by omega)
          clear hB sl lh gl gh ez hone
          go_wp2_with fail
          refine hct.mono ?_
          rintro e w5 ⟨rfl, hb5⟩
          have HB5 := Lib.hid (HBW.out.trans (hb5.mono HBW.out.size))
          clear hct hb5 k0 k1 k2
          go_wp2_with fail
          go_roundw
          case rel => exact ⟨l + k, h, rfl, rfl, HM.out.1, HM.out.2.1, HR.out.2.1, HZ.out, HR.out.2.2.2, HB5.out⟩
          case measure => exact HM.out.2.2.2.1
        · have dz : decide (z < y) = false := decide_eq_false hz
          have HZ := Lib.hid (show D.g s + y ≤ D.g (l + k) by omega)
          clear hB sl lh gl gh ez hone
          go_wp2_with fail
          refine hct.mono ?_
          rintro e w5 ⟨rfl, hb5⟩
          have HB5 := Lib.hid (HBW.out.trans (hb5.mono HBW.out.size))
          clear hct hb5 k0 k1 k2
          go_wp2_with fail
          go_roundw
          case rel => exact ⟨l, l + k, rfl, rfl, HR.out.1, HM.out.2.2.1, by have := HM.out.2.1; have := HR.out.2.1; omega, HR.out.2.2.1, HZ.out, HB5.out⟩
          case measure => exact HM.out.2.2.2.2
      · have dd : decide (1 < h - l) = false := decide_eq_false hone
        have eh : h = l + 1 := by omega
        have hst := HGS.out l (by omega)
        rw [← eh] at hst
        have HF := Lib.hid (show D.DueIs s y h 0 by
          refine .inr ⟨rfl, ?_⟩
          have e5 : h - 1 = l := by omega
          rw [e5]
          cases hop : D.opB l with
          | false =>
            rw [hop] at hst
            simp only [Bool.false_eq_true, if_false] at hst
            omega
          | true =>
            rw [hop] at hst
            simp only [if_true] at hst
            exact ⟨by omega, rfl, by omega, hH⟩)
        clear hB hst gl gh eh hone sl lh
        go_wp2_with fail
        go_ret2
        exact ⟨⟨_, _, rfl, HDU.out h 0 HF.out⟩, HBR.out⟩
/-- The reference's Due, whatever is asked. -/
theorem rdue_any {D : Cal} (hd : D.ok) (a : Option Addr) (ca : Nat) (b : Option Addr) (cb : Nat) (s y : Int) (w : World) (hS : Sps w a D.n D.F D.T) (hR : Sps w b D.m D.G D.U) (hy1 : y ≤ 9223372036854775807) :
    Calls Try.prog 43 #[calV D.off a D.n ca b D.m cb, .int .i64 s, .int .i64 y] w fun e w' => (∃ v er, e = .returned (.tuple #[.int .i64 v, .int .i64 er]) ∧ D.Dues s y v er) ∧ Below w.heap.size w w' := by
  by_cases h1 : instB s = true ∧ 0 ≤ y
  · by_cases h2 : y = 0
    · exact rdue_zero hd a ca b cb s y w hS hR h1.1 h2
    · by_cases h3 : tsum D.F D.T D.n = 0
      · exact rdue_closed hd a ca b cb s y w hS hR h1.1 (by omega) h3
      · exact rdue_open hd a ca b cb s y w hS hR h1.1 (by omega) hy1 h3
  · exact rdue_bad hd a ca b cb s y w hS hR h1
end Go.Proofs.Ytfeegohjgecjgaa

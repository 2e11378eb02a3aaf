/- The reference's Elapsed, Due and Rest of a calendar. -/
import Derived.Test.YtfeegohjgecjgaaCaV
namespace Go.Proofs.Ytfeegohjgecjgaa
open Go.RowKit
set_option maxRecDepth 100000 in
set_option maxHeartbeats 8000000 in
theorem relapsed_bad {D : Cal} (hd : D.ok) (a : Option Addr) (ca : Nat) (b : Option Addr) (cb : Nat) (x y : Int) (w : World) (hS : Sps w a D.n D.F D.T) (hR : Sps w b D.m D.G D.U) (hb : ¬ (instB x = true ∧ instB y = true ∧ x ≤ y)) :
    Calls Try.prog 41 #[calV D.off a D.n ca b D.m cb, .int .i64 x, .int .i64 y] w fun e w' => e = .returned (.tuple #[.int .i64 0, .int .i64 2]) ∧ Below w.heap.size w w' := by
  obtain ⟨off, ho⟩ : ∃ o, D.off = o := ⟨_, rfl⟩
  have B1 : Below w.heap.size w (w.alloc (.cells #[.int .i64 off, .slice a D.n ca, .slice b D.m cb] 53)) := (Below.refl _ _).alloc (Nat.le_refl _) _
  have c0 : (w.alloc (.cells #[.int .i64 off, .slice a D.n ca, .slice b D.m cb] 53)).cell? ⟨w.heap.size, 0, none⟩ = some (.int .i64 off) := by simp
  have c1 : (w.alloc (.cells #[.int .i64 off, .slice a D.n ca, .slice b D.m cb] 53)).cell? ⟨w.heap.size, 1, none⟩ = some (.slice a D.n ca) := by simp
  have c2 : (w.alloc (.cells #[.int .i64 off, .slice a D.n ca, .slice b D.m cb] 53)).cell? ⟨w.heap.size, 2, none⟩ = some (.slice b D.m cb) := by simp
  have hlt : w.heap.size < (w.alloc (.cells #[.int .i64 off, .slice a D.n ca, .slice b D.m cb] 53)).heap.size := by simp
  have HB1 := Lib.hid B1
  have hi1 := rinstant_any x
  have hi2 := rinstant_any y
  obtain ⟨bx, ex⟩ : ∃ b, instB x = b := ⟨_, rfl⟩
  obtain ⟨by_, ey⟩ : ∃ b, instB y = b := ⟨_, rfl⟩
  obtain ⟨d, ed⟩ : ∃ b, decide (y < x) = b := ⟨_, rfl⟩
  have hbad : bx = false ∨ by_ = false ∨ d = true := by
    cases bx with
    | false => exact .inl rfl
    | true =>
      cases by_ with
      | false => exact .inr (.inl rfl)
      | true => exact .inr (.inr (by rw [← ed]; exact decide_eq_true (by
          rcases Int.lt_or_le y x with h | h
          · exact h
          · exact absurd ⟨ex, ey, h⟩ hb)))
  rw [ex] at hi1
  rw [ey] at hi2
  have HI1 := Lib.hid hi1
  have HI2 := Lib.hid hi2
  rw [ho]
  unfold calV
  clear hd hS hR hb ex ey B1 ho hi1 hi2 hlt
  cases bx
  case false =>
    go_enter Try.func41, Try.ntmps41
    go_wp2_with fail
    refine (HI1.out _).mono ?_
    rintro e w2 ⟨rfl, rfl⟩
    go_wp2_with fail
    go_ret2
    exact ⟨rfl, HB1.out⟩
  cases by_
  case false =>
    go_enter Try.func41, Try.ntmps41
    go_wp2_with fail
    refine (HI1.out _).mono ?_
    rintro e w2 ⟨rfl, rfl⟩
    go_wp2_with fail
    refine (HI2.out _).mono ?_
    rintro e w2 ⟨rfl, rfl⟩
    go_wp2_with fail
    go_ret2
    exact ⟨rfl, HB1.out⟩
  cases d
  case false => rcases hbad with h | h | h <;> cases h
  clear hbad
  go_enter Try.func41, Try.ntmps41
  go_wp2_with fail
  refine (HI1.out _).mono ?_
  rintro e w2 ⟨rfl, rfl⟩
  go_wp2_with fail
  refine (HI2.out _).mono ?_
  rintro e w2 ⟨rfl, rfl⟩
  go_wp2_with fail
  go_ret2
  exact ⟨rfl, HB1.out⟩
set_option maxRecDepth 100000 in
set_option maxHeartbeats 8000000 in
theorem relapsed_ok {D : Cal} (hd : D.ok) (a : Option Addr) (ca : Nat) (b : Option Addr) (cb : Nat) (x y : Int) (w : World) (hS : Sps w a D.n D.F D.T) (hR : Sps w b D.m D.G D.U) (x0 : 0 ≤ x) (xy : x ≤ y) (y1 : y ≤ 1125899906842624) :
    Calls Try.prog 41 #[calV D.off a D.n ca b D.m cb, .int .i64 x, .int .i64 y] w fun e w' => e = .returned (.tuple #[.int .i64 (D.g y - D.g x), .int .i64 0]) ∧ Below w.heap.size w w' := by
  have HCNT := Lib.hid (fun (u v : Int) (u0 : 0 ≤ u) (uv : u ≤ v) (v1 : v ≤ 1125899906842624) W (hb : Below w.heap.size w W) => rcount hd a ca b cb u v W (hS.kept hb) (hR.kept hb) u0 uv v1)
  obtain ⟨off, ho⟩ : ∃ o, D.off = o := ⟨_, rfl⟩
  have B1 : Below w.heap.size w (w.alloc (.cells #[.int .i64 off, .slice a D.n ca, .slice b D.m cb] 53)) := (Below.refl _ _).alloc (Nat.le_refl _) _
  have c0 : (w.alloc (.cells #[.int .i64 off, .slice a D.n ca, .slice b D.m cb] 53)).cell? ⟨w.heap.size, 0, none⟩ = some (.int .i64 off) := by simp
  have c1 : (w.alloc (.cells #[.int .i64 off, .slice a D.n ca, .slice b D.m cb] 53)).cell? ⟨w.heap.size, 1, none⟩ = some (.slice a D.n ca) := by simp
  have c2 : (w.alloc (.cells #[.int .i64 off, .slice a D.n ca, .slice b D.m cb] 53)).cell? ⟨w.heap.size, 2, none⟩ = some (.slice b D.m cb) := by simp
  have hlt : w.heap.size < (w.alloc (.cells #[.int .i64 off, .slice a D.n ca, .slice b D.m cb] 53)).heap.size := by simp
  have HB1 := Lib.hid B1
  have hi1 := rinstant_any x
  have hi2 := rinstant_any y
  rw [(instB_iff x).2 ⟨by omega, by omega⟩] at hi1
  rw [(instB_iff y).2 ⟨by omega, by omega⟩] at hi2
  have HI1 := Lib.hid hi1
  have HI2 := Lib.hid hi2
  have ed : decide (y < x) = false := decide_eq_false (by omega)
  have hct := HCNT.out x y x0 xy y1 _ HB1.out
  rw [ho] at hct ⊢
  generalize D.g y - D.g x = z at *
  unfold calV at *
  clear hd hS hR B1 ho hi1 hi2 hlt HCNT
  go_enter Try.func41, Try.ntmps41
  go_wp2_with fail
  refine (HI1.out _).mono ?_
  rintro e w2 ⟨rfl, rfl⟩
  go_wp2_with fail
  refine (HI2.out _).mono ?_
  rintro e w2 ⟨rfl, rfl⟩
  go_wp2_with fail
  refine hct.mono ?_
  rintro e w3 ⟨rfl, hb3⟩
  have HB3 := Lib.hid (HB1.out.trans (hb3.mono HB1.out.size))
  clear hct hb3
  go_wp2_with fail
  go_ret2
  exact ⟨rfl, HB3.out⟩
set_option maxRecDepth 100000 in
set_option maxHeartbeats 8000000 in
theorem rrest_arg {D : Cal} (hd : D.ok) (a : Option Addr) (ca : Nat) (b : Option Addr) (cb : Nat) (s y t : Int) (w : World) (hS : Sps w a D.n D.F D.T) (hR : Sps w b D.m D.G D.U) (hy : y < 0) :
    Calls Try.prog 45 #[calV D.off a D.n ca b D.m cb, .int .i64 s, .int .i64 y, .int .i64 t] w fun e w' => e = .returned (.tuple #[.int .i64 0, .int .i64 2]) ∧ Below w.heap.size w w' := by
  obtain ⟨off, ho⟩ : ∃ o, D.off = o := ⟨_, rfl⟩
  have B1 : Below w.heap.size w (w.alloc (.cells #[.int .i64 off, .slice a D.n ca, .slice b D.m cb] 53)) := (Below.refl _ _).alloc (Nat.le_refl _) _
  have c0 : (w.alloc (.cells #[.int .i64 off, .slice a D.n ca, .slice b D.m cb] 53)).cell? ⟨w.heap.size, 0, none⟩ = some (.int .i64 off) := by simp
  have c1 : (w.alloc (.cells #[.int .i64 off, .slice a D.n ca, .slice b D.m cb] 53)).cell? ⟨w.heap.size, 1, none⟩ = some (.slice a D.n ca) := by simp
  have c2 : (w.alloc (.cells #[.int .i64 off, .slice a D.n ca, .slice b D.m cb] 53)).cell? ⟨w.heap.size, 2, none⟩ = some (.slice b D.m cb) := by simp
  have hlt : w.heap.size < (w.alloc (.cells #[.int .i64 off, .slice a D.n ca, .slice b D.m cb] 53)).heap.size := by simp
  have HB1 := Lib.hid B1
  have d1 : decide (y < 0) = true := decide_eq_true hy
  rw [ho]
  unfold calV
  clear hd hS hR B1 ho hlt
  go_enter Try.func45, Try.ntmps45
  go_wp2_with fail
  go_ret2
  exact ⟨rfl, HB1.out⟩
set_option maxRecDepth 100000 in
set_option maxHeartbeats 8000000 in
theorem rrest_bad {D : Cal} (hd : D.ok) (a : Option Addr) (ca : Nat) (b : Option Addr) (cb : Nat) (s y t : Int) (w : World) (hS : Sps w a D.n D.F D.T) (hR : Sps w b D.m D.G D.U) (hy : ¬ y < 0) (hb : ¬ (instB s = true ∧ instB t = true ∧ s ≤ t)) :
    Calls Try.prog 45 #[calV D.off a D.n ca b D.m cb, .int .i64 s, .int .i64 y, .int .i64 t] w fun e w' => e = .returned (.tuple #[.int .i64 0, .int .i64 2]) ∧ Below w.heap.size w w' := by
  obtain ⟨off, ho⟩ : ∃ o, D.off = o := ⟨_, rfl⟩
  have B1 : Below w.heap.size w (w.alloc (.cells #[.int .i64 off, .slice a D.n ca, .slice b D.m cb] 53)) := (Below.refl _ _).alloc (Nat.le_refl _) _
  have c0 : (w.alloc (.cells #[.int .i64 off, .slice a D.n ca, .slice b D.m cb] 53)).cell? ⟨w.heap.size, 0, none⟩ = some (.int .i64 off) := by simp
  have c1 : (w.alloc (.cells #[.int .i64 off, .slice a D.n ca, .slice b D.m cb] 53)).cell? ⟨w.heap.size, 1, none⟩ = some (.slice a D.n ca) := by simp
  have c2 : (w.alloc (.cells #[.int .i64 off, .slice a D.n ca, .slice b D.m cb] 53)).cell? ⟨w.heap.size, 2, none⟩ = some (.slice b D.m cb) := by simp
  have hlt : w.heap.size < (w.alloc (.cells #[.int .i64 off, .slice a D.n ca, .slice b D.m cb] 53)).heap.size := by simp
  have HB1 := Lib.hid B1
  have d1 : decide (y < 0) = false := decide_eq_false hy
  have hel := relapsed_bad hd a ca b cb s t (w.alloc (.cells #[.int .i64 D.off, .slice a D.n ca, .slice b D.m cb] 53)) (hS.kept (by rw [ho]; exact B1)) (hR.kept (by rw [ho]; exact B1)) hb
  rw [ho] at hel ⊢
  unfold calV at *
  clear hd hS hR B1 ho hlt
  go_enter Try.func45, Try.ntmps45
  go_wp2_with fail
  refine hel.mono ?_
  rintro e w3 ⟨rfl, hb3⟩
  have HB3 := Lib.hid (HB1.out.trans (hb3.mono HB1.out.size))
  clear hel hb3
  go_wp2_with fail
  go_ret2
  exact ⟨rfl, HB3.out⟩
set_option maxRecDepth 100000 in
set_option maxHeartbeats 8000000 in
theorem rrest_ok {D : Cal} (hd : D.ok) (a : Option Addr) (ca : Nat) (b : Option Addr) (cb : Nat) (s y t : Int) (w : World) (hS : Sps w a D.n D.F D.T) (hR : Sps w b D.m D.G D.U) (s0 : 0 ≤ s) (st : s ≤ t) (t1 : t ≤ 1125899906842624) (y0 : 0 ≤ y) (y1 : y ≤ 9223372036854775807) :
    Calls Try.prog 45 #[calV D.off a D.n ca b D.m cb, .int .i64 s, .int .i64 y, .int .i64 t] w fun e w' => e = .returned (.tuple #[.int .i64 (max 0 (y - (D.g t - D.g s))), .int .i64 0]) ∧ Below w.heap.size w w' := by
  obtain ⟨off, ho⟩ : ∃ o, D.off = o := ⟨_, rfl⟩
  have B1 : Below w.heap.size w (w.alloc (.cells #[.int .i64 off, .slice a D.n ca, .slice b D.m cb] 53)) := (Below.refl _ _).alloc (Nat.le_refl _) _
  have c0 : (w.alloc (.cells #[.int .i64 off, .slice a D.n ca, .slice b D.m cb] 53)).cell? ⟨w.heap.size, 0, none⟩ = some (.int .i64 off) := by simp
  have c1 : (w.alloc (.cells #[.int .i64 off, .slice a D.n ca, .slice b D.m cb] 53)).cell? ⟨w.heap.size, 1, none⟩ = some (.slice a D.n ca) := by simp
  have c2 : (w.alloc (.cells #[.int .i64 off, .slice a D.n ca, .slice b D.m cb] 53)).cell? ⟨w.heap.size, 2, none⟩ = some (.slice b D.m cb) := by simp
  have hlt : w.heap.size < (w.alloc (.cells #[.int .i64 off, .slice a D.n ca, .slice b D.m cb] 53)).heap.size := by simp
  have HB1 := Lib.hid B1
  have d1 : decide (y < 0) = false := decide_eq_false (by omega)
  have hel := relapsed_ok hd a ca b cb s t (w.alloc (.cells #[.int .i64 D.off, .slice a D.n ca, .slice b D.m cb] 53)) (hS.kept (by rw [ho]; exact B1)) (hR.kept (by rw [ho]; exact B1)) s0 st t1
  have g1 := D.g_mono s0 st
  have g2 := D.g_lip s0 st
  obtain ⟨q, eq⟩ : ∃ q, D.g t - D.g s = q := ⟨_, rfl⟩
  rw [ho, eq] at hel
  rw [ho, eq]
  have q0 : 0 ≤ q := by omega
  have q1 : q ≤ 1125899906842624 := by omega
  have e1 : IntKind.i64.wrap (y - q) = y - q := IntWalk.i64_in _ (by omega)
  unfold calV at *
  clear hd hS hR B1 ho hlt eq g1 g2
  by_cases hc : y < q
  · have d2 : decide (y < q) = true := decide_eq_true hc
    rw [show max 0 (y - q) = 0 by omega]
    go_enter Try.func45, Try.ntmps45
    go_wp2_with fail
    refine hel.mono ?_
    rintro e w3 ⟨rfl, hb3⟩
    have HB3 := Lib.hid (HB1.out.trans (hb3.mono HB1.out.size))
    clear hel hb3
    go_wp2_with fail
    go_ret2
    exact ⟨rfl, HB3.out⟩
  · have d2 : decide (y < q) = false := decide_eq_false hc
    rw [show max 0 (y - q) = y - q by omega]
    go_enter Try.func45, Try.ntmps45
    go_wp2_with fail
    refine hel.mono ?_
    rintro e w3 ⟨rfl, hb3⟩
    have HB3 := Lib.hid (HB1.out.trans (hb3.mono HB1.out.size))
    clear hel hb3
    go_wp2_with fail
    go_ret2
    exact ⟨rfl, HB3.out⟩
end Go.Proofs.Ytfeegohjgecjgaa

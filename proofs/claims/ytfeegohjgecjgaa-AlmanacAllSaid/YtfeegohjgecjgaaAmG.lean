/- AlmanacTells, walked. -/
import Derived.Test.YtfeegohjgecjgaaAmF
import Derived.Test.YtfeegohjgecjgaaSpC
import Derived.Test.YtfeegohjgecjgaaRfB
import Derived.Test.YtfeegohjgecjgaaSpM
namespace Go.Proofs.Ytfeegohjgecjgaa
open Go.RowKit

theorem rowE_zero {F T : Nat → Int} {n : Nat} (h : rowE F T n = 0) : n ≤ 32 ∧ good F T n = true := by
  unfold rowE at h
  split at h
  · cases h
  · split at h
    · exact ⟨by omega, by assumption⟩
    · cases h
set_option maxRecDepth 100000 in
set_option maxHeartbeats 4000000 in
theorem atells_big (a : Option Addr) (n cap : Nat) (t : Int) (w : World) (hn : n ≤ 9223372036854775807) (h : 100 < n) :
    Calls Try.prog 3 #[.slice a n cap, .int .i64 t] w fun e w' => e = .returned (.bool true) ∧ Below w.heap.size w w' := by
  have hl := lives9 w
  have d1 : decide (100 < (n : Int)) = true := decide_eq_true (by omega)
  go_enter Try.func3, Try.ntmps3
  go_wp2_with fail
  refine hl.mono ?_
  rintro e w1 ⟨rfl, hb⟩
  go_wp2_with fail
  go_ret
  exact ⟨rfl, hb⟩
set_option maxRecDepth 100000 in
set_option maxHeartbeats 4000000 in
theorem atells_no (a : Option Addr) (n cap : Nat) (F T : Nat → Int) (t : Int) (w : World) (hS : Sps w a n F T) (hn : n ≤ 100) (hz : (rowE F T n != 0) = true) :
    Calls Try.prog 3 #[.slice a n cap, .int .i64 t] w fun e w' => e = .returned (.bool true) ∧ Below w.heap.size w w' := by
  have d1 : decide (100 < (n : Int)) = false := decide_eq_false (by omega)
  have h1 := made_bad a n cap F T w hS hz
  have HWR := Lib.hid (fun w1 (hb : Below w.heap.size w w1) => rrow_any a n cap F T w1 (hS.kept hb))
  obtain ⟨z, hze⟩ : ∃ z, rowE F T n = z := ⟨_, rfl⟩
  rw [hze] at h1 hz
  have HZ := Lib.hid hze
  clear hS hze
  go_enter Try.func3, Try.ntmps3
  go_wp2_with fail
  refine h1.mono ?_
  rintro e w1 ⟨rfl, hb1⟩
  have h2 := HWR.out w1 hb1
  rw [HZ.out] at h2
  have HB1 := Lib.hid hb1
  clear h1 hb1
  go_wp2_with fail
  refine h2.mono ?_
  rintro e w2 ⟨rfl, hb2⟩
  have HB2 := Lib.hid (HB1.out.trans (hb2.mono HB1.out.size))
  clear h2 hb2
  have hl := lives9 w2
  go_wp2_with fail
  refine hl.mono ?_
  rintro e w3 ⟨rfl, hb3⟩
  go_wp2_with fail
  go_ret
  exact ⟨rfl, HB2.out.trans (hb3.mono HB2.out.size)⟩
set_option maxRecDepth 100000 in
set_option maxHeartbeats 8000000 in
theorem atells_ok (a : Option Addr) (n cap : Nat) (F T : Nat → Int) (t : Int) (w : World) (hS : Sps w a n F T) (hn : n ≤ 32) (hg : good F T n = true) :
    Calls Try.prog 3 #[.slice a n cap, .int .i64 t] w fun e w' => e = .returned (.bool true) ∧ Below w.heap.size w w' := by
  have d1 : decide (100 < (n : Int)) = false := decide_eq_false (by omega)
  have h1 := made_ok a n cap F T w hS hn hg
  have HC := Lib.hid hS
  have HG := Lib.hid hg
  have HR := Lib.hid (fun w1 (hb : Below w.heap.size w w1) => by
    have := rrow_any a n cap F T w1 (hS.kept hb)
    rw [rowE_ok hn hg] at this
    exact this)
  have hq := guard_span
  obtain ⟨f, hf⟩ : ∃ f, nx F T n t = f := ⟨_, rfl⟩
  obtain ⟨u, hu⟩ : ∃ f, nx T T n t = f := ⟨_, rfl⟩
  obtain ⟨b, hb⟩ : ∃ b, decide (idx T t n < n) = b := ⟨_, rfl⟩
  obtain ⟨cl, hcl⟩ : ∃ b, hasB F T t n = b := ⟨_, rfl⟩
  have HE := Lib.hid (And.intro hf (And.intro hu hb))
  have HCL := Lib.hid hcl
  have heq : ∀ w, (binOp .eql 30 (.agg #[.int .i64 f, .int .i64 u]) (.agg #[.int .i64 f, .int .i64 u])).run Try.prog w = .ok (.bool true) w := fun w => by rw [eql_span]; simp
  clear hS hg hf hu hb hcl
  go_enter Try.func3, Try.ntmps3
  go_wp2_with fail
  refine h1.mono ?_
  rintro e w1 ⟨A, a', c', rfl, _, hA, _, hb1⟩
  have h2 := HR.out w1 hb1
  have HB1 := Lib.hid hb1
  have HA1 := Lib.hid hA
  clear h1 hb1 hA
  go_wp2_with fail
  refine h2.mono ?_
  rintro e w2 ⟨rfl, hb2⟩
  have HB2 := Lib.hid (HB1.out.trans (hb2.mono HB1.out.size))
  have HA2 := Lib.hid (HA1.out.kept hb2)
  have h3 := next_any t HA2.out
  rw [HE.out.1, HE.out.2.1, HE.out.2.2] at h3
  clear h2 hb2
  go_wp2_with fail
  refine h3.mono ?_
  rintro e w3 ⟨rfl, hb3⟩
  have BL : Below w3.heap.size w3 (w3.alloc (.cells #[.int .i64 f, .int .i64 u] 30)) := (Below.refl _ _).alloc (Nat.le_refl _) _
  have HB3 := Lib.hid ((HB2.out.trans (hb3.mono HB2.out.size)).trans (BL.mono (Nat.le_trans HB2.out.size hb3.size)))
  have HA3 := Lib.hid ((HA2.out.kept hb3).kept BL)
  have h4 := rnext_any a n cap F T t _ (HC.out.kept HB3.out) HG.out
  rw [HE.out.1, HE.out.2.1, HE.out.2.2] at h4
  have k0 : (w3.alloc (.cells #[.int .i64 f, .int .i64 u] 30)).cell? ⟨w3.heap.size, 0, none⟩ = some (.int .i64 f) := by simp
  have k1 : (w3.alloc (.cells #[.int .i64 f, .int .i64 u] 30)).cell? ⟨w3.heap.size, 1, none⟩ = some (.int .i64 u) := by simp
  have K0 := Lib.hid (And.intro k0 k1)
  clear h3 hb3 BL k0 k1
  go_wp2_with fail
  obtain ⟨s8, hs8⟩ : ∃ s, w3.heap.size = s := ⟨_, rfl⟩
  rw [hs8] at K0 ⊢
  generalize (w3.alloc (.cells #[.int .i64 f, .int .i64 u] 30)) = W3 at *
  refine h4.mono ?_
  rintro e w4 ⟨rfl, hb4⟩
  have BL : Below w4.heap.size w4 (w4.alloc (.cells #[.int .i64 f, .int .i64 u] 30)) := (Below.refl _ _).alloc (Nat.le_refl _) _
  have hb4' := hb4.trans (BL.mono hb4.size)
  have HB4 := Lib.hid (HB3.out.trans (hb4'.mono HB3.out.size))
  have HA4 := Lib.hid (HA3.out.kept hb4')
  have K4 := Lib.hid (And.intro ((hb4'.cell (p := ⟨s8, 0, none⟩) (cell_spot K0.out.1).2).trans K0.out.1) ((hb4'.cell (p := ⟨s8, 1, none⟩) (cell_spot K0.out.2).2).trans K0.out.2))
  have k0 : (w4.alloc (.cells #[.int .i64 f, .int .i64 u] 30)).cell? ⟨w4.heap.size, 0, none⟩ = some (.int .i64 f) := by simp
  have k1 : (w4.alloc (.cells #[.int .i64 f, .int .i64 u] 30)).cell? ⟨w4.heap.size, 1, none⟩ = some (.int .i64 u) := by simp
  have L0 := Lib.hid (And.intro k0 k1)
  have h5 := closed_at t HA4.out
  rw [closedB_iff HG.out, HCL.out] at h5
  clear h4 hb4 hb4' BL k0 k1
  go_wp2_with fail
  obtain ⟨s10, hs10⟩ : ∃ s, w4.heap.size = s := ⟨_, rfl⟩
  rw [hs10] at L0 ⊢
  generalize (w4.alloc (.cells #[.int .i64 f, .int .i64 u] 30)) = W4 at *
  refine h5.mono ?_
  rintro e w5 ⟨rfl, hb5⟩
  have HB5 := Lib.hid (HB4.out.trans (hb5.mono HB4.out.size))
  have h6 := rhas_any a n cap F T t w5 (HC.out.kept HB5.out) hn HG.out
  rw [HCL.out] at h6
  have HB5' := Lib.hid hb5
  clear h5 hb5
  go_wp2_with fail
  refine h6.mono ?_
  rintro e w6 ⟨rfl, hb6⟩
  have hb46 := HB5'.out.trans (hb6.mono HB5'.out.size)
  have k0 := (hb46.cell (p := ⟨s8, 0, none⟩) (cell_spot K4.out.1).2).trans K4.out.1
  have k1 := (hb46.cell (p := ⟨s8, 1, none⟩) (cell_spot K4.out.2).2).trans K4.out.2
  have l0 := (hb46.cell (p := ⟨s10, 0, none⟩) (cell_spot L0.out.1).2).trans L0.out.1
  have l1 := (hb46.cell (p := ⟨s10, 1, none⟩) (cell_spot L0.out.2).2).trans L0.out.2
  have HB6 := Lib.hid (HB4.out.trans (hb46.mono HB4.out.size))
  have h7 := row_alm (HA4.out.kept hb46)
  clear h6 hb6 hb46
  go_wp2_with fail
  refine h7.mono ?_
  rintro e w7 ⟨v, rfl, hO, hb7⟩
  have HB7 := Lib.hid (HB6.out.trans (hb7.mono HB6.out.size))
  have h8 := rsame_row (cap := cap) hO (HC.out.kept HB7.out)
  obtain ⟨va, vc, rfl, _, _⟩ := hO.shape
  clear h7 hO hb7 k0 k1 l0 l1
  go_wp2_with fail
  refine h8.mono ?_
  rintro e w8 ⟨rfl, q, rfl⟩
  have HB8 := Lib.hid (below_drewN' HB7.out q)
  have hl := lives9 (w7.drewN q)
  clear h8
  generalize w7.drewN q = w8 at *
  go_wp2_with fail
  refine hl.mono ?_
  rintro e w9 ⟨rfl, hb9⟩
  go_wp2_with fail
  go_ret
  exact ⟨rfl, HB8.out.trans (hb9.mono HB8.out.size)⟩
end Go.Proofs.Ytfeegohjgecjgaa

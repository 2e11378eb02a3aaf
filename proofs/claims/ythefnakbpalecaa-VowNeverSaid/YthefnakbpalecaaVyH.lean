/- VowSays. -/
import Derived.Test.YthefnakbpalecaaMaX
import Derived.Lib.SmallJoins
import Derived.WideShapes
import Derived.ProofKit
import Derived.OpenShut
import Derived.Deep.Slices
namespace Go.Proofs.Ythefnakbpalecaa
open Go.RowKit Go.Maps
theorem st_cellsU64 : Try.prog.cellsOf 22 = 1 := by kernel_rfl
theorem st_cellsInt : Try.prog.cellsOf 3 = 1 := by kernel_rfl
theorem st_wfU {n : Int} (h : (Lit.int .u64 n).wf = true) : 0 ≤ n ∧ n < 18446744073709551616 := by
  simp [Lit.wf, IntKind.min, IntKind.max, IntKind.signed, IntKind.bits] at h
  omega
theorem st_wfI {n : Int} (h : (Lit.int .i64 n).wf = true) : -9223372036854775808 ≤ n ∧ n ≤ 9223372036854775807 := by
  simp [Lit.wf, IntKind.min, IntKind.max, IntKind.signed, IntKind.bits] at h
  omega
theorem array2 {α : Type} {cs : Array α} (h : cs.size = 2) : ∃ c0 c1, cs = #[c0, c1] := by
  obtain ⟨l⟩ := cs
  match l, h with
  | [c0, c1], _ => exact ⟨c0, c1, rfl⟩
set_option maxRecDepth 100000 in
theorem st_in {H : Type} {enc : TypeId × Value → H} {w : World} {base b0 : Nat} {r : Reach} {sp : Nat → Bool} {held : Bool} {v : Value} {d : DataW H} {p : List MemPlace}
    (hv : Value.okWide Try.prog w r b0 48 v) (h : DataW.Trod enc Try.prog w base sp held 48 v d p) :
    ∃ t x, v = .agg #[.int .u64 t, .int .i64 x] ∧ (0 ≤ t ∧ t < 18446744073709551616) ∧ -9223372036854775808 ≤ x ∧ x ≤ 9223372036854775807 := by
  obtain ⟨cs, rfl, hsz⟩ := Go.WideShapes.okWide_struct Try.underlying48 hv
  obtain ⟨c0, c1, rfl⟩ := array2 (hsz.trans (by kernel_rfl))
  obtain ⟨fuel, hf⟩ := h
  obtain ⟨xs, n, _, _, hlen, hxl, hg⟩ := DataW.trod_struct Try.underlying48 hf
  have g0 := hg 0 _ rfl
  have g1 := hg 1 _ rfl
  simp [Value.cells, st_cellsU64, st_cellsInt] at g0 g1
  have hx2 : xs.length = 2 := hxl
  rw [List.getElem?_eq_getElem (by omega)] at g0 g1
  obtain ⟨t, q0, _, w0⟩ := DataW.trod_int Try.underlying22 g0
  obtain ⟨x, q1, _, w1⟩ := DataW.trod_int Try.underlying3 g1
  simp only [List.cons.injEq, and_true] at q0 q1
  subst q0 q1
  exact ⟨t, x, rfl, st_wfU w0, st_wfI w1⟩
set_option maxRecDepth 100000 in
set_option maxHeartbeats 4000000 in
theorem vsays_law (t0 v0 t1 v1 : Int) (w : World) (_h0 : (0 ≤ t0 ∧ t0 < 18446744073709551616) ∧ -9223372036854775808 ≤ v0 ∧ v0 ≤ 9223372036854775807) (_h1 : (0 ≤ t1 ∧ t1 < 18446744073709551616) ∧ -9223372036854775808 ≤ v1 ∧ v1 ≤ 9223372036854775807) :
    Calls Try.prog 6 #[.agg #[.int .u64 t0, .int .i64 v0], .agg #[.int .u64 t1, .int .i64 v1]] w fun e w' => e = .returned (.bool true) ∧ Below w.heap.size w w' := by
  obtain ⟨B2, s0, s1, -⟩ := box2 w #[.int .u64 t0, .int .i64 v0] #[.int .u64 t1, .int .i64 v1] 48 48
  have HB := Lib.hid B2
  have HS0 := Lib.hid s0
  have HS1 := Lib.hid s1
  clear B2 s0 s1 _h0 _h1
  go_enter Try.func6, Try.ntmps6
  go_upto_region 1 with fail
  obtain ⟨N, hN⟩ : ∃ N, w.heap.size = N := ⟨_, rfl⟩
  rw [hN] at HS0 HS1
  try rw [hN]
  generalize (w.alloc (.cells #[.int .u64 t0, .int .i64 v0] 48)).alloc (.cells #[.int .u64 t1, .int .i64 v1] 48) = w1 at HB HS0 HS1 ⊢
  try rw [hN]
  clear hN
  obtain ⟨z, hz⟩ : ∃ z, sdB t0 v0 = z := ⟨_, rfl⟩
  obtain ⟨y, hy⟩ : ∃ y, mayB t0 v0 t1 v1 = y := ⟨_, rfl⟩
  have HC1 : Hid (∀ w', (w'.cell? ⟨N, 0, none⟩ = some (.int .u64 t0) ∧ w'.cell? ⟨N, 1, none⟩ = some (.int .i64 v0) ∧ w'.cell? ⟨N + 1, 0, none⟩ = some (.int .u64 t1) ∧ w'.cell? ⟨N + 1, 1, none⟩ = some (.int .i64 v1) ∧ Below w1.heap.size w1 w') → Calls Try.prog 27 #[.agg #[.int .u64 t0, .int .i64 v0]] w' fun e w'' => e = .returned (.bool z) ∧ (w''.cell? ⟨N, 0, none⟩ = some (.int .u64 t0) ∧ w''.cell? ⟨N, 1, none⟩ = some (.int .i64 v0) ∧ w''.cell? ⟨N + 1, 0, none⟩ = some (.int .u64 t1) ∧ w''.cell? ⟨N + 1, 1, none⟩ = some (.int .i64 v1) ∧ Below w1.heap.size w1 w'')) := Lib.hid (fun w' ⟨_, _, _, _, hb⟩ => by
    refine (show Calls _ _ _ _ _ from hz ▸ vsound_any t0 v0 w').mono ?_
    rintro e w'' ⟨rfl, hb'⟩
    have hbb := hb.trans (hb'.mono hb.size)
    obtain ⟨x0, x1⟩ := two_rd (ex_below HS0.out hbb)
    obtain ⟨x2, x3⟩ := two_rd (ex_below HS1.out hbb)
    exact ⟨rfl, x0, x1, x2, x3, hbb⟩)
  have HC2 : Hid (∀ w', (w'.cell? ⟨N, 0, none⟩ = some (.int .u64 t0) ∧ w'.cell? ⟨N, 1, none⟩ = some (.int .i64 v0) ∧ w'.cell? ⟨N + 1, 0, none⟩ = some (.int .u64 t1) ∧ w'.cell? ⟨N + 1, 1, none⟩ = some (.int .i64 v1) ∧ Below w1.heap.size w1 w') → Calls Try.prog 28 #[.agg #[.int .u64 t0, .int .i64 v0]] w' fun e w'' => e = .returned (.bool z) ∧ (w''.cell? ⟨N, 0, none⟩ = some (.int .u64 t0) ∧ w''.cell? ⟨N, 1, none⟩ = some (.int .i64 v0) ∧ w''.cell? ⟨N + 1, 0, none⟩ = some (.int .u64 t1) ∧ w''.cell? ⟨N + 1, 1, none⟩ = some (.int .i64 v1) ∧ Below w1.heap.size w1 w'')) := Lib.hid (fun w' ⟨_, _, _, _, hb⟩ => by
    refine (show Calls _ _ _ _ _ from hz ▸ rvsound_any t0 v0 w').mono ?_
    rintro e w'' ⟨rfl, hb'⟩
    have hbb := hb.trans (hb'.mono hb.size)
    obtain ⟨x0, x1⟩ := two_rd (ex_below HS0.out hbb)
    obtain ⟨x2, x3⟩ := two_rd (ex_below HS1.out hbb)
    exact ⟨rfl, x0, x1, x2, x3, hbb⟩)
  have HC3 : Hid (∀ w', (w'.cell? ⟨N, 0, none⟩ = some (.int .u64 t0) ∧ w'.cell? ⟨N, 1, none⟩ = some (.int .i64 v0) ∧ w'.cell? ⟨N + 1, 0, none⟩ = some (.int .u64 t1) ∧ w'.cell? ⟨N + 1, 1, none⟩ = some (.int .i64 v1) ∧ Below w1.heap.size w1 w') → Calls Try.prog 29 #[.agg #[.int .u64 t0, .int .i64 v0], .agg #[.int .u64 t1, .int .i64 v1]] w' fun e w'' => e = .returned (.bool y) ∧ (w''.cell? ⟨N, 0, none⟩ = some (.int .u64 t0) ∧ w''.cell? ⟨N, 1, none⟩ = some (.int .i64 v0) ∧ w''.cell? ⟨N + 1, 0, none⟩ = some (.int .u64 t1) ∧ w''.cell? ⟨N + 1, 1, none⟩ = some (.int .i64 v1) ∧ Below w1.heap.size w1 w'')) := Lib.hid (fun w' ⟨_, _, _, _, hb⟩ => by
    refine (show Calls _ _ _ _ _ from hy ▸ vmay_any t0 v0 t1 v1 w').mono ?_
    rintro e w'' ⟨rfl, hb'⟩
    have hbb := hb.trans (hb'.mono hb.size)
    obtain ⟨x0, x1⟩ := two_rd (ex_below HS0.out hbb)
    obtain ⟨x2, x3⟩ := two_rd (ex_below HS1.out hbb)
    exact ⟨rfl, x0, x1, x2, x3, hbb⟩)
  have HC4 : Hid (∀ w', (w'.cell? ⟨N, 0, none⟩ = some (.int .u64 t0) ∧ w'.cell? ⟨N, 1, none⟩ = some (.int .i64 v0) ∧ w'.cell? ⟨N + 1, 0, none⟩ = some (.int .u64 t1) ∧ w'.cell? ⟨N + 1, 1, none⟩ = some (.int .i64 v1) ∧ Below w1.heap.size w1 w') → Calls Try.prog 30 #[.agg #[.int .u64 t0, .int .i64 v0], .agg #[.int .u64 t1, .int .i64 v1]] w' fun e w'' => e = .returned (.bool y) ∧ (w''.cell? ⟨N, 0, none⟩ = some (.int .u64 t0) ∧ w''.cell? ⟨N, 1, none⟩ = some (.int .i64 v0) ∧ w''.cell? ⟨N + 1, 0, none⟩ = some (.int .u64 t1) ∧ w''.cell? ⟨N + 1, 1, none⟩ = some (.int .i64 v1) ∧ Below w1.heap.size w1 w'')) := Lib.hid (fun w' ⟨_, _, _, _, hb⟩ => by
    refine (show Calls _ _ _ _ _ from hy ▸ rvmay_any t0 v0 t1 v1 w').mono ?_
    rintro e w'' ⟨rfl, hb'⟩
    have hbb := hb.trans (hb'.mono hb.size)
    obtain ⟨x0, x1⟩ := two_rd (ex_below HS0.out hbb)
    obtain ⟨x2, x3⟩ := two_rd (ex_below HS1.out hbb)
    exact ⟨rfl, x0, x1, x2, x3, hbb⟩)
  have HC5 : Hid (∀ w', (w'.cell? ⟨N, 0, none⟩ = some (.int .u64 t0) ∧ w'.cell? ⟨N, 1, none⟩ = some (.int .i64 v0) ∧ w'.cell? ⟨N + 1, 0, none⟩ = some (.int .u64 t1) ∧ w'.cell? ⟨N + 1, 1, none⟩ = some (.int .i64 v1) ∧ Below w1.heap.size w1 w') → Calls Try.prog 31 #[] w' fun e w'' => e = .returned (.bool true) ∧ (w''.cell? ⟨N, 0, none⟩ = some (.int .u64 t0) ∧ w''.cell? ⟨N, 1, none⟩ = some (.int .i64 v0) ∧ w''.cell? ⟨N + 1, 0, none⟩ = some (.int .u64 t1) ∧ w''.cell? ⟨N + 1, 1, none⟩ = some (.int .i64 v1) ∧ Below w1.heap.size w1 w'')) := Lib.hid (fun w' ⟨_, _, _, _, hb⟩ => by
    refine (lives26 w').mono ?_
    rintro e w'' ⟨rfl, hb'⟩
    have hbb := hb.trans (hb'.mono hb.size)
    obtain ⟨x0, x1⟩ := two_rd (ex_below HS0.out hbb)
    obtain ⟨x2, x3⟩ := two_rd (ex_below HS1.out hbb)
    exact ⟨rfl, x0, x1, x2, x3, hbb⟩)

  obtain ⟨c0, c1⟩ := two_rd HS0.out
  obtain ⟨c2, c3⟩ := two_rd HS1.out
  go_region_held3 (fun w' => w'.cell? ⟨N, 0, none⟩ = some (.int .u64 t0) ∧ w'.cell? ⟨N, 1, none⟩ = some (.int .i64 v0) ∧ w'.cell? ⟨N + 1, 0, none⟩ = some (.int .u64 t1) ∧ w'.cell? ⟨N + 1, 1, none⟩ = some (.int .i64 v1) ∧ Below w1.heap.size w1 w')
    (first | exact ⟨c0, c1, c2, c3, (Below.refl _ _).drew⟩ | assumption)
    (first
      | (go_at_call 27; (with_reducible refine (HC1.out _ (by assumption)).mono ?_); rintro e w2 ⟨rfl, hS1⟩)
      | (go_at_call 28; (with_reducible refine (HC2.out _ (by assumption)).mono ?_); rintro e w3 ⟨rfl, hS2⟩)
      | (go_at_call 29; (with_reducible refine (HC3.out _ (by assumption)).mono ?_); rintro e w4 ⟨rfl, hS3⟩)
      | (go_at_call 30; (with_reducible refine (HC4.out _ (by assumption)).mono ?_); rintro e w5 ⟨rfl, hS4⟩)
      | (go_at_call 31; (with_reducible refine (HC5.out _ (by assumption)).mono ?_); rintro e w6 ⟨rfl, hS5⟩))
  all_goals
    obtain ⟨-, -, -, -, hb6⟩ := hS5
    have HB6 := Lib.hid (HB.out.trans (hb6.mono HB.out.size))
    clear hb6 c0 c1 c2 c3
    go_wp2_with fail
    go_ret
    exact ⟨rfl, HB6.out⟩
end Go.Proofs.Ythefnakbpalecaa

/- The example of layer 10. -/
import Derived.Test.YtfeegohjgecjgaaCaE
import Derived.Test.YtfeegohjgecjgaaCaF
namespace Go.Proofs.Ytfeegohjgecjgaa
open Go.RowKit

/-- What is due is one thing. -/
theorem Cal.due_is {D : Cal} {s b v e d : Int} (h : D.Dues s b v e) (s0 : 0 ≤ s) (hb : 0 < b) (hsd : s < d) (hd : d ≤ 1125899906842624) (hg : D.g d = D.g s + b) (ho : D.opB (d - 1) = true) (ht : tsum D.F D.T D.n ≠ 0) : v = d ∧ e = 0 := by
  have h1 := D.g_step (d - 1) (by omega)
  rw [ho, show d - 1 + 1 = d by omega] at h1
  simp only [if_true] at h1
  rcases h with ⟨h, _, _⟩ | ⟨_, _, h, _⟩ | ⟨_, _, _, h, _⟩ | ⟨_, _, _, _, h⟩
  · omega
  · omega
  · exact absurd h ht
  · rcases h with ⟨_, _, h⟩ | ⟨h2, h3, h4, h5, h6⟩
    · have := D.g_mono (a := d) (b := 1125899906842624) (by omega) hd
      omega
    · refine ⟨?_, h2⟩
      have h7 := D.g_step (v - 1) (by omega)
      rw [h4, show v - 1 + 1 = v by omega] at h7
      simp only [if_true] at h7
      rcases Int.lt_trichotomy v d with hc | hc | hc
      · have := D.g_mono (a := v) (b := d - 1) (by omega) (by omega)
        omega
      · exact hc
      · have := D.g_mono (a := d) (b := v - 1) (by omega) (by omega)
        omega
def ex10 : Cal := ⟨fr [(10, 20)], til [(10, 20)], 1, fun _ => 0, fun _ => 0, 0, 0⟩
theorem ex10_ok : ex10.ok := ⟨wk_ex, by decide, by decide, by decide, by decide⟩
theorem ex10_g {a b : Int} (h0 : 0 ≤ a) (hab : a ≤ b) (h1 : b ≤ 1125899906842624) : ex10.g b = ex10.g a + (ex10.V b - ex10.V a) := by
  have := ex10.g_free ex10_ok h0 hab h1 (fun t _ _ => by
    cases hh : hasB ex10.G ex10.U t ex10.m with
    | false => rfl
    | true =>
      obtain ⟨j, hj, _⟩ := (hasB_iff ex10.m).1 hh
      exact absurd hj (Nat.not_lt_zero _))
  omega
theorem ex10_one {v e : Int} (h : ex10.Dues 0 5 v e) : v = 15 ∧ e = 0 := by
  refine ex10.due_is h (by decide) (by decide) (d := 15) (by decide) (by decide) ?_ (by decide +kernel) (by decide)
  rw [ex10_g (a := 0) (b := 15) (by decide) (by decide) (by decide)]
  have : ex10.V 15 - ex10.V 0 = 5 := by decide +kernel
  omega
theorem ex10_two {v e : Int} (h : ex10.Dues 15 6 v e) : v = 604811 ∧ e = 0 := by
  refine ex10.due_is h (by decide) (by decide) (d := 604811) (by decide) (by decide) ?_ (by decide +kernel) (by decide)
  rw [ex10_g (a := 15) (b := 604811) (by decide) (by decide) (by decide)]
  have : ex10.V 604811 - ex10.V 15 = 6 := by decide +kernel
  omega

set_option maxRecDepth 100000 in
set_option maxHeartbeats 4000000 in
theorem lives10 (w : World) : Calls Try.prog 32 #[] w fun e w' => e = .returned (.bool true) ∧ Below w.heap.size w w' := by
  have B0 : Below w.heap.size w (w.alloc (.cells #[.int .i64 10, .int .i64 20] 30)) := (Below.refl _ _).alloc (Nat.le_refl _) _
  have hnew : Calls Try.prog 33 #[.agg #[.int .i64 0, .slice (some ⟨w.heap.size, 0, none⟩) 1 1, .slice none 0 0]] (w.alloc (.cells #[.int .i64 10, .int .i64 20] 30)) (Clocked ex10 _) :=
    clock_ok ex10 (some ⟨w.heap.size, 0, none⟩) 1 none 0 _ ex10_ok (lit_one w 10 20 (by omega)) ⟨by decide, fun h => absurd h (Nat.not_lt_zero _)⟩
  have HB0 := Lib.hid B0
  clear B0
  go_enter Try.func32, Try.ntmps32
  go_wp2_with fail
  refine hnew.mono ?_
  rintro e w1 ⟨L, rfl, hC, hle, hb1⟩
  have HB1 := Lib.hid (HB0.out.trans (hb1.mono HB0.out.size))
  have HL := Lib.hid (Nat.le_trans HB0.out.size hle)
  have hdu := due_any hC ex10_ok 0 5 (by omega)
  clear hnew hC hle hb1
  go_wp2_with fail
  refine hdu.mono ?_
  rintro e w2 ⟨v, er, rfl, hv, hC, ho⟩
  obtain ⟨rfl, rfl⟩ := ex10_one hv
  have HB2 := Lib.hid (HB1.out.trans (ho.toBelow HB1.out.size (fun k hk => hk ▸ HL.out)))
  have hdu2 := due_any hC ex10_ok 15 6 (by omega)
  clear hdu hv hC ho
  go_wp2_with fail
  refine hdu2.mono ?_
  rintro e w3 ⟨v, er, rfl, hv, hC, ho⟩
  obtain ⟨rfl, rfl⟩ := ex10_two hv
  have HB3 := Lib.hid (HB2.out.trans (ho.toBelow HB2.out.size (fun k hk => hk ▸ HL.out)))
  clear hdu2 hv hC ho
  go_wp2_with fail
  go_ret
  exact ⟨rfl, HB3.out⟩
end Go.Proofs.Ytfeegohjgecjgaa

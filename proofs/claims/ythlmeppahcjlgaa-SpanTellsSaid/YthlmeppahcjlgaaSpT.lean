/- SpanTells, walked. -/
import Derived.Test.YthlmeppahcjlgaaSpL
import Derived.Test.YthlmeppahcjlgaaSpM
namespace Go.Proofs.Ythlmeppahcjlgaa
open Go.RowKit

set_option maxRecDepth 100000 in
set_option maxHeartbeats 4000000 in
theorem tells_big (a a' : Option Addr) (n cap m cap' : Nat) (t b : Int) (w : World) (hn : n ≤ 9223372036854775807) (hm : m ≤ 9223372036854775807) (h : 100 < n ∨ 100 < m) :
    Calls Try.prog 3 #[.slice a n cap, .slice a' m cap', .int .i64 t, .int .i64 b] w fun e w' => e = .returned (.bool true) ∧ Below w.heap.size w w' := by
  have hl := lives7 w
  by_cases h1 : 100 < n
  · have d1 : decide (100 < (n : Int)) = true := decide_eq_true (by omega)
    go_enter Try.func3, Try.ntmps3
    go_wp2_with fail
    refine hl.mono ?_
    rintro e w1 ⟨rfl, hb⟩
    go_wp2_with fail
    go_ret
    exact ⟨rfl, hb⟩
  · have d1 : decide (100 < (n : Int)) = false := decide_eq_false (by omega)
    have d2 : decide (100 < (m : Int)) = true := decide_eq_true (by omega)
    go_enter Try.func3, Try.ntmps3
    go_wp2_with fail
    refine hl.mono ?_
    rintro e w1 ⟨rfl, hb⟩
    go_wp2_with fail
    go_ret
    exact ⟨rfl, hb⟩
set_option maxRecDepth 100000 in
set_option maxHeartbeats 8000000 in
theorem tells_ok (a a' : Option Addr) (n cap m cap' : Nat) (F T F' T' : Nat → Int) (t b : Int) (w : World) (hS : Sps w a n F T) (hS' : Sps w a' m F' T') (hn : n ≤ 100) (hm : m ≤ 100) (hb1 : -9223372036854775808 ≤ b) (hb2 : b ≤ 9223372036854775807) :
    Calls Try.prog 3 #[.slice a n cap, .slice a' m cap', .int .i64 t, .int .i64 b] w fun e w' => e = .returned (.bool true) ∧ Below w.heap.size w w' := by
  have d1 : decide (100 < (n : Int)) = false := decide_eq_false (by omega)
  have d2 : decide (100 < (m : Int)) = false := decide_eq_false (by omega)
  have HC := Lib.hid hS
  have HC' := Lib.hid hS'
  clear hS hS'
  go_enter Try.func3, Try.ntmps3
  go_wp2_with fail
  go_loopw [26] (fun i wr => ∃ k : Nat, k ≤ n ∧ i = .int .i64 k ∧ Below w.heap.size w wr) (fun i _ => n - (intOf i).toNat)
  case atStart => exact ⟨0, Nat.zero_le _, rfl, Below.refl _ _⟩
  case round =>
    obtain ⟨k, hk, rfl, hB⟩ := hrel
    by_cases hlt : k < n
    · obtain ⟨ab, ao, rfl, hab, c0, c1, b0, b1, b2, b3⟩ := HC.out.at hB k hlt
      have HB := Lib.hid hB
      obtain ⟨f, e0⟩ : ∃ x, F k = x := ⟨_, rfl⟩
      obtain ⟨u, e1⟩ : ∃ x, T k = x := ⟨_, rfl⟩
      rw [e0] at c0 b0 b1
      rw [e1] at c1 b2 b3
      clear hB e0 e1
      have k0 : (0 : Int) ≤ (k : Int) := by omega
      have kl : (k : Int) < (n : Int) := by omega
      have d4 : decide ((k : Int) < (n : Int)) = true := by simp [hlt]
      have HA := Lib.hid (HB.out.alloc HB.out.size (.cells #[.int .i64 f, .int .i64 u] 25))
      have s0 : (wr.alloc (.cells #[.int .i64 f, .int .i64 u] 25)).cell? ⟨wr.heap.size, 0, none⟩ = some (.int .i64 f) := by simp
      have s1 : (wr.alloc (.cells #[.int .i64 f, .int .i64 u] 25)).cell? ⟨wr.heap.size, 1, none⟩ = some (.int .i64 u) := by simp
      have s2 : wr.heap.size < (wr.alloc (.cells #[.int .i64 f, .int .i64 u] 25)).heap.size := by simp
      obtain ⟨c, hr⟩ : ∃ c, rightB f u = c := ⟨_, rfl⟩
      go_wp2_with fail
      generalize hx : wr.alloc (.cells #[.int .i64 f, .int .i64 u] 25) = wx at *
      obtain ⟨bq, hbq⟩ : ∃ q, wr.heap.size = q := ⟨_, rfl⟩
      rw [hbq] at s0 s1 s2 ⊢
      clear hx c0 c1 hbq
      have hS : ∀ w1, Below wx.heap.size wx w1 → w1.cell? ⟨bq, 0, none⟩ = some (.int .i64 f) ∧ w1.cell? ⟨bq, 1, none⟩ = some (.int .i64 u) ∧ Below wx.heap.size wx w1 := fun w1 B =>
        ⟨(B.cell (p := ⟨bq, 0, none⟩) s2).trans s0, (B.cell (p := ⟨bq, 1, none⟩) s2).trans s1, B⟩
      have hR : ∀ w1, Below wx.heap.size wx w1 → Calls Try.prog 13 #[.agg #[.int .i64 f, .int .i64 u]] w1 fun e w' => e = .returned (.bool c) ∧ (w'.cell? ⟨bq, 0, none⟩ = some (.int .i64 f) ∧ w'.cell? ⟨bq, 1, none⟩ = some (.int .i64 u) ∧ Below wx.heap.size wx w') := fun w1 B =>
        (right_any f u w1).mono (by rintro e w' ⟨rfl, hb⟩; exact ⟨by rw [hr], hS _ (B.trans (hb.mono B.size))⟩)
      have hQ : ∀ w1, Below wx.heap.size wx w1 → Calls Try.prog 14 #[.agg #[.int .i64 f, .int .i64 u]] w1 fun e w' => e = .returned (.bool c) ∧ (w'.cell? ⟨bq, 0, none⟩ = some (.int .i64 f) ∧ w'.cell? ⟨bq, 1, none⟩ = some (.int .i64 u) ∧ Below wx.heap.size wx w') := fun w1 B =>
        (rright_any f u w1).mono (by rintro e w' ⟨rfl, hb⟩; exact ⟨by rw [hr], hS _ (B.trans (hb.mono B.size))⟩)
      have h0 := hS wx.drew (Below.refl _ _).drew
      have HR := Lib.hid hR
      have HQ := Lib.hid hQ
      clear hS hR hQ
      go_region_held3 (fun w' => w'.cell? ⟨bq, 0, none⟩ = some (.int .i64 f) ∧ w'.cell? ⟨bq, 1, none⟩ = some (.int .i64 u) ∧ Below wx.heap.size wx w')
        (first | exact h0 | assumption)
        (first
          | (go_at_call 13; refine (HR.out _ (by simp [*])).mono ?_; rintro e w8 ⟨rfl, hV⟩)
          | (go_at_call 14; refine (HQ.out _ (by simp [*])).mono ?_; rintro e w8 ⟨rfl, hV⟩))
      all_goals
        go_wp2_with fail
        go_roundw
        case rel => exact ⟨k + 1, hlt, by go_num, HA.out.trans (by rename_i hV; exact hV.2.2.mono HA.out.size)⟩
        case measure => simp [intOf]; omega
    · obtain rfl : k = n := by omega
      have HB := Lib.hid hB
      have hA := add_any t b wr hb1 hb2
      have hA' := radd_any t b wr hb1 hb2
      have hr := row_any a k cap F T wr (HC.out.kept hB)
      clear hB
      obtain ⟨z, hz⟩ : ∃ z, rowE F T k = z := ⟨_, rfl⟩
      rw [hz] at hr
      generalize addV t b = av at hA hA'
      generalize addE t b = ae at hA hA'
      go_wp2_with fail
      refine hA.mono ?_
      rintro e w' ⟨rfl, rfl⟩
      go_wp2_with fail
      refine hA'.mono ?_
      rintro e w' ⟨rfl, rfl⟩
      clear hA hA'
      go_wp2_with fail
      refine hr.mono ?_
      rintro e w1 ⟨rfl, hb1⟩
      clear hr
      have HB1 := Lib.hid (HB.out.trans (hb1.mono HB.out.size))
      have hq := rrow_any a k cap F T w1 (HC.out.kept HB1.out)
      rw [hz] at hq
      clear hb1 HB
      go_wp2_with fail
      refine hq.mono ?_
      rintro e w2 ⟨rfl, hb2⟩
      clear hq
      have HB2 := Lib.hid (HB1.out.trans (hb2.mono HB1.out.size))
      have hs := same_any a a' k cap m cap' F T F' T' w2 (HC.out.kept HB2.out) (HC'.out.kept HB2.out)
      obtain ⟨c, hc⟩ : ∃ c, sameL F T F' T' k m = c := ⟨_, rfl⟩
      rw [hc] at hs
      clear hb2 HB1
      go_wp2_with fail
      refine hs.mono ?_
      rintro e w3 ⟨rfl, q3, rfl⟩
      clear hs
      have HB3 := Lib.hid (below_drewN' HB2.out q3)
      have hs := rsame_any a a' k cap m cap' F T F' T' _ (HC.out.kept HB3.out) (HC'.out.kept HB3.out)
      rw [hc] at hs
      generalize w2.drewN q3 = w3 at *
      go_wp2_with fail
      refine hs.mono ?_
      rintro e w4 ⟨rfl, q4, rfl⟩
      clear hs HB2
      have HB4 := Lib.hid (below_drewN' HB3.out q4)
      have hs := same_any a a k cap k cap F T F T _ (HC.out.kept HB4.out) (HC.out.kept HB4.out)
      have e1 : sameL F T F T k k = true := by
        simp only [sameL, decide_true, Bool.true_and]
        exact sameB_iff.2 fun j _ => ⟨rfl, rfl⟩
      rw [e1] at hs
      generalize w3.drewN q4 = w4 at *
      clear HB3 e1 hc hz
      go_wp2_with fail
      refine hs.mono ?_
      rintro e w5 ⟨rfl, q5, rfl⟩
      clear hs
      have HB5 := Lib.hid (below_drewN' HB4.out q5)
      generalize w4.drewN q5 = w5 at *
      have hl := lives7 w5
      go_wp2_with fail
      refine hl.mono ?_
      rintro e w6 ⟨rfl, hb6⟩
      go_wp2_with fail
      go_ret
      exact ⟨rfl, HB5.out.trans (hb6.mono HB5.out.size)⟩
end Go.Proofs.Ythlmeppahcjlgaa

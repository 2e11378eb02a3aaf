/- The plan's Nth; New. -/
import Derived.Test.YtfeegohjgecjgaaWkD
namespace Go.Proofs.Ytfeegohjgecjgaa
open Go.RowKit

/-- Nth's answer: the second, and an error's number. -/
def pnV (F T : Nat → Int) (n : Nat) (m : Int) : Int :=
  if m < 0 then 0 else if tsum F T n = 0 then 0 else if 3723213977 < m / tsum F T n then 0 else
    if 2251799813685248 < m / tsum F T n * 604800 + nthV F T n (m % tsum F T n) then 0 else m / tsum F T n * 604800 + nthV F T n (m % tsum F T n)
def pnE (F T : Nat → Int) (n : Nat) (m : Int) : Int :=
  if m < 0 then 2 else if tsum F T n = 0 then 40 else if 3723213977 < m / tsum F T n then 10 else
    if 2251799813685248 < m / tsum F T n * 604800 + nthV F T n (m % tsum F T n) then 10 else 0
theorem pn_neg {F T : Nat → Int} {n : Nat} {m : Int} (h : m < 0) : pnV F T n m = 0 ∧ pnE F T n m = 2 := by simp [pnV, pnE, h]
theorem pn_closed {F T : Nat → Int} {n : Nat} {m : Int} (h : 0 ≤ m) (h0 : tsum F T n = 0) : pnV F T n m = 0 ∧ pnE F T n m = 40 := by
  simp [pnV, pnE, h0]; omega
theorem pn_far {F T : Nat → Int} {n : Nat} {m : Int} (h : 0 ≤ m) (h0 : tsum F T n ≠ 0) (h1 : 3723213977 < m / tsum F T n) : pnV F T n m = 0 ∧ pnE F T n m = 10 := by
  unfold pnV pnE
  rw [if_neg (by omega), if_neg h0, if_pos h1, if_neg (by omega), if_neg h0, if_pos h1]
  exact ⟨rfl, rfl⟩
theorem pn_past {F T : Nat → Int} {n : Nat} {m : Int} (h : 0 ≤ m) (h0 : tsum F T n ≠ 0) (h1 : ¬ 3723213977 < m / tsum F T n) (h2 : 2251799813685248 < m / tsum F T n * 604800 + nthV F T n (m % tsum F T n)) : pnV F T n m = 0 ∧ pnE F T n m = 10 := by
  unfold pnV pnE
  rw [if_neg (by omega), if_neg h0, if_neg h1, if_pos h2, if_neg (by omega), if_neg h0, if_neg h1, if_pos h2]
  exact ⟨rfl, rfl⟩
theorem pn_ok {F T : Nat → Int} {n : Nat} {m : Int} (h : 0 ≤ m) (h0 : tsum F T n ≠ 0) (h1 : ¬ 3723213977 < m / tsum F T n) (h2 : ¬ 2251799813685248 < m / tsum F T n * 604800 + nthV F T n (m % tsum F T n)) :
    pnV F T n m = m / tsum F T n * 604800 + nthV F T n (m % tsum F T n) ∧ pnE F T n m = 0 := by
  unfold pnV pnE
  rw [if_neg (by omega), if_neg h0, if_neg h1, if_neg h2, if_neg (by omega), if_neg h0, if_neg h1, if_neg h2]
  exact ⟨rfl, rfl⟩
theorem nth_bounds {F T : Nat → Int} {n : Nat} {m : Int} (h : Wk F T n) (h0 : 0 ≤ m) (h1 : m < tsum F T n) : 0 ≤ nthV F T n m ∧ nthV F T n m < 604800 := by
  obtain ⟨k, hk, h2, h3⟩ := tsum_find n h0 h1
  have e := nthV_at h.good hk h2 h3
  have h4 : tsum F T (k + 1) = tsum F T k + (T k - F k) := rfl
  have h5 := h.week k hk
  obtain ⟨g0, g1, g2, _⟩ := good_at h.good hk
  omega

/-- What the plan's Nth leaves behind. -/
def NthGot (base P C : Nat) (a : Option Addr) (n c : Nat) (F T : Nat → Int) (v e : Int) (w : World) (E : Ending) (w' : World) : Prop :=
  E = .returned (.tuple #[.int .i64 v, .int .i64 e]) ∧ Pl base P C a n c F T w' ∧ Stays base w w'
set_option maxRecDepth 100000 in
set_option maxHeartbeats 8000000 in
theorem nth_plan {base P C : Nat} {a : Option Addr} {n c : Nat} {F T : Nat → Int} {w : World} (m : Int) (h : Pl base P C a n c F T w) (hw : Wk F T n) (hb : base ≤ w.heap.size) (hm1 : m ≤ 9223372036854775807) :
    Calls Try.prog 85 #[.pointer (some ⟨P, 0, none⟩), .int .i64 m] w (NthGot base P C a n c F T (pnV F T n m) (pnE F T n m) w) := by
  have htot := total_any h hw.len hw.good
  obtain ⟨t0, t1⟩ := hw.total
  have HW := Lib.hid hw
  have HN := Lib.hid (fun h => @pn_neg F T n m h)
  have HCL := Lib.hid (fun h h0 => @pn_closed F T n m h h0)
  have HF := Lib.hid (fun h h0 h1 => @pn_far F T n m h h0 h1)
  have HPA := Lib.hid (fun h h0 h1 h2 => @pn_past F T n m h h0 h1 h2)
  have HOK := Lib.hid (fun h h0 h1 h2 => @pn_ok F T n m h h0 h1 h2)
  have HNB := Lib.hid (fun x (h0 : 0 ≤ x) (h1 : x < tsum F T n) => nth_bounds (m := x) hw h0 h1)
  have HNY := Lib.hid (fun x (h0 : 0 ≤ x) (h1 : x < tsum F T n) w1 (hS : Sps w1 a n F T) => nth_yes a n c F T x w1 hS hw.len hw.good h0 h1)
  obtain ⟨tot, ht⟩ : ∃ x, tsum F T n = x := ⟨_, rfl⟩
  rw [ht] at t0 t1 htot HCL HF HPA HOK HNB HNY
  obtain ⟨v, hv⟩ : ∃ x, pnV F T n m = x := ⟨_, rfl⟩
  obtain ⟨er, he⟩ : ∃ x, pnE F T n m = x := ⟨_, rfl⟩
  rw [hv, he] at HN HCL HF HPA HOK ⊢
  clear h hw ht hv he
  go_enter Try.func85, Try.ntmps85
  go_wp2_with fail
  refine htot.mono ?_
  rintro e w1 ⟨rfl, hP1, hO1⟩
  clear htot
  have hcr := created_yes P C w1 hP1.bef
  have HS1 := Lib.hid (show Stays base w w1 from ⟨hO1.size, fun W0 h => h.trans (hO1.toBelow hb fun k hk => by subst hk; exact hP1.hC)⟩)
  have hrow := hP1.row
  have HP1 := Lib.hid hP1
  clear hP1 hO1
  by_cases h0 : m < 0
  · have d0 : decide (m < 0) = true := decide_eq_true h0
    obtain ⟨rfl, rfl⟩ := HN.out h0
    go_wp2_with fail
    refine hcr.mono ?_
    rintro e w' ⟨rfl, rfl⟩
    go_wp2_with fail
    go_ret2
    exact ⟨rfl, HP1.out, HS1.out⟩
  have d0 : decide (m < 0) = false := decide_eq_false h0
  have m0 : 0 ≤ m := by omega
  by_cases hz : tot = 0
  · obtain ⟨rfl, rfl⟩ := HCL.out m0 hz
    have d1 : (tot == 0) = true := by simp [hz]
    clear hz
    go_wp2_with fail
    refine hcr.mono ?_
    rintro e w' ⟨rfl, rfl⟩
    go_wp2_with fail
    go_ret2
    exact ⟨rfl, HP1.out, HS1.out⟩
  have d1 : (tot == 0) = false := by simp [hz]
  have t2 : 1 ≤ tot := by omega
  have q0 : 0 ≤ m / tot := Int.ediv_nonneg m0 (by omega)
  have q1 : m / tot ≤ m := Int.ediv_le_self tot m0
  have r0 : 0 ≤ m % tot := Int.emod_nonneg m hz
  have r1 : m % tot < tot := Int.emod_lt_of_pos m (by omega)
  by_cases hf : 3723213977 < m / tot
  · obtain ⟨rfl, rfl⟩ := HF.out m0 hz hf
    have d2 : decide (3723213977 < m / tot) = true := decide_eq_true hf
    clear hz
    go_wp2_with fail
    refine hcr.mono ?_
    rintro e w' ⟨rfl, rfl⟩
    go_wp2_with fail
    go_ret2
    exact ⟨rfl, HP1.out, HS1.out⟩
  have d2 : decide (3723213977 < m / tot) = false := decide_eq_false hf
  have hny := HNY.out (m % tot) r0 r1
  have hnb := HNB.out (m % tot) r0 r1
  have HE : Hid (∀ x, x = nthV F T n (m % tot) → x = nthV F T n (m % tot)) := Lib.hid (fun x h => h)
  have HPA := Lib.hid (HPA.out m0 hz (by omega))
  have HOK := Lib.hid (HOK.out m0 hz (by omega))
  obtain ⟨z, hzz⟩ : ∃ z, nthV F T n (m % tot) = z := ⟨_, rfl⟩
  rw [hzz] at hny hnb HPA HOK
  have z0 := hnb.1
  have z1 := hnb.2
  have HNY := Lib.hid hny
  clear hny hnb HE hzz
  obtain ⟨q, hq⟩ : ∃ q, m / tot = q := ⟨_, rfl⟩
  obtain ⟨r, hr⟩ : ∃ r, m % tot = r := ⟨_, rfl⟩
  have q2 : q ≤ 3723213977 := by omega
  have HQ := Lib.hid hq
  have HR := Lib.hid hr
  rw [hq] at HPA HOK q0
  rw [hr] at r0 r1 HNY
  have hmod : m.tmod tot = r := by rw [Int.tmod_eq_emod_of_nonneg m0, hr]
  have hwr : IntKind.i64.wrap r = r := IntWalk.i64_in _ (by omega)
  have h0w : w1.drew.cell? ⟨P, 0, none⟩ = some (.slice a n c) := hrow
  clear hq hr q1 hf
  go_wp2_with fail
  refine hcr.mono ?_
  rintro e w' ⟨rfl, rfl⟩
  clear hcr
  go_wp2_with fail
  have HY := Lib.hid (HNY.out w1.drew (HP1.out.sps.kept (Below.refl _ _).drew))
  have HPD := Lib.hid (HP1.out.kept (Below.refl _ _).drew)
  have HSD : Hid (Stays base w1 w1.drew) := Lib.hid ⟨Nat.le_refl _, fun W0 h => h.drew⟩
  have hbd : base ≤ w1.drew.heap.size := Nat.le_trans hb HS1.out.1
  go_region_held3 (fun w' => w'.cell? ⟨P, 0, none⟩ = some (.slice a n c))
    (first | exact h0w | assumption)
    ((go_at_call 95; refine HY.out.mono ?_; rintro e w8 ⟨rfl, hb8⟩; have hS8 := (HPD.out.kept hb8).row; have HP8 := Lib.hid (HPD.out.kept hb8); have HS8 := Lib.hid (HS1.out.trans (HSD.out.trans (Stays.below hbd hb8))); clear hb8))
  all_goals
    have hq := HQ.out
    clear hmod hwr
    by_cases hp : 2251799813685248 < q * 604800 + z
    · have d3 : decide (2251799813685248 < q * 604800 + z) = true := decide_eq_true hp
      obtain ⟨rfl, rfl⟩ := HPA.out hp
      go_wp2_with fail
      go_ret2
      exact ⟨rfl, HP8.out, HS8.out⟩
    · have d3 : decide (2251799813685248 < q * 604800 + z) = false := decide_eq_false hp
      have HV := Lib.hid (HOK.out (by omega))
      go_wp2_with fail
      go_ret2
      exact ⟨ret_two HV.out.1.symm HV.out.2.symm, HP8.out, HS8.out⟩
theorem nth_plan_nil (m : Int) (w : World) : Calls Try.prog 85 #[.pointer none, .int .i64 m] w fun e w' => e = .returned (.tuple #[.int .i64 0, .int .i64 1]) ∧ w = w' := by
  have h1 := total_nil w
  have h2 := created_nil w
  go_enter Try.func85, Try.ntmps85
  go_wp2_with (first
    | (go_at_call 66; refine h1.mono ?_; rintro e w' ⟨rfl, rfl⟩)
    | (go_at_call 80; refine h2.mono ?_; rintro e w' ⟨rfl, rfl⟩))
  go_ret2
  exact ⟨rfl, rfl⟩
theorem nth_plan_no (P : Nat) (m : Int) (w : World) (h : w.cell? ⟨P, 1, none⟩ = some (.pointer none)) : Calls Try.prog 85 #[.pointer (some ⟨P, 0, none⟩), .int .i64 m] w fun e w' => e = .returned (.tuple #[.int .i64 0, .int .i64 1]) ∧ w = w' := by
  have h1 := total_no P w h
  have h2 := created_no P w h
  go_enter Try.func85, Try.ntmps85
  go_wp2_with (first
    | (go_at_call 66; refine h1.mono ?_; rintro e w' ⟨rfl, rfl⟩)
    | (go_at_call 80; refine h2.mono ?_; rintro e w' ⟨rfl, rfl⟩))
  go_ret2
  exact ⟨rfl, rfl⟩
end Go.Proofs.Ytfeegohjgecjgaa

/- SpanJoins, walked. -/
import Derived.Test.YthlmeppahcjlgaaSpL
import Derived.Test.YthlmeppahcjlgaaSpM
import Derived.IntWalk
namespace Go.Proofs.Ythlmeppahcjlgaa
open Go.RowKit

theorem fr_mem {l : List (Int × Int)} {k : Nat} (hk : k < l.length) : (fr l k, til l k) ∈ l := by
  have e : (fr l k, til l k) = l[k] := by simp [fr, til, hk]
  rw [e]; exact List.getElem_mem hk
theorem sep_at {l : List (Int × Int)} (h : sep l) {i k : Nat} (hik : i < k) (hk : k < l.length) : til l i < fr l k := by
  have := (List.pairwise_iff_getElem.1 h) i k (by omega) hk hik
  have e1 : til l i = (l[i]).2 := by simp [til, show i < l.length by omega]
  have e2 : fr l k = (l[k]).1 := by simp [fr, hk]
  rw [e1, e2]; exact this
theorem good_of_sep {l : List (Int × Int)} (h : sep l) (hr : rights l) : ∀ n, n ≤ l.length → good (fr l) (til l) n = true := by
  intro n
  induction n with
  | zero => intro _; rfl
  | succ n ih =>
    intro hn
    have hn' : n < l.length := by omega
    simp only [good, ih (by omega), Bool.true_and, Bool.and_eq_true]
    refine ⟨(rightB_iff _ _).2 (hr _ (fr_mem hn')), ?_⟩
    cases n with
    | zero => rfl
    | succ n =>
      have := sep_at h (show n < n + 1 by omega) hn'
      have e : n + 1 - 1 = n := rfl
      rw [e]
      simp only [Bool.or_eq_true, decide_eq_true_eq]
      exact .inr (by omega)
theorem has_cov (l : List (Int × Int)) (t : Int) : hasB (fr l) (til l) t l.length = true ↔ cov l t := by
  rw [hasB_iff]
  constructor
  · rintro ⟨k, hk, h1, h2⟩
    exact ⟨_, fr_mem hk, h1, h2⟩
  · rintro ⟨s, hs, h1, h2⟩
    obtain ⟨k, hk, rfl⟩ := List.getElem_of_mem hs
    refine ⟨k, hk, ?_, ?_⟩
    · have : fr l k = (l[k]).1 := by simp [fr, hk]
      omega
    · have : til l k = (l[k]).2 := by simp [til, hk]
      omega
theorem has_pairs (F T : Nat → Int) (n : Nat) (t : Int) : hasB F T t n = true ↔ cov (pairs F T n) t := by
  rw [hasB_iff]
  constructor
  · rintro ⟨k, hk, h1, h2⟩
    exact ⟨(F k, T k), pairs_mem.2 ⟨k, hk, rfl⟩, h1, h2⟩
  · rintro ⟨s, hs, h1, h2⟩
    obtain ⟨k, hk, rfl⟩ := pairs_mem.1 hs
    exact ⟨k, hk, h1, h2⟩

set_option maxRecDepth 100000 in
theorem joins_big (a : Option Addr) (n cap : Nat) (t : Int) (w : World) (hn : n ≤ 9223372036854775807) (h : 32 < n) :
    Calls Try.prog 6 #[.slice a n cap, .int .i64 t] w fun e w' => e = .returned (.bool true) ∧ Below w.heap.size w w' := by
  have hl := lives7 w
  have d1 : decide (32 < (n : Int)) = true := decide_eq_true (by omega)
  go_enter Try.func6, Try.ntmps6
  go_wp2_with fail
  refine hl.mono ?_
  rintro e w1 ⟨rfl, hb⟩
  go_wp2_with fail
  go_ret
  exact ⟨rfl, hb⟩
set_option maxRecDepth 100000 in
set_option maxHeartbeats 4000000 in
theorem joins_bad (a : Option Addr) (n cap k0 : Nat) (F T : Nat → Int) (x : Int) (w : World) (hS : Sps w a n F T) (hn : n ≤ 32) (hk0 : k0 < n) (hbad : rightB (F k0) (T k0) = false) :
    Calls Try.prog 6 #[.slice a n cap, .int .i64 x] w fun e w' => e = .returned (.bool true) ∧ Below w.heap.size w w' := by
  have d1 : decide (32 < (n : Int)) = false := decide_eq_false (by omega)
  have HC := Lib.hid hS
  have HB0 := Lib.hid hbad
  clear hS hbad
  go_enter Try.func6, Try.ntmps6
  go_wp2_with fail
  go_loopw [5, 16] (fun z i wr => ∃ (k : Nat) (b : Bool), k ≤ k0 ∧ i = .int .i64 k ∧ z = .bool b ∧ Below w.heap.size w wr) (fun _ i _ => n - (intOf i).toNat)
  case atStart => exact ⟨0, false, Nat.zero_le _, rfl, rfl, Below.refl _ _⟩
  case round =>
    obtain ⟨k, b, hk, rfl, rfl, hB⟩ := hrel
    have hlt : k < n := by omega
    obtain ⟨ab, ao, rfl, hab, c0, c1, b0, b1, b2, b3⟩ := HC.out.at hB k hlt
    have HB := Lib.hid hB
    have HS := Lib.hid hB.size
    have hnx : rightB (F k) (T k) = true → k + 1 ≤ k0 := by
      intro h
      rcases Nat.lt_or_ge k k0 with h1 | h1
      · exact h1
      · obtain rfl : k = k0 := by omega
        rw [HB0.out] at h; cases h
    obtain ⟨f, e0⟩ : ∃ x, F k = x := ⟨_, rfl⟩
    obtain ⟨t, e1⟩ : ∃ x, T k = x := ⟨_, rfl⟩
    rw [e0] at c0 b0 b1 hnx
    rw [e1] at c1 b2 b3 hnx
    have E0 := Lib.hid e0
    have E1 := Lib.hid e1
    clear hB e0 e1
    have i0 : (0 : Int) ≤ (k : Int) := by omega
    have kl : (k : Int) < (n : Int) := by omega
    have d4 : decide ((k : Int) < (n : Int)) = true := by simp [hlt]
    have hr' := right_any f t
    obtain ⟨c, hr⟩ : ∃ c, rightB f t = c := ⟨_, rfl⟩
    rw [hr] at hr' hnx
    have HR := Lib.hid hr
    clear hr
    have HX := Lib.hid hnx
    clear hnx
    cases c
    · go_wp2_with fail
      refine (hr' _).mono ?_
      rintro e w1 ⟨rfl, hb⟩
      have HB1 := Lib.hid (below_call HB.out HS.out hb)
      have hj := join_bad _ n cap k F T w1 (HC.out.kept HB1.out) hlt (by rw [E0.out, E1.out]; exact HR.out)
      clear hb
      go_wp2_with fail
      refine hj.mono ?_
      rintro e w2 ⟨rfl, hb2⟩
      have HB2 := Lib.hid (HB1.out.trans (hb2.mono HB1.out.size))
      clear hb2 hj
      have hl := lives7 w2
      go_wp2_with fail
      refine hl.mono ?_
      rintro e w3 ⟨rfl, hb3⟩
      go_wp2_with fail
      go_ret
      exact ⟨rfl, HB2.out.trans (hb3.mono HB2.out.size)⟩
    · obtain ⟨p1, hp1⟩ : ∃ c, decide (f ≤ x) = c := ⟨_, rfl⟩
      obtain ⟨p2, hp2⟩ : ∃ c, decide (x < t) = c := ⟨_, rfl⟩
      cases b <;> cases p1 <;> cases p2
      all_goals
        go_wp2_with (go_at_call 13; refine (hr' _).mono ?_; rintro e w' ⟨rfl, hb⟩; obtain ⟨hc', hf'⟩ := bcell hb)
        go_roundw
        case rel => exact ⟨k + 1, _, HX.out trivial, by go_num, rfl, below_call HB.out HS.out hb⟩
        case measure => simp [intOf]; omega

set_option maxRecDepth 100000 in
set_option maxHeartbeats 8000000 in
theorem joins_ok (a : Option Addr) (n cap : Nat) (F T : Nat → Int) (x : Int) (w : World) (hS : Sps w a n F T) (hn : n ≤ 32) (hr : rights (pairs F T n)) :
    Calls Try.prog 6 #[.slice a n cap, .int .i64 x] w fun e w' => e = .returned (.bool true) ∧ Below w.heap.size w w' := by
  have d1 : decide (32 < (n : Int)) = false := decide_eq_false (by omega)
  have HC := Lib.hid hS
  have HR := Lib.hid hr
  clear hS hr
  go_enter Try.func6, Try.ntmps6
  go_wp2_with fail
  go_loopw [5, 16] (fun z i wr => ∃ k : Nat, k ≤ n ∧ i = .int .i64 k ∧ z = .bool (hasB F T x k) ∧ Below w.heap.size w wr) (fun _ i _ => n - (intOf i).toNat)
  case atStart => exact ⟨0, Nat.zero_le _, rfl, rfl, Below.refl _ _⟩
  case round =>
    obtain ⟨k, hk, rfl, rfl, hB⟩ := hrel
    by_cases hlt : k < n
    · obtain ⟨ab, ao, rfl, hab, c0, c1, b0, b1, b2, b3⟩ := HC.out.at hB k hlt
      have HB := Lib.hid hB
      have HS := Lib.hid hB.size
      have hrk : rightB (F k) (T k) = true := (rightB_iff _ _).2 (HR.out _ (pairs_mem.2 ⟨k, hlt, rfl⟩))
      have HH := Lib.hid (show hasB F T x (k + 1) = (hasB F T x k || (decide (F k ≤ x) && decide (x < T k))) from rfl)
      obtain ⟨f, e0⟩ : ∃ x, F k = x := ⟨_, rfl⟩
      obtain ⟨t, e1⟩ : ∃ x, T k = x := ⟨_, rfl⟩
      obtain ⟨b, eb⟩ : ∃ c, hasB F T x k = c := ⟨_, rfl⟩
      rw [e0] at c0 b0 b1 hrk HH
      rw [e1] at c1 b2 b3 hrk HH
      rw [eb] at HH ⊢
      clear hB e0 e1 eb
      have i0 : (0 : Int) ≤ (k : Int) := by omega
      have kl : (k : Int) < (n : Int) := by omega
      have d4 : decide ((k : Int) < (n : Int)) = true := by simp [hlt]
      have hr' := right_any f t
      rw [hrk] at hr'
      clear hrk
      obtain ⟨p1, hp1⟩ : ∃ c, decide (f ≤ x) = c := ⟨_, rfl⟩
      obtain ⟨p2, hp2⟩ : ∃ c, decide (x < t) = c := ⟨_, rfl⟩
      rw [hp1, hp2] at HH
      cases b <;> cases p1 <;> cases p2
      all_goals
        go_wp2_with (go_at_call 13; refine (hr' _).mono ?_; rintro e w' ⟨rfl, hb⟩; obtain ⟨hc', hf'⟩ := bcell hb)
        go_roundw
        case rel => exact ⟨k + 1, hlt, by go_num, by rw [HH.out]; rfl, below_call HB.out HS.out hb⟩
        case measure => simp [intOf]; omega
    · obtain rfl : k = n := by omega
      have HB := Lib.hid hB
      have hj := join_ok a k cap F T wr (HC.out.kept hB) (by omega) HR.out
      obtain ⟨c, hc⟩ : ∃ c, hasB F T x k = c := ⟨_, rfl⟩
      rw [hc]
      have HHC := Lib.hid hc
      clear hB hc
      go_wp2_with fail
      refine hj.mono ?_
      rintro e w1 ⟨v, j, rfl, hO, hJ, hjl, hb1⟩
      clear hj
      obtain ⟨va, vc, rfl, _, _⟩ := hO.shape
      have hSj := (hO.sps (rights_bounds hJ.rights)).2
      have hg := good_of_sep hJ.sep hJ.rights j.length (Nat.le_refl _)
      have hc2 : hasB (fr j) (til j) x j.length = c := by
        rw [← HHC.out]
        rw [Bool.eq_iff_iff, has_cov, has_pairs]
        exact hJ.cov x
      have hsp := fun i q (h1 : i < q) (h2 : q < j.length) => sep_at hJ.sep h1 h2
      rw [pairs_len] at hjl
      obtain ⟨m, hm⟩ : ∃ m, j.length = m := ⟨_, rfl⟩
      rw [hm] at hSj hg hc2 hsp hjl ⊢
      have HSJ := Lib.hid hSj
      have HG := Lib.hid hg
      have HC2 := Lib.hid hc2
      have HSP := Lib.hid hsp
      have HB1 := Lib.hid (HB.out.trans (hb1.mono HB.out.size))
      clear hO hJ hSj hg hc2 hsp hm hb1
      go_wp2_with fail
      go_loopw [48] (fun i wr => ∃ q : Nat, q ≤ m ∧ i = .int .i64 q ∧ ∃ z, wr = w1.drewN z) (fun i _ => m - (intOf i).toNat)
      case atStart => exact ⟨0, Nat.zero_le _, rfl, 0, rfl⟩
      case round =>
        obtain ⟨q, hq, rfl, z, rfl⟩ := hrel
        by_cases hlt2 : q < m
        · obtain ⟨ab, ao, rfl, hab, c0, c1, b0, b1, b2, b3⟩ := HSJ.out.at (Below.refl _ _) q hlt2
          have i0 : (0 : Int) ≤ (q : Int) := by omega
          have kl : (q : Int) < (m : Int) := by omega
          have d4 : decide ((q : Int) < (m : Int)) = true := by simp [hlt2]
          by_cases hq0 : q = 0
          · have d5 : decide (0 < q) = false := decide_eq_false (by omega)
            have d6 : decide ((0 : Int) < (q : Int)) = false := decide_eq_false (by omega)
            clear hq0
            go_wp2_with fail
            go_quiet (fail)
            go_wp2_with fail
            go_roundw
            case rel => exact ⟨q + 1, hlt2, by go_num, _, rfl⟩
            case measure => simp [intOf]; omega
          · obtain ⟨p, hp⟩ : ∃ p, q = p + 1 := ⟨q - 1, by omega⟩
            obtain ⟨ab', ao', e, _, _, h1, _⟩ := HSJ.out.at (Below.refl _ _) p (by omega)
            injection e with e; injection e with e1 e2; subst e1 e2
            have hlt3 := HSP.out p q (by omega) hlt2
            have d5 : decide (0 < q) = true := decide_eq_true (by omega)
            have d6 : decide ((0 : Int) < (q : Int)) = true := decide_eq_true (by omega)
            obtain ⟨f, e0⟩ : ∃ x, fr j q = x := ⟨_, rfl⟩
            obtain ⟨t, e1⟩ : ∃ x, til j p = x := ⟨_, rfl⟩
            rw [e0] at c0 hlt3
            rw [e1] at h1 hlt3
            have d7 : decide (f ≤ t) = false := decide_eq_false (by omega)
            have k2 : (0 : Int) ≤ (p : Int) := by omega
            have k3 : (p : Int) < (m : Int) := by omega
            have wj : IntKind.i64.wrap ((q : Int) - 1) = (p : Int) := by
              have e : (q : Int) - 1 = (p : Int) := by omega
              rw [e]; exact IntWalk.i64_in _ (by omega)
            clear e0 e1 hq0 hp b0 b1 b2 b3 c1 hlt3
            go_wp2_with fail
            go_quiet (fail)
            clear wj
            go_wp2_with fail
            go_roundw
            case rel => exact ⟨q + 1, hlt2, by go_num, _, rfl⟩
            case measure => simp [intOf]; omega
        · obtain rfl : q = m := by omega
          have HB2 := Lib.hid (below_drewN' HB1.out z)
          have hh := has_ok va q vc (fr j) (til j) x (w1.drewN z) (HSJ.out.kept (below_drewN' (Below.refl _ _) z)) (by omega) HG.out
          rw [HC2.out] at hh
          have d8 : decide ((q : Int) ≤ (k : Int)) = true := decide_eq_true (by omega)
          have d9 : decide (q ≤ k) = true := decide_eq_true (by omega)
          generalize w1.drewN z = w2 at *
          go_wp2_with fail
          refine hh.mono ?_
          rintro e w3 ⟨rfl, hb3⟩
          have HB3 := Lib.hid (HB2.out.trans (hb3.mono HB2.out.size))
          clear hh hb3
          have hl := lives7 w3
          go_wp2_with fail
          refine hl.mono ?_
          rintro e w4 ⟨rfl, hb4⟩
          go_wp2_with fail
          go_ret
          exact ⟨rfl, HB3.out.trans (hb4.mono HB3.out.size)⟩
end Go.Proofs.Ythlmeppahcjlgaa

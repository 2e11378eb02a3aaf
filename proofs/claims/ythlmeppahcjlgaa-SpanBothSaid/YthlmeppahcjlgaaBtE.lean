/- Both and Join whatever the spans; the law SpanBoth. -/
import Derived.Test.YthlmeppahcjlgaaBtB
import Derived.Test.YthlmeppahcjlgaaBtC
import Derived.Test.YthlmeppahcjlgaaBtD
import Derived.Test.YthlmeppahcjlgaaSpD
import Derived.Test.YthlmeppahcjlgaaSpL
import Derived.Test.YthlmeppahcjlgaaSpM
namespace Go.Proofs.Ythlmeppahcjlgaa
open Go.RowKit

set_option maxRecDepth 100000 in
set_option maxHeartbeats 4000000 in
theorem both_bad (a b : Option Addr) (n m ca cb : Nat) (F T G U : Nat → Int) (w : World) (hA : Sps w a n F T) (hB : Sps w b m G U) (h : (rowE F T n != 0) = true ∨ ((rowE F T n != 0) = false ∧ (rowE G U m != 0) = true)) :
    Calls Try.prog 21 #[.slice a n ca, .slice b m cb] w (Copied [] w) := by
  have hra := row_any a n ca F T w hA
  have hrb := Lib.hid (fun w1 h1 => row_any b m cb G U w1 (hB.kept h1))
  clear hA hB
  rcases h with h | ⟨h, h2⟩
  · clear hrb
    generalize rowE F T n = z at hra h
    go_enter Try.func21, Try.ntmps21
    go_wp2_with fail
    go_step3
    go_wp2_with fail
    refine hra.mono ?_
    rintro e w1 ⟨rfl, hb1⟩
    clear hra
    go_wp2_with fail
    (try rw [Exit.noGoto_ret])
    go_ret
    exact ⟨_, rfl, OS.nil _ _, hb1⟩
  · generalize rowE F T n = z at hra h
    obtain ⟨y, hy⟩ : ∃ y, rowE G U m = y := ⟨_, rfl⟩
    rw [hy] at hrb h2
    clear hy
    go_enter Try.func21, Try.ntmps21
    go_wp2_with fail
    go_step3
    go_wp2_with fail
    refine hra.mono ?_
    rintro e w1 ⟨rfl, hb1⟩
    have HB1 := Lib.hid hb1
    clear hra hb1
    go_wp2_with fail
    refine (hrb.out _ HB1.out).mono ?_
    rintro e w2 ⟨rfl, hb2⟩
    have HB2 := Lib.hid (HB1.out.trans (hb2.mono HB1.out.size))
    clear hb2
    go_wp2_with fail
    (try rw [Exit.noGoto_ret])
    go_ret
    exact ⟨_, rfl, OS.nil _ _, HB2.out⟩
set_option maxRecDepth 100000 in
set_option maxHeartbeats 4000000 in
theorem rboth_bad (a b : Option Addr) (n m ca cb : Nat) (F T G U : Nat → Int) (w : World) (hA : Sps w a n F T) (hB : Sps w b m G U) (h : (rowE F T n != 0) = true ∨ ((rowE F T n != 0) = false ∧ (rowE G U m != 0) = true)) :
    Calls Try.prog 22 #[.slice a n ca, .slice b m cb] w (Copied [] w) := by
  have hra := rrow_any a n ca F T w hA
  have hrb := Lib.hid (fun w1 h1 => rrow_any b m cb G U w1 (hB.kept h1))
  clear hA hB
  rcases h with h | ⟨h, h2⟩
  · clear hrb
    generalize rowE F T n = z at hra h
    go_enter Try.func22, Try.ntmps22
    go_wp2_with fail
    refine hra.mono ?_
    rintro e w1 ⟨rfl, hb1⟩
    clear hra
    go_wp2_with fail
    go_ret
    exact ⟨_, rfl, OS.nil _ _, hb1⟩
  · generalize rowE F T n = z at hra h
    obtain ⟨y, hy⟩ : ∃ y, rowE G U m = y := ⟨_, rfl⟩
    rw [hy] at hrb h2
    clear hy
    go_enter Try.func22, Try.ntmps22
    go_wp2_with fail
    refine hra.mono ?_
    rintro e w1 ⟨rfl, hb1⟩
    have HB1 := Lib.hid hb1
    clear hra hb1
    go_wp2_with fail
    refine (hrb.out _ HB1.out).mono ?_
    rintro e w2 ⟨rfl, hb2⟩
    have HB2 := Lib.hid (HB1.out.trans (hb2.mono HB1.out.size))
    clear hb2
    go_wp2_with fail
    go_ret
    exact ⟨_, rfl, OS.nil _ _, HB2.out⟩
set_option maxRecDepth 100000 in
set_option maxHeartbeats 4000000 in
theorem rjoin_bad (a : Option Addr) (n cap k0 : Nat) (F T : Nat → Int) (w : World) (hS : Sps w a n F T) (hk0 : k0 < n) (hbad : rightB (F k0) (T k0) = false) :
    Calls Try.prog 24 #[.slice a n cap] w fun e w' => e = .returned (.slice none 0 0) ∧ Below w.heap.size w w' := by
  have hm := hS.1
  unfold maxLen at hm
  have HC := Lib.hid hS
  have HB0 := Lib.hid hbad
  clear hS hbad
  go_enter Try.func24, Try.ntmps24
  go_wp2_with fail
  go_loopw [4] (fun i wr => ∃ k : Nat, k ≤ k0 ∧ i = .int .i64 k ∧ Below w.heap.size w wr) (fun i _ => n - (intOf i).toNat)
  case atStart => exact ⟨0, Nat.zero_le _, rfl, Below.refl _ _⟩
  case round =>
    obtain ⟨k, hk, rfl, hB⟩ := hrel
    have hlt : k < n := by omega
    obtain ⟨ab, ao, rfl, hab, c0, c1, b0, b1, b2, b3⟩ := HC.out.at hB k hlt
    have HB := Lib.hid hB
    have HS := Lib.hid hB.size
    have hnx : rightB (F k) (T k) = true → k + 1 ≤ k0 := by
      intro h
      rcases Nat.lt_or_ge k k0 with h1 | h1
      · exact h1
      · obtain rfl : k = k0 := by omega
        rw [HB0.out] at h; cases h
    obtain ⟨f, e0⟩ : ∃ x, F k = x := ⟨_, rfl⟩
    obtain ⟨t, e1⟩ : ∃ x, T k = x := ⟨_, rfl⟩
    rw [e0] at c0 b0 b1 hnx
    rw [e1] at c1 b2 b3 hnx
    clear hB e0 e1
    have i0 : (0 : Int) ≤ (k : Int) := by omega
    have kl : (k : Int) < (n : Int) := by omega
    have d4 : decide ((k : Int) < (n : Int)) = true := by simp [hlt]
    have hr' := rright_any f t
    obtain ⟨c, hr⟩ : ∃ c, rightB f t = c := ⟨_, rfl⟩
    rw [hr] at hr' hnx
    clear hr
    have HX := Lib.hid hnx
    clear hnx
    cases c
    · go_wp2_with (go_at_call 14; refine (hr' _).mono ?_; rintro e w' ⟨rfl, hb⟩)
      go_ret
      exact ⟨rfl, HB.out.trans (hb.mono HS.out)⟩
    · go_wp2_with (go_at_call 14; refine (hr' _).mono ?_; rintro e w' ⟨rfl, hb⟩)
      go_roundw
      case rel => exact ⟨k + 1, HX.out trivial, by go_num, HB.out.trans (hb.mono HS.out)⟩
      case measure => simp [intOf]; omega

/-- What two lists of spans have in common, by the document. -/
def bothR (F T G U : Nat → Int) (n m : Nat) : List (Int × Int) :=
  if rowE F T n = 0 ∧ rowE G U m = 0 then (if 32 < (meets (pairs F T n) (pairs G U m)).length then [] else meets (pairs F T n) (pairs G U m)) else []
theorem row_good {F T : Nat → Int} {n : Nat} (h : rowE F T n = 0) : n ≤ 32 ∧ good F T n = true := by
  have hn : n ≤ 32 := by
    rcases Nat.lt_or_ge 32 n with h1 | h1
    · rw [rowE_long h1] at h; omega
    · exact h1
  refine ⟨hn, ?_⟩
  cases hg : good F T n with
  | true => rfl
  | false => rw [rowE_bad hn hg] at h; omega
theorem bothR_right (F T G U : Nat → Int) (n m : Nat) : rights (bothR F T G U n m) := by
  unfold bothR
  split
  · rename_i h
    split
    · intro s hs; cases hs
    · exact rights_meets (rowed_pairs (row_good h.1).2).1
  · intro s hs; cases hs
theorem both_cases {F T G U : Nat → Int} {n m : Nat} (h : ¬ (rowE F T n = 0 ∧ rowE G U m = 0)) : (rowE F T n != 0) = true ∨ ((rowE F T n != 0) = false ∧ (rowE G U m != 0) = true) := by
  by_cases h1 : rowE F T n = 0
  · exact .inr ⟨by simp [h1], by simpa using fun h2 => h ⟨h1, h2⟩⟩
  · exact .inl (by simpa using h1)
theorem both_any (a b : Option Addr) (n m ca cb : Nat) (F T G U : Nat → Int) (w : World) (hA : Sps w a n F T) (hB : Sps w b m G U) (hca : n ≤ ca) (hcb : m ≤ cb) :
    Calls Try.prog 21 #[.slice a n ca, .slice b m cb] w (Copied (bothR F T G U n m) w) := by
  unfold bothR
  by_cases h : rowE F T n = 0 ∧ rowE G U m = 0
  · rw [if_pos h]
    exact both_ok a b n m ca cb F T G U w hA hB hca hcb (row_good h.1).1 (row_good h.2).1 (row_good h.1).2 (row_good h.2).2
  · rw [if_neg h]
    exact both_bad a b n m ca cb F T G U w hA hB (both_cases h)
theorem rboth_any (a b : Option Addr) (n m ca cb : Nat) (F T G U : Nat → Int) (w : World) (hA : Sps w a n F T) (hB : Sps w b m G U) :
    Calls Try.prog 22 #[.slice a n ca, .slice b m cb] w (Copied (bothR F T G U n m) w) := by
  unfold bothR
  by_cases h : rowE F T n = 0 ∧ rowE G U m = 0
  · rw [if_pos h]
    exact rboth_ok a b n m ca cb F T G U w hA hB (row_good h.1).1 (row_good h.2).1 (row_good h.1).2 (row_good h.2).2
  · rw [if_neg h]
    exact rboth_bad a b n m ca cb F T G U w hA hB (both_cases h)

/-- What a Join hands back, whatever the spans. -/
def JoinGot (l : List (Int × Int)) (w : World) (e : Ending) (w' : World) : Prop :=
  ∃ v j, e = .returned v ∧ OS w' w.heap.size v j ∧ ((rights l ∧ Joined l j) ∨ (¬ rights l ∧ j = [])) ∧ Below w.heap.size w w'
theorem join_same {l a b : List (Int × Int)} (ha : (rights l ∧ Joined l a) ∨ (¬ rights l ∧ a = [])) (hb : (rights l ∧ Joined l b) ∨ (¬ rights l ∧ b = [])) : a = b ∧ rights a := by
  rcases ha with ⟨h1, h2⟩ | ⟨h1, rfl⟩ <;> rcases hb with ⟨h3, h4⟩ | ⟨h3, rfl⟩
  · exact ⟨h2.uniq h4, h2.rights⟩
  · exact absurd h1 h3
  · exact absurd h3 h1
  · exact ⟨rfl, fun s hs => by cases hs⟩
theorem not_rights {F T : Nat → Int} {n : Nat} (h : ¬ rights (pairs F T n)) : ∃ k, k < n ∧ rightB (F k) (T k) = false := by
  refine Classical.byContradiction fun hc => h fun s hs => ?_
  obtain ⟨k, hk, rfl⟩ := pairs_mem.1 hs
  refine (rightB_iff _ _).1 ?_
  cases hb : rightB (F k) (T k) with
  | true => rfl
  | false => exact absurd ⟨k, hk, hb⟩ hc
theorem join_any (a : Option Addr) (n cap : Nat) (F T : Nat → Int) (w : World) (hS : Sps w a n F T) (hn : n ≤ 1000) : Calls Try.prog 23 #[.slice a n cap] w (JoinGot (pairs F T n) w) := by
  by_cases hr : rights (pairs F T n)
  · refine (join_ok a n cap F T w hS hn hr).mono ?_
    rintro e w' ⟨v, j, rfl, hO, hJ, _, hB⟩
    exact ⟨v, j, rfl, hO, .inl ⟨hr, hJ⟩, hB⟩
  · obtain ⟨k, hk, hb⟩ := not_rights hr
    refine (join_bad a n cap k F T w hS hk hb).mono ?_
    rintro e w' ⟨rfl, hB⟩
    exact ⟨_, [], rfl, OS.nil _ _, .inr ⟨hr, rfl⟩, hB⟩
theorem rjoin_any (a : Option Addr) (n cap : Nat) (F T : Nat → Int) (w : World) (hS : Sps w a n F T) (hn : n ≤ 1000) : Calls Try.prog 24 #[.slice a n cap] w (JoinGot (pairs F T n) w) := by
  by_cases hr : rights (pairs F T n)
  · refine (rjoin_ok a n cap F T w hS hn hr).mono ?_
    rintro e w' ⟨v, j, rfl, hO, hJ, _, hB⟩
    exact ⟨v, j, rfl, hO, .inl ⟨hr, hJ⟩, hB⟩
  · obtain ⟨k, hk, hb⟩ := not_rights hr
    refine (rjoin_bad a n cap k F T w hS hk hb).mono ?_
    rintro e w' ⟨rfl, hB⟩
    exact ⟨_, [], rfl, OS.nil _ _, .inr ⟨hr, rfl⟩, hB⟩
/-- Two own rows of the same spans are the same. -/
theorem same_own (b b' : Nat) (v v' : Value) (l : List (Int × Int)) (w : World) (h : OS w b v l) (h' : OS w b' v' l) (hr : rights l) :
    Calls Try.prog 19 #[v, v'] w fun e w' => e = .returned (.bool true) ∧ ∃ q, w' = w.drewN q := by
  obtain ⟨a, c, rfl, _, _⟩ := h.shape
  obtain ⟨a', c', rfl, _, _⟩ := h'.shape
  have hs := same_any a a' l.length c l.length c' (fr l) (til l) (fr l) (til l) w (h.sps (rights_bounds hr)).2 (h'.sps (rights_bounds hr)).2
  have e1 : sameL (fr l) (til l) (fr l) (til l) l.length l.length = true := by
    simp only [sameL, decide_true, Bool.true_and]
    exact sameB_iff.2 fun j _ => ⟨rfl, rfl⟩
  rw [e1] at hs
  exact hs
/-- A row that came in, with its capacity. -/
def SpsC (c : Nat) (w : World) (a : Option Addr) (n : Nat) (F T : Nat → Int) : Prop := Sps w a n F T ∧ n ≤ c
set_option maxRecDepth 100000 in
theorem spans_inC {H : Type} {enc : TypeId × Value → H} {w : World} {base : Nat} {sp : Nat → Bool} {held : Bool} {fuel : Nat} {a : Option Addr} {n cap : Nat} {x : DataW H × List MemPlace}
    (h : DataW.trod enc Try.prog w base sp held fuel 22 (Value.slice a n cap).cells.toList = some x) : ∃ F T, SpsC cap w a n F T := by
  obtain ⟨F, T, hS⟩ := spans_in h
  refine ⟨F, T, hS, ?_⟩
  rcases Deep.open_slice Try.underlying22 h with ⟨hcs, _⟩ | ⟨x, l, c, m, nn, D, Pl, hcs, _, hl, hm, hmm, _, hi⟩
  · simp [Value.cells] at hcs
    obtain ⟨rfl, rfl, rfl⟩ := hcs
    exact Nat.le_refl _
  · simp [Value.cells] at hcs
    obtain ⟨rfl, rfl, rfl⟩ := hcs
    omega
set_option maxRecDepth 100000 in
set_option maxHeartbeats 4000000 in
theorem bothlaw_big (a a' : Option Addr) (n cap m cap' : Nat) (w : World) (hn : n ≤ 9223372036854775807) (hm : m ≤ 9223372036854775807) (h : 60 < n ∨ 60 < m) :
    Calls Try.prog 4 #[.slice a n cap, .slice a' m cap'] w fun e w' => e = .returned (.bool true) ∧ Below w.heap.size w w' := by
  have hl := lives7 w
  by_cases h1 : 60 < n
  · have d1 : decide (60 < (n : Int)) = true := decide_eq_true (by omega)
    go_enter Try.func4, Try.ntmps4
    go_wp2_with fail
    refine hl.mono ?_
    rintro e w1 ⟨rfl, hb⟩
    go_wp2_with fail
    go_ret
    exact ⟨rfl, hb⟩
  · have d1 : decide (60 < (n : Int)) = false := decide_eq_false (by omega)
    have d2 : decide (60 < (m : Int)) = true := decide_eq_true (by omega)
    go_enter Try.func4, Try.ntmps4
    go_wp2_with fail
    refine hl.mono ?_
    rintro e w1 ⟨rfl, hb⟩
    go_wp2_with fail
    go_ret
    exact ⟨rfl, hb⟩
set_option maxRecDepth 100000 in
set_option maxHeartbeats 8000000 in
theorem bothlaw_ok (a a' : Option Addr) (n cap m cap' : Nat) (F T F' T' : Nat → Int) (w : World) (hS : SpsC cap w a n F T) (hS' : SpsC cap' w a' m F' T') (hn : n ≤ 60) (hm : m ≤ 60) :
    Calls Try.prog 4 #[.slice a n cap, .slice a' m cap'] w fun e w' => e = .returned (.bool true) ∧ Below w.heap.size w w' := by
  have d1 : decide (60 < (n : Int)) = false := decide_eq_false (by omega)
  have d2 : decide (60 < (m : Int)) = false := decide_eq_false (by omega)
  have h1 := both_any a a' n m cap cap' F T F' T' w hS.1 hS'.1 hS.2 hS'.2
  have HC := Lib.hid hS.1
  have HC' := Lib.hid hS'.1
  have HRT := Lib.hid (bothR_right F T F' T' n m)
  have HRB := Lib.hid (fun w1 h h' => rboth_any a a' n m cap cap' F T F' T' w1 h h')
  have HN := Lib.hid hn
  obtain ⟨l, hl⟩ : ∃ l, bothR F T F' T' n m = l := ⟨_, rfl⟩
  rw [hl] at h1 HRT HRB
  clear hS hS' hl
  go_enter Try.func4, Try.ntmps4
  go_wp2_with fail
  refine h1.mono ?_
  rintro e w1 ⟨v1, rfl, hO1, hb1⟩
  have h2 := HRB.out w1 (HC.out.kept hb1) (HC'.out.kept hb1)
  have HO1 := Lib.hid hO1
  have HB1 := Lib.hid hb1
  clear h1 hO1 hb1
  go_wp2_with fail
  refine h2.mono ?_
  rintro e w2 ⟨v2, rfl, hO2, hb2⟩
  have h3 := same_own w.heap.size w1.heap.size v1 v2 l w2 (HO1.out.kept hb2) hO2 HRT.out
  have HB2 := Lib.hid (HB1.out.trans (hb2.mono HB1.out.size))
  clear h2 hO2 hb2 HO1
  go_wp2_with fail
  refine h3.mono ?_
  rintro e w3 ⟨rfl, q3, rfl⟩
  have hb3 := below_drewN' HB2.out q3
  clear h3
  generalize w2.drewN q3 = w3 at *
  have HB3 := Lib.hid hb3
  have h4 := join_any a n cap F T w3 (HC.out.kept hb3) (by have := HN.out; omega)
  clear hb3
  go_wp2_with fail
  refine h4.mono ?_
  rintro e w4 ⟨v3, j3, rfl, hO3, hj3, hb4⟩
  have HB4 := Lib.hid (HB3.out.trans (hb4.mono HB3.out.size))
  have h5 := rjoin_any a n cap F T w4 (HC.out.kept HB4.out) (by have := HN.out; omega)
  have HO3 := Lib.hid hO3
  have HJ3 := Lib.hid hj3
  clear h4 hO3 hj3 hb4
  go_wp2_with fail
  refine h5.mono ?_
  rintro e w5 ⟨v4, j4, rfl, hO4, hj4, hb5⟩
  obtain ⟨ej, hrj⟩ := join_same HJ3.out hj4
  subst ej
  have h6 := same_own w3.heap.size w4.heap.size v3 v4 j3 w5 (HO3.out.kept hb5) hO4 hrj
  have HB5 := Lib.hid (HB4.out.trans (hb5.mono HB4.out.size))
  clear h5 hO4 hj4 hb5 hrj HO3 HJ3
  go_wp2_with fail
  refine h6.mono ?_
  rintro e w6 ⟨rfl, q6, rfl⟩
  have hb6 := below_drewN' HB5.out q6
  clear h6
  generalize w5.drewN q6 = w6 at *
  have HB6 := Lib.hid hb6
  clear hb6
  have hl := lives7 w6
  go_wp2_with fail
  refine hl.mono ?_
  rintro e w7 ⟨rfl, hb7⟩
  go_wp2_with fail
  go_ret
  exact ⟨rfl, HB6.out.trans (hb7.mono HB6.out.size)⟩
end Go.Proofs.Ythlmeppahcjlgaa

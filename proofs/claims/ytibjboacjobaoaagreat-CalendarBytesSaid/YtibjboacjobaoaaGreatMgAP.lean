import Derived.Test.YtibjboacjobaoaaGreatMgAO
import Derived.Test.YtibjboacjobaoaaGreatMgAN
import Derived.Test.YtibjboacjobaoaaGreatMgAL
import Derived.IntWalk
namespace Go.Proofs.YtibjboacjobaoaaGreat
open Go.RowKit
/- Has of a row of spans. -/
open Go.RowKit

def inB (f t m : Int) : Bool := decide (f ≤ m) && decide (m < t)
def hasB (F T : Nat → Int) (m : Int) : Nat → Bool
  | 0 => false
  | k + 1 => hasB F T m k || inB (F k) (T k) m
theorem hasB_iff {F T : Nat → Int} {m : Int} : ∀ n, hasB F T m n = true ↔ ∃ k, k < n ∧ F k ≤ m ∧ m < T k := by
  intro n
  induction n with
  | zero => simp [hasB]
  | succ n ih =>
    simp only [hasB, Bool.or_eq_true, ih, inB, Bool.and_eq_true, decide_eq_true_eq]
    constructor
    · rintro (⟨k, hk, h⟩ | h)
      · exact ⟨k, by omega, h⟩
      · exact ⟨n, by omega, h⟩
    · rintro ⟨k, hk, h⟩
      by_cases e : k = n
      · subst e; exact .inr h
      · exact .inl ⟨k, by omega, h⟩
def Idx (b : Bool) (w : World) (e : Ending) (w' : World) : Prop := ∃ r : Int, e = .returned (.int .i64 r) ∧ decide (0 ≤ r) = b ∧ Below w.heap.size w w'
/- SpanSides: what counting in parts comes to. -/
open Go.RowKit

/-- Parted at an instant, both parts have all. -/
theorem clip_sides (f t at_ : Int) (h0 : 0 ≤ f) (h1 : f < t) (h2 : t ≤ 1125899906842624) (h3 : 0 ≤ at_) (h4 : at_ ≤ 1125899906842624) :
    clip f t 0 at_ + clip f t at_ 1125899906842624 = t - f ∧ clip f t 0 1125899906842624 = t - f := by
  rcases clip_cases f t 0 at_ with ⟨a1, a2⟩ | ⟨a1, a2⟩ <;> rcases clip_cases f t at_ 1125899906842624 with ⟨b1, b2⟩ | ⟨b1, b2⟩ <;> rcases clip_cases f t 0 1125899906842624 with ⟨c1, c2⟩ | ⟨c1, c2⟩ <;>
    rcases mx_cases f 0 with ⟨d1, d2⟩ | ⟨d1, d2⟩ <;> rcases mx_cases f at_ with ⟨e1, e2⟩ | ⟨e1, e2⟩ <;> rcases mn_cases t at_ with ⟨g1, g2⟩ | ⟨g1, g2⟩ <;> rcases mn_cases t 1125899906842624 with ⟨i1, i2⟩ | ⟨i1, i2⟩ <;> omega
theorem wsum_all {F T : Nat → Int} {n : Nat} (hg : good F T n = true) : ∀ k, k ≤ n → wsum F T 0 1125899906842624 k = tsum F T k := by
  intro k
  induction k with
  | zero => intro _; rfl
  | succ k ih =>
    intro hk
    obtain ⟨g0, g1, g2, _⟩ := good_at hg (show k < n by omega)
    have := (clip_sides (F k) (T k) 0 g0 g1 g2 (by omega) (by omega)).2
    simp only [wsum, tsum, ih (by omega), this]
theorem wsum_sides {F T : Nat → Int} {n : Nat} (hg : good F T n = true) (x : Int) (h3 : 0 ≤ x) (h4 : x ≤ 1125899906842624) : ∀ k, k ≤ n → wsum F T 0 x k + wsum F T x 1125899906842624 k = tsum F T k := by
  intro k
  induction k with
  | zero => intro _; rfl
  | succ k ih =>
    intro hk
    obtain ⟨g0, g1, g2, _⟩ := good_at hg (show k < n by omega)
    have h1 := (clip_sides (F k) (T k) x g0 g1 g2 h3 h4).1
    have h2 := ih (by omega)
    simp only [wsum, tsum]
    omega
/-- The spans of a row stand one behind the other. -/
theorem good_order {F T : Nat → Int} {n : Nat} (hg : good F T n = true) : ∀ j k, k < j → j < n → T k ≤ F j := by
  intro j
  induction j with
  | zero => intro k h; omega
  | succ j ih =>
    intro k hk hj
    have h1 := (good_at hg hj).2.2.2
    have e : j + 1 - 1 = j := rfl
    rw [e] at h1
    by_cases h : k = j
    · subst h; omega
    · have := ih k (by omega) (by omega)
      have := (good_at hg (show j < n by omega)).2.1
      omega
theorem clip_before (f t x : Int) (h0 : 0 ≤ f) (h1 : f < t) (h2 : t ≤ x) : clip f t 0 x = t - f := by
  rcases clip_cases f t 0 x with ⟨a1, a2⟩ | ⟨a1, a2⟩ <;> rcases mx_cases f 0 with ⟨d1, d2⟩ | ⟨d1, d2⟩ <;> rcases mn_cases t x with ⟨g1, g2⟩ | ⟨g1, g2⟩ <;> omega
theorem clip_within (f t x : Int) (h0 : 0 ≤ f) (h1 : f ≤ x) (h2 : x < t) : clip f t 0 x = x - f := by
  rcases clip_cases f t 0 x with ⟨a1, a2⟩ | ⟨a1, a2⟩ <;> rcases mx_cases f 0 with ⟨d1, d2⟩ | ⟨d1, d2⟩ <;> rcases mn_cases t x with ⟨g1, g2⟩ | ⟨g1, g2⟩ <;> omega
theorem clip_behind (f t x : Int) (h0 : 0 ≤ f) (h1 : f < t) (h2 : x ≤ f) : clip f t 0 x = 0 := by
  rcases clip_cases f t 0 x with ⟨a1, a2⟩ | ⟨a1, a2⟩ <;> rcases mx_cases f 0 with ⟨d1, d2⟩ | ⟨d1, d2⟩ <;> rcases mn_cases t x with ⟨g1, g2⟩ | ⟨g1, g2⟩ <;> omega
/-- How many are ahead of a second within span k. -/
theorem wsum_upto {F T : Nat → Int} {n k : Nat} (hg : good F T n = true) (hk : k < n) (x : Int) (h1 : F k ≤ x) (h2 : x < T k) : ∀ j, j ≤ n → wsum F T 0 x j = if j ≤ k then tsum F T j else tsum F T k + (x - F k) := by
  intro j
  induction j with
  | zero => intro _; rw [if_pos (Nat.zero_le _)]; rfl
  | succ j ih =>
    intro hj
    have h := ih (by omega)
    obtain ⟨g0, g1, g2, _⟩ := good_at hg (show j < n by omega)
    simp only [wsum, h]
    by_cases e1 : j + 1 ≤ k
    · rw [if_pos (by omega), if_pos e1]
      have := good_order hg k j (by omega) hk
      rw [clip_before _ _ _ g0 g1 (by omega)]
      simp only [tsum]
    · by_cases e2 : j = k
      · subst e2
        rw [if_pos (Nat.le_refl _), if_neg e1, clip_within _ _ _ g0 h1 h2]
      · rw [if_neg (by omega), if_neg e1]
        have := good_order hg j k (by omega) (by omega)
        rw [clip_behind _ _ _ g0 g1 (by omega)]
        omega
theorem within_nth {F T : Nat → Int} {n : Nat} {m : Int} (hg : good F T n = true) (h0 : 0 ≤ m) (h1 : m < tsum F T n) : hasB F T (nthV F T n m) n = true ∧ wsum F T 0 (nthV F T n m) n = m := by
  obtain ⟨k, hk, h2, h3⟩ := tsum_find n h0 h1
  have e := nthV_at hg hk h2 h3
  have h4 : tsum F T (k + 1) = tsum F T k + (T k - F k) := rfl
  refine ⟨(hasB_iff n).2 ⟨k, hk, by omega, by omega⟩, ?_⟩
  have := wsum_upto hg hk (nthV F T n m) (by omega) (by omega) n (Nat.le_refl _)
  rw [if_neg (by omega)] at this
  omega
/-- One second's count. -/
theorem clip_one (f t x : Int) (h0 : 0 ≤ f) (h1 : f < t) : clip f t x (x + 1) = if inB f t x = true then 1 else 0 := by
  have hi : inB f t x = true ↔ f ≤ x ∧ x < t := by simp [inB]
  rcases clip_cases f t x (x + 1) with ⟨a1, a2⟩ | ⟨a1, a2⟩ <;> rcases mx_cases f x with ⟨d1, d2⟩ | ⟨d1, d2⟩ <;> rcases mn_cases t (x + 1) with ⟨g1, g2⟩ | ⟨g1, g2⟩ <;> by_cases hc : f ≤ x ∧ x < t <;>
    first | (rw [if_pos (hi.2 hc)]; omega) | (rw [if_neg (fun h => hc (hi.1 h))]; omega)
theorem wsum_one {F T : Nat → Int} {n : Nat} (hg : good F T n = true) (x : Int) : ∀ k, k ≤ n → wsum F T x (x + 1) k = if hasB F T x k = true then 1 else 0 := by
  intro k
  induction k with
  | zero => intro _; rfl
  | succ k ih =>
    intro hk
    obtain ⟨g0, g1, g2, _⟩ := good_at hg (show k < n by omega)
    simp only [wsum, ih (by omega), clip_one _ _ _ g0 g1]
    have hh : hasB F T x (k + 1) = (hasB F T x k || inB (F k) (T k) x) := rfl
    rw [hh]
    by_cases h1 : hasB F T x k = true
    · rw [if_pos h1]
      obtain ⟨j, hj, h2, h3⟩ := (hasB_iff k).1 h1
      have h4 : ¬ inB (F k) (T k) x = true := by
        intro h
        simp [inB] at h
        have := good_order hg k j hj (by omega)
        omega
      rw [if_neg h4, if_pos (by simp [h1])]
      rfl
    · rw [if_neg h1]
      by_cases h5 : inB (F k) (T k) x = true
      · rw [if_pos h5, if_pos (by simp [h5])]; rfl
      · rw [if_neg h5, if_neg (by simp [h1, h5])]; rfl
/- Rows of spans of one's own: a copy, and add. -/
open Go.RowKit

/-- A copy of a row is the call's own. -/
def Copied (l : List (Int × Int)) (w : World) (e : Ending) (w' : World) : Prop := ∃ v, e = .returned v ∧ OS w' w.heap.size v l ∧ Below w.heap.size w w'
set_option maxRecDepth 100000 in
set_option maxHeartbeats 1600000 in
theorem clone_any (a : Option Addr) (n cap : Nat) (F T : Nat → Int) (w : World) (hS : Sps w a n F T) (hn : n ≤ 100000) :
    Calls Tryz.prog 107 #[.slice a n cap] w (Copied (pairs F T n) w) := by
  have HL := Lib.hid (pairs_len F T n)
  cases a with
  | none =>
    have h0 : n = 0 := by
      rcases Nat.eq_zero_or_pos n with h | h
      · exact h
      · obtain ⟨ab, ao, e, _⟩ := hS.2 h
        cases e
    subst h0
    clear hS
    have he : ∀ w : World, (binOp .eql 22 (.slice none 0 cap) (.slice none 0 0)).run Tryz.prog w = .ok (.bool true) w := fun _ => rfl
    go_enter Tryz.func107, Tryz.ntmps107
    go_wp2_with fail
    go_ret
    exact ⟨_, rfl, OS.nil _ _, Below.refl _ _⟩
  | some x =>
    obtain ⟨i0, hi, hz0, hz1, hz2⟩ := info_parts spans_info
    have hnews : ∀ j u, (spc (pairs F T n))[j]? = some u → (w.alloc (.cells #[] 101)).cell? (x.add j) = some u := by
      intro j u hu
      have hj : j < n * 2 := by
        have := (List.getElem?_eq_some_iff.1 hu).1
        rwa [spc_len, pairs_len] at this
      obtain ⟨ab, ao, e, hlt, hc⟩ := hS.2 (by omega)
      injection e with e
      subst e
      obtain ⟨k, hk | hk⟩ : ∃ k, j = k * 2 ∨ j = k * 2 + 1 := ⟨j / 2, by omega⟩
      · have hkn : k < n := by omega
        have h1 := (spc_at (pairs F T n) k (by rw [pairs_len]; exact hkn)).1
        rw [hk] at hu ⊢
        rw [h1] at hu
        rw [add_at, World.cell?_alloc_past _ _ _ hlt, (hc k hkn).1, ← hu, ← (pairs_at F T n k hkn).1]
        rfl
      · have hkn : k < n := by omega
        have h1 := (spc_at (pairs F T n) k (by rw [pairs_len]; exact hkn)).2
        rw [hk] at hu ⊢
        rw [h1] at hu
        rw [add_at, ← Nat.add_assoc, World.cell?_alloc_past _ _ _ hlt, (hc k hkn).2.1, ← hu, ← (pairs_at F T n k hkn).2]
        rfl
    have HN := Lib.hid hnews
    clear hS hnews
    have he : ∀ w : World, (binOp .eql 22 (.slice (some x) n cap) (.slice none 0 0)).run Tryz.prog w = .ok (.bool false) w := fun _ => rfl
    go_enter Tryz.func107, Tryz.ntmps107
    go_wp2_with (at_builtin; refine wpList_append_own _ rfl (.tmp 5) (.tmp 6) 22 rfl w.heap.size 101 i0 (.agg #[.int .i64 0, .int .i64 0]) 2 16 Tryz.underlying22 hi hz0 hz1 hz2 rfl (by decide) _ _ _ rfl (ow_none w) x n cap (spc (pairs F T n)) rfl ?c0 HN.out (spc_one _) ?c3 ?c4 ?c5 ?_)
    case c0 => rw [spc_len, HL.out]
    case c3 => unfold maxLen; show 0 + n ≤ _; omega
    case c4 => show (0 + n) * 16 ≤ _; omega
    case c5 => simp
    intro v1 w1 hown hgrow _
    have hB : Below w.heap.size w w1 := ((Below.refl w.heap.size w).alloc (Nat.le_refl _) (.cells #[] 101)).grown hgrow (by simp) fun k hk => (World.ownsRow.lt (ow_none w) k hk).1
    have hO : OS w1 w.heap.size v1 (pairs F T n) := by
      unfold OS
      rw [HL.out]
      exact hown
    have HB := Lib.hid hB
    have HO := Lib.hid hO
    clear hown hgrow hB hO
    go_wp2_with fail
    go_ret
    exact ⟨_, rfl, HO.out, HB.out⟩

/-- What add makes of a row of the call's own. -/
def Added (base : Nat) (l : List (Int × Int)) (w : World) (e : Ending) (w' : World) : Prop := ∃ v, e = .returned v ∧ OS w' base v l ∧ Stays base w w'
end Go.Proofs.YtibjboacjobaoaaGreat

import Derived.Test.YtibjboacjobaoaaMgAC
import Derived.Test.YtibjboacjobaoaaMgAA
import Derived.Test.YtibjboacjobaoaaMgAB
import Derived.IntWalk
import Derived.Laws.AppendOwnNone
import Derived.Laws.OwnMore
import Derived.OwnWalk
namespace Go.Proofs.Ytibjboacjobaoaa
open Go.RowKit
/- Nth of a row of spans. -/
open Go.RowKit

/-- How many seconds the first spans have. -/
def tsum (F T : Nat → Int) : Nat → Int
  | 0 => 0
  | k + 1 => tsum F T k + (T k - F k)
theorem tsum_bounds {F T : Nat → Int} {n : Nat} (hg : good F T n = true) : ∀ k, k ≤ n → 0 ≤ tsum F T k ∧ tsum F T k ≤ k * 1125899906842624 := by
  intro k
  induction k with
  | zero => intro _; simp [tsum]
  | succ k ih =>
    intro hk
    obtain ⟨h1, h2⟩ := ih (by omega)
    obtain ⟨g0, g1, g2, _⟩ := good_at hg (show k < n by omega)
    simp only [tsum]
    omega
theorem tsum_mono {F T : Nat → Int} {n : Nat} (hg : good F T n = true) : ∀ k j, j ≤ k → k ≤ n → tsum F T j ≤ tsum F T k := by
  intro k
  induction k with
  | zero => intro j h _; obtain rfl : j = 0 := by omega
            exact Int.le_refl _
  | succ k ih =>
    intro j hj hk
    by_cases e : j = k + 1
    · subst e; exact Int.le_refl _
    · have := ih j (by omega) (by omega)
      obtain ⟨g0, g1, g2, _⟩ := good_at hg (show k < n by omega)
      simp only [tsum]
      omega
/-- Which span has the second with m others ahead. -/
theorem tsum_find {F T : Nat → Int} {m : Int} : ∀ n, 0 ≤ m → m < tsum F T n → ∃ k, k < n ∧ tsum F T k ≤ m ∧ m < tsum F T (k + 1) := by
  intro n
  induction n with
  | zero => intro h0 h; simp only [tsum] at h; omega
  | succ n ih =>
    intro h0 h
    by_cases h1 : m < tsum F T n
    · obtain ⟨k, hk, h2⟩ := ih h0 h1
      exact ⟨k, by omega, h2⟩
    · exact ⟨n, by omega, by omega, h⟩
/-- Nth's answer: the second, and whether there is one. -/
def nthV (F T : Nat → Int) (n : Nat) (m : Int) : Int := match (List.range n).find? (fun k => decide (m < tsum F T (k + 1))) with
  | some k => F k + (m - tsum F T k)
  | none => 0
theorem nthV_at {F T : Nat → Int} {n k : Nat} {m : Int} (hg : good F T n = true) (hk : k < n) (h1 : tsum F T k ≤ m) (h2 : m < tsum F T (k + 1)) : nthV F T n m = F k + (m - tsum F T k) := by
  unfold nthV
  have : (List.range n).find? (fun k => decide (m < tsum F T (k + 1))) = some k := by
    rw [List.find?_range_eq_some]
    refine ⟨by simpa using h2, by simpa using hk, fun j hj => ?_⟩
    have := tsum_mono hg k (j + 1) (by omega) (by omega)
    simp; omega
  rw [this]

theorem ret_ib {k : IntKind} {a b : Int} {c : Bool} (h : a = b) : Ending.returned (.tuple #[.int k a, .bool c]) = .returned (.tuple #[.int k b, .bool c]) := by rw [h]
/- Has of a row of spans. -/
open Go.RowKit

def inB (f t m : Int) : Bool := decide (f ≤ m) && decide (m < t)
def hasB (F T : Nat → Int) (m : Int) : Nat → Bool
  | 0 => false
  | k + 1 => hasB F T m k || inB (F k) (T k) m
theorem hasB_iff {F T : Nat → Int} {m : Int} : ∀ n, hasB F T m n = true ↔ ∃ k, k < n ∧ F k ≤ m ∧ m < T k := by
  intro n
  induction n with
  | zero => simp [hasB]
  | succ n ih =>
    simp only [hasB, Bool.or_eq_true, ih, inB, Bool.and_eq_true, decide_eq_true_eq]
    constructor
    · rintro (⟨k, hk, h⟩ | h)
      · exact ⟨k, by omega, h⟩
      · exact ⟨n, by omega, h⟩
    · rintro ⟨k, hk, h⟩
      by_cases e : k = n
      · subst e; exact .inr h
      · exact .inl ⟨k, by omega, h⟩
def Idx (b : Bool) (w : World) (e : Ending) (w' : World) : Prop := ∃ r : Int, e = .returned (.int .i64 r) ∧ decide (0 ≤ r) = b ∧ Below w.heap.size w w'
/- SpanSides: what counting in parts comes to. -/
open Go.RowKit

/-- Parted at an instant, both parts have all. -/
theorem clip_sides (f t at_ : Int) (h0 : 0 ≤ f) (h1 : f < t) (h2 : t ≤ 1125899906842624) (h3 : 0 ≤ at_) (h4 : at_ ≤ 1125899906842624) :
    clip f t 0 at_ + clip f t at_ 1125899906842624 = t - f ∧ clip f t 0 1125899906842624 = t - f := by
  rcases clip_cases f t 0 at_ with ⟨a1, a2⟩ | ⟨a1, a2⟩ <;> rcases clip_cases f t at_ 1125899906842624 with ⟨b1, b2⟩ | ⟨b1, b2⟩ <;> rcases clip_cases f t 0 1125899906842624 with ⟨c1, c2⟩ | ⟨c1, c2⟩ <;>
    rcases mx_cases f 0 with ⟨d1, d2⟩ | ⟨d1, d2⟩ <;> rcases mx_cases f at_ with ⟨e1, e2⟩ | ⟨e1, e2⟩ <;> rcases mn_cases t at_ with ⟨g1, g2⟩ | ⟨g1, g2⟩ <;> rcases mn_cases t 1125899906842624 with ⟨i1, i2⟩ | ⟨i1, i2⟩ <;> omega
theorem wsum_all {F T : Nat → Int} {n : Nat} (hg : good F T n = true) : ∀ k, k ≤ n → wsum F T 0 1125899906842624 k = tsum F T k := by
  intro k
  induction k with
  | zero => intro _; rfl
  | succ k ih =>
    intro hk
    obtain ⟨g0, g1, g2, _⟩ := good_at hg (show k < n by omega)
    have := (clip_sides (F k) (T k) 0 g0 g1 g2 (by omega) (by omega)).2
    simp only [wsum, tsum, ih (by omega), this]
theorem wsum_sides {F T : Nat → Int} {n : Nat} (hg : good F T n = true) (x : Int) (h3 : 0 ≤ x) (h4 : x ≤ 1125899906842624) : ∀ k, k ≤ n → wsum F T 0 x k + wsum F T x 1125899906842624 k = tsum F T k := by
  intro k
  induction k with
  | zero => intro _; rfl
  | succ k ih =>
    intro hk
    obtain ⟨g0, g1, g2, _⟩ := good_at hg (show k < n by omega)
    have h1 := (clip_sides (F k) (T k) x g0 g1 g2 h3 h4).1
    have h2 := ih (by omega)
    simp only [wsum, tsum]
    omega
/-- The spans of a row stand one behind the other. -/
theorem good_order {F T : Nat → Int} {n : Nat} (hg : good F T n = true) : ∀ j k, k < j → j < n → T k ≤ F j := by
  intro j
  induction j with
  | zero => intro k h; omega
  | succ j ih =>
    intro k hk hj
    have h1 := (good_at hg hj).2.2.2
    have e : j + 1 - 1 = j := rfl
    rw [e] at h1
    by_cases h : k = j
    · subst h; omega
    · have := ih k (by omega) (by omega)
      have := (good_at hg (show j < n by omega)).2.1
      omega
theorem clip_before (f t x : Int) (h0 : 0 ≤ f) (h1 : f < t) (h2 : t ≤ x) : clip f t 0 x = t - f := by
  rcases clip_cases f t 0 x with ⟨a1, a2⟩ | ⟨a1, a2⟩ <;> rcases mx_cases f 0 with ⟨d1, d2⟩ | ⟨d1, d2⟩ <;> rcases mn_cases t x with ⟨g1, g2⟩ | ⟨g1, g2⟩ <;> omega
theorem clip_within (f t x : Int) (h0 : 0 ≤ f) (h1 : f ≤ x) (h2 : x < t) : clip f t 0 x = x - f := by
  rcases clip_cases f t 0 x with ⟨a1, a2⟩ | ⟨a1, a2⟩ <;> rcases mx_cases f 0 with ⟨d1, d2⟩ | ⟨d1, d2⟩ <;> rcases mn_cases t x with ⟨g1, g2⟩ | ⟨g1, g2⟩ <;> omega
theorem clip_behind (f t x : Int) (h0 : 0 ≤ f) (h1 : f < t) (h2 : x ≤ f) : clip f t 0 x = 0 := by
  rcases clip_cases f t 0 x with ⟨a1, a2⟩ | ⟨a1, a2⟩ <;> rcases mx_cases f 0 with ⟨d1, d2⟩ | ⟨d1, d2⟩ <;> rcases mn_cases t x with ⟨g1, g2⟩ | ⟨g1, g2⟩ <;> omega
/-- How many are ahead of a second within span k. -/
theorem wsum_upto {F T : Nat → Int} {n k : Nat} (hg : good F T n = true) (hk : k < n) (x : Int) (h1 : F k ≤ x) (h2 : x < T k) : ∀ j, j ≤ n → wsum F T 0 x j = if j ≤ k then tsum F T j else tsum F T k + (x - F k) := by
  intro j
  induction j with
  | zero => intro _; rw [if_pos (Nat.zero_le _)]; rfl
  | succ j ih =>
    intro hj
    have h := ih (by omega)
    obtain ⟨g0, g1, g2, _⟩ := good_at hg (show j < n by omega)
    simp only [wsum, h]
    by_cases e1 : j + 1 ≤ k
    · rw [if_pos (by omega), if_pos e1]
      have := good_order hg k j (by omega) hk
      rw [clip_before _ _ _ g0 g1 (by omega)]
      simp only [tsum]
    · by_cases e2 : j = k
      · subst e2
        rw [if_pos (Nat.le_refl _), if_neg e1, clip_within _ _ _ g0 h1 h2]
      · rw [if_neg (by omega), if_neg e1]
        have := good_order hg j k (by omega) (by omega)
        rw [clip_behind _ _ _ g0 g1 (by omega)]
        omega
theorem within_nth {F T : Nat → Int} {n : Nat} {m : Int} (hg : good F T n = true) (h0 : 0 ≤ m) (h1 : m < tsum F T n) : hasB F T (nthV F T n m) n = true ∧ wsum F T 0 (nthV F T n m) n = m := by
  obtain ⟨k, hk, h2, h3⟩ := tsum_find n h0 h1
  have e := nthV_at hg hk h2 h3
  have h4 : tsum F T (k + 1) = tsum F T k + (T k - F k) := rfl
  refine ⟨(hasB_iff n).2 ⟨k, hk, by omega, by omega⟩, ?_⟩
  have := wsum_upto hg hk (nthV F T n m) (by omega) (by omega) n (Nat.le_refl _)
  rw [if_neg (by omega)] at this
  omega
/-- One second's count. -/
theorem clip_one (f t x : Int) (h0 : 0 ≤ f) (h1 : f < t) : clip f t x (x + 1) = if inB f t x = true then 1 else 0 := by
  have hi : inB f t x = true ↔ f ≤ x ∧ x < t := by simp [inB]
  rcases clip_cases f t x (x + 1) with ⟨a1, a2⟩ | ⟨a1, a2⟩ <;> rcases mx_cases f x with ⟨d1, d2⟩ | ⟨d1, d2⟩ <;> rcases mn_cases t (x + 1) with ⟨g1, g2⟩ | ⟨g1, g2⟩ <;> by_cases hc : f ≤ x ∧ x < t <;>
    first | (rw [if_pos (hi.2 hc)]; omega) | (rw [if_neg (fun h => hc (hi.1 h))]; omega)
theorem wsum_one {F T : Nat → Int} {n : Nat} (hg : good F T n = true) (x : Int) : ∀ k, k ≤ n → wsum F T x (x + 1) k = if hasB F T x k = true then 1 else 0 := by
  intro k
  induction k with
  | zero => intro _; rfl
  | succ k ih =>
    intro hk
    obtain ⟨g0, g1, g2, _⟩ := good_at hg (show k < n by omega)
    simp only [wsum, ih (by omega), clip_one _ _ _ g0 g1]
    have hh : hasB F T x (k + 1) = (hasB F T x k || inB (F k) (T k) x) := rfl
    rw [hh]
    by_cases h1 : hasB F T x k = true
    · rw [if_pos h1]
      obtain ⟨j, hj, h2, h3⟩ := (hasB_iff k).1 h1
      have h4 : ¬ inB (F k) (T k) x = true := by
        intro h
        simp [inB] at h
        have := good_order hg k j hj (by omega)
        omega
      rw [if_neg h4, if_pos (by simp [h1])]
      rfl
    · rw [if_neg h1]
      by_cases h5 : inB (F k) (T k) x = true
      · rw [if_pos h5, if_pos (by simp [h5])]; rfl
      · rw [if_neg h5, if_neg (by simp [h1, h5])]; rfl
/- Rows of spans of one's own: an append of one span, a copy of a row, add. -/
open Go.RowKit

theorem below_drewN' {B : Nat} {w w' : World} (h : Below B w w') (n : Nat) : Below B w (w'.drewN n) := ⟨h.os, h.tape, h.output, h.size, h.block⟩
/-- The cells of spans. -/
def spc (l : List (Int × Int)) : List Value := l.flatMap fun x => [.int .i64 x.1, .int .i64 x.2]
theorem spc_append (a b : List (Int × Int)) : spc (a ++ b) = spc a ++ spc b := by simp [spc]
theorem spc_len (l : List (Int × Int)) : (spc l).length = l.length * 2 := by
  unfold spc
  induction l with
  | nil => rfl
  | cons r l ih => rw [List.flatMap_cons, List.length_append, ih]; simp; omega
theorem spc_one (l : List (Int × Int)) : ∀ u ∈ spc l, u.oneCell' = true := by
  intro u hu
  simp only [spc, List.mem_flatMap, List.mem_cons, List.not_mem_nil, or_false] at hu
  obtain ⟨x, _, rfl | rfl⟩ := hu <;> rfl
theorem spc_at : ∀ (l : List (Int × Int)) (k : Nat), k < l.length → (spc l)[k * 2]? = some (.int .i64 (l.getD k (0, 0)).1) ∧ (spc l)[k * 2 + 1]? = some (.int .i64 (l.getD k (0, 0)).2)
  | [], k, h => by simp at h
  | x :: l, 0, _ => ⟨rfl, rfl⟩
  | x :: l, k + 1, h => by
    have := spc_at l k (by simpa using h)
    have e : spc (x :: l) = .int .i64 x.1 :: .int .i64 x.2 :: spc l := rfl
    rw [e, show (k + 1) * 2 = k * 2 + 1 + 1 by omega, show k * 2 + 1 + 1 + 1 = (k * 2 + 1) + 1 + 1 by omega]
    simp only [List.getElem?_cons_succ]
    exact this
/-- Where the spans of a list begin, and end. -/
def fr (l : List (Int × Int)) (k : Nat) : Int := (l.getD k (0, 0)).1
def til (l : List (Int × Int)) (k : Nat) : Int := (l.getD k (0, 0)).2
/-- A row as a list. -/
def pairs (F T : Nat → Int) (n : Nat) : List (Int × Int) := (List.range n).map fun k => (F k, T k)
theorem pairs_len (F T : Nat → Int) (n : Nat) : (pairs F T n).length = n := by simp [pairs]
theorem pairs_succ (F T : Nat → Int) (n : Nat) : pairs F T (n + 1) = pairs F T n ++ [(F n, T n)] := by simp [pairs, List.range_succ]
theorem pairs_at (F T : Nat → Int) (n k : Nat) (h : k < n) : fr (pairs F T n) k = F k ∧ til (pairs F T n) k = T k := by
  simp [fr, til, pairs, h]
theorem pairs_mem {F T : Nat → Int} {n : Nat} {s : Int × Int} : s ∈ pairs F T n ↔ ∃ k, k < n ∧ s = (F k, T k) := by
  simp only [pairs, List.mem_map, List.mem_range]
  constructor
  · rintro ⟨k, hk, rfl⟩; exact ⟨k, hk, rfl⟩
  · rintro ⟨k, hk, rfl⟩; exact ⟨k, hk, rfl⟩
theorem spans_info : (Try.prog.info? 193).map (fun i => (i.zero, i.size, i.bytes)) = some (some (.agg #[.int .i64 0, .int .i64 0]), 2, 16) := by kernel_rfl

/-- The slice v, whose spans are l, is the call's own. -/
def OS (w : World) (base : Nat) (v : Value) (l : List (Int × Int)) : Prop := w.ownsRow base 193 2 v l.length (spc l)
theorem OS.kept {w w' : World} {base : Nat} {v : Value} {l : List (Int × Int)} (h : OS w base v l) (hb : Below w.heap.size w w') : OS w' base v l := by
  obtain ⟨h1, h2⟩ := h
  refine ⟨h1, ?_⟩
  rcases h2 with h2 | ⟨g, cap, cur, hv, hg, hh, r⟩
  · exact .inl h2
  · exact .inr ⟨g, cap, cur, hv, hg, by rw [hb.block g (Array.getElem?_eq_some_iff.mp hh).1]; exact hh, r⟩
theorem OS.mono {w : World} {base base' : Nat} {v : Value} {l : List (Int × Int)} (h : OS w base v l) (hb : base' ≤ base) : OS w base' v l := by
  obtain ⟨h1, h2⟩ := h
  refine ⟨h1, ?_⟩
  rcases h2 with h2 | ⟨g, cap, cur, hv, hg, r⟩
  · exact .inl h2
  · exact .inr ⟨g, cap, cur, hv, by omega, r⟩
theorem OS.nil (w : World) (base : Nat) : OS w base (.slice none 0 0) [] := ⟨rfl, .inl ⟨rfl, rfl⟩⟩
theorem OS.shape {w : World} {base : Nat} {v : Value} {l : List (Int × Int)} (h : OS w base v l) : ∃ a c, v = .slice a l.length c ∧ l.length ≤ maxLen ∧
    (0 < l.length → ∃ g, a = some ⟨g, 0, none⟩ ∧ base ≤ g ∧ g < w.heap.size ∧ ∀ k, k < l.length → w.cell? ⟨g, k * 2, none⟩ = some (.int .i64 (fr l k)) ∧ w.cell? ⟨g, k * 2 + 1, none⟩ = some (.int .i64 (til l k)) ∧ w.frozen? ⟨g, k * 2, none⟩ = false ∧ w.frozen? ⟨g, k * 2 + 1, none⟩ = false) := by
  have h' := h
  rcases h'.2 with ⟨hv, h0⟩ | ⟨g, cap, cur, hv, hg, hh, hc, hm, _⟩
  · exact ⟨none, 0, by rw [hv, h0], by rw [h0]; exact Nat.zero_le _, fun h1 => by omega⟩
  · subst hv
    refine ⟨_, cap, rfl, by omega, fun h1 => ⟨g, rfl, hg, (Array.getElem?_eq_some_iff.mp hh).1, fun k hk => ?_⟩⟩
    have c0 := World.ownsRow.cellAt h (k * 2) (by omega)
    have c1 := World.ownsRow.cellAt h (k * 2 + 1) (by omega)
    have hs := spc_at l k hk
    rw [hs.1] at c0
    rw [hs.2] at c1
    exact ⟨c0, c1, World.ownsRow.frozenAt h _, World.ownsRow.frozenAt h _⟩
/-- An own row can be read. -/
theorem OS.sps {w : World} {base : Nat} {a : Option Addr} {n c : Nat} {l : List (Int × Int)} (h : OS w base (.slice a n c) l)
    (hb : ∀ s ∈ l, -9223372036854775808 ≤ s.1 ∧ s.1 ≤ 9223372036854775807 ∧ -9223372036854775808 ≤ s.2 ∧ s.2 ≤ 9223372036854775807) : n = l.length ∧ Sps w a n (fr l) (til l) := by
  obtain ⟨a', c', e, hm, hc⟩ := h.shape
  injection e with e1 e2 e3
  subst e1 e2
  refine ⟨rfl, hm, fun hp => ?_⟩
  obtain ⟨g, ha, _, hlt, hk⟩ := hc hp
  refine ⟨g, 0, ha, hlt, fun k hkl => ?_⟩
  obtain ⟨c0, c1, _, _⟩ := hk k hkl
  refine ⟨by rw [Nat.zero_add]; exact c0, by rw [Nat.zero_add]; exact c1, ?_⟩
  have := hb (l.getD k (0, 0)) (by simp [hkl])
  exact this

theorem ow_none (w : World) : OS (w.alloc (.cells #[] 193)) w.heap.size (.slice (some ⟨w.heap.size, 0, none⟩) 0 0) [] :=
  World.ownsRow_lit w #[] 0 (Nat.le_refl _) (by simp) rfl
theorem new_span (w : World) (x y : Value) (t : TypeId) : ∀ j u, [x, y][j]? = some u → (w.alloc (.cells #[x, y] t)).cell? ((⟨w.heap.size, 0, none⟩ : Addr).add j) = some u := by
  intro j u h
  rw [add_at]
  match j with
  | 0 => simp at h; subst h; simp
  | 1 => simp at h; subst h; simp
  | j + 2 => simp at h
/-- What was there below a base stays, whatever is appended to a row of one's own. -/
def Stays (base : Nat) (w w' : World) : Prop := w.heap.size ≤ w'.heap.size ∧ ∀ W, Below base W w → Below base W w'
theorem Stays.refl (base : Nat) (w : World) : Stays base w w := ⟨Nat.le_refl _, fun _ h => h⟩
theorem Stays.trans {base : Nat} {a b c : World} (h : Stays base a b) (k : Stays base b c) : Stays base a c := ⟨Nat.le_trans h.1 k.1, fun W hW => k.2 W (h.2 W hW)⟩
theorem Stays.below {base : Nat} {w w' : World} (hb : base ≤ w.heap.size) (h : Below w.heap.size w w') : Stays base w w' := ⟨h.size, fun _ hW => hW.trans (h.mono hb)⟩

/-- append(s, one span). -/
theorem append_span {w : World} {ops : Array Oper} {rest : List Oper} {o : Oper} {a : Act} {Q : Exit → Act → World → Prop} (hgd : o.guard = none) (s x : Operand)
    (ho : o.op = .call { callee := .builtin .append, args := #[s, x], argTypes := #[23, 23] })
    (base : Nat) (v : Value) (l : List (Int × Int)) (f t : Int) (ad : Addr) (c : Nat) (hs : a.eval s = v) (hx : a.eval x = .slice (some ad) 1 c) (hown : OS w base v l)
    (hc : ∀ j u, [Value.int .i64 f, .int .i64 t][j]? = some u → w.cell? (ad.add j) = some u)
    (hlen : l.length ≤ 100000) (hbase : base ≤ w.heap.size)
    (h : ∀ v' w', OS w' base v' (l ++ [(f, t)]) → Stays base w w' → wpList Try.prog ops Q rest (a.put o.dst v') w') : wpList Try.prog ops Q (o :: rest) a w := by
  obtain ⟨i0, hi, hz0, hz1, hz2⟩ := info_parts spans_info
  refine wpList_append_own w hgd s x 23 ho base 193 i0 (.agg #[.int .i64 0, .int .i64 0]) 2 16 Try.underlying23 hi hz0 hz1 hz2 rfl (by decide) v l.length (spc l) hs hown ad 1 c [.int .i64 f, .int .i64 t] hx rfl hc
    (by intro u hu; simp only [List.mem_cons, List.not_mem_nil, or_false] at hu; rcases hu with rfl | rfl <;> rfl) (by unfold maxLen; omega) (by omega) hbase ?_
  intro v' w' h1 h2 _
  exact h v' w' (by unfold OS; rw [List.length_append, spc_append]; exact h1) ⟨h2.size, fun W hW => hW.grown h2 hbase fun k hk => (World.ownsRow.lt hown k hk).1⟩
end Go.Proofs.Ytibjboacjobaoaa

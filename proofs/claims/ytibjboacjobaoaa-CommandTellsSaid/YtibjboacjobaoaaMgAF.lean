import Derived.Test.YtibjboacjobaoaaMgAE
import Derived.Outline
import Derived.Test.YtibjboacjobaoaaMgAB
import Derived.Test.YtibjboacjobaoaaMgAA
namespace Go.Proofs.Ytibjboacjobaoaa
open Go.RowKit
/- Free: the function that hands out what is not closed. -/
open Go.RowKit Go.Shelf
attribute [local go_sem] Oper.semAt_some

def gap (x y : Int) : List (Int × Int) := if x < y then [(x, y)] else []
/-- What is free from at up to to, the spans from the i-th on being closed, m of them. -/
def freeG (F T : Nat → Int) (to : Int) : Nat → Nat → Int → List (Int × Int)
  | 0, _, at_ => gap at_ to
  | m + 1, i, at_ => gap at_ (min to (F i)) ++ freeG F T to m (i + 1) (T i)
theorem gap_len (x y : Int) : (gap x y).length ≤ 1 := by unfold gap; split <;> simp
theorem freeG_len (F T : Nat → Int) (to : Int) : ∀ m i at_, (freeG F T to m i at_).length ≤ m + 1 := by
  intro m
  induction m with
  | zero => intro i a; exact gap_len _ _
  | succ m ih =>
    intro i a
    have := ih (i + 1) (T i)
    have := gap_len a (min to (F i))
    simp only [freeG, List.length_append]; omega
/-- The free spans of a range. -/
def freeL (F T : Nat → Int) (n : Nat) (x y : Int) : List (Int × Int) := freeG F T y (n - idx T x n) (idx T x n) x
theorem freeL_len (F T : Nat → Int) (n : Nat) (x y : Int) (hn : n ≤ 32) : (freeL F T n x y).length ≤ 33 := by
  have := freeG_len F T y (n - idx T x n) (idx T x n) x
  unfold freeL; omega
/-- Where the loop stands: behind the j-th of the spans from the i-th on. -/
def atJ (T : Nat → Int) (x : Int) (i : Nat) : Nat → Int
  | 0 => x
  | j + 1 => T (i + j)
theorem neq_gap (f t : Int) (h : f < t) (w : World) : (binOp .neq 193 (.agg #[.int .i64 f, .int .i64 t]) (.agg #[.int .i64 0, .int .i64 0])).run Try.prog w = .ok (.bool true) w := by
  rw [neq_span]
  have : (f == 0 && t == 0) = false := by
    cases h1 : f == 0 <;> cases h2 : t == 0 <;> simp_all
  rw [this]; rfl
theorem neq_zero (w : World) : (binOp .neq 193 (.agg #[.int .i64 0, .int .i64 0]) (.agg #[.int .i64 0, .int .i64 0])).run Try.prog w = .ok (.bool false) w := by
  rw [neq_span]; rfl

/- The law's list of what is free. -/
open Go.RowKit Go.Shelf
attribute [local go_sem] Oper.semAt_some

theorem OS.kept_set {w : World} {base b : Nat} {v : Value} {l : List (Int × Int)} (h : OS w base v l) (hne : ∀ g, v.ownBlock = some g → g ≠ b) (u : Value) : OS (w.setCell ⟨b, 0, none⟩ u) base v l := by
  obtain ⟨h1, h2⟩ := h
  refine ⟨h1, ?_⟩
  rcases h2 with h2 | ⟨g, cap, cur, hv, hg, hh, r⟩
  · exact .inl h2
  · exact .inr ⟨g, cap, cur, hv, hg, (Below.heap_setCell _ _ _ _ (hne g (by rw [hv]; rfl))).trans hh, r⟩
/-- append(s, one span), under a fence. -/
theorem append_spanIn {Fn : Fence} {n : Nat} {w : World} {ops : Array Oper} {rest : List Oper} {o : Oper} {a : Act} {Q : Exit → Act → World → Prop} (hgd : o.guard = none) (s x : Operand)
    (ho : o.op = .call { callee := .builtin .append, args := #[s, x], argTypes := #[23, 23] })
    (base : Nat) (v : Value) (l : List (Int × Int)) (f t : Int) (ad : Addr) (c : Nat) (hs : a.eval s = v) (hx : a.eval x = .slice (some ad) 1 c) (hown : OS w base v l)
    (hc : ∀ j u, [Value.int .i64 f, .int .i64 t][j]? = some u → w.cell? (ad.add j) = some u)
    (hlen : l.length ≤ 100000) (hbase : base ≤ w.heap.size)
    (h : ∀ v' w', OS w' base v' (l ++ [(f, t)]) → w.grownBy w' v.ownBlock → wpListIn Fn n Try.prog ops Q rest (a.put o.dst v') w') : wpListIn Fn n Try.prog ops Q (o :: rest) a w := by
  obtain ⟨i0, hi, hz0, hz1, hz2⟩ := info_parts spans_info
  refine wpListIn_append_own w hgd s x 23 ho base 193 i0 (.agg #[.int .i64 0, .int .i64 0]) 2 16 Try.underlying23 hi hz0 hz1 hz2 rfl (by decide) v l.length (spc l) hs hown ad 1 c [.int .i64 f, .int .i64 t] hx rfl hc
    (by intro u hu; simp only [List.mem_cons, List.not_mem_nil, or_false] at hu; rcases hu with rfl | rfl <;> rfl) (by unfold maxLen; omega) (by omega) hbase ?_
  intro v' w' h1 h2 _
  exact h v' w' (by unfold OS; rw [List.length_append, spc_append]; exact h1) h2

/-- What the law's list of what is free is. -/
def Listed (l : List (Int × Int)) (w : World) (e : Ending) (w' : World) : Prop := ∃ v, e = .returned (.tuple #[v, .bool true]) ∧ OS w' w.heap.size v l ∧ Below w.heap.size w w'
/- Bounds of what is free; rows compared; the example of layer 9; the reference's Next. -/
open Go.RowKit

theorem freeG_mem (F T : Nat → Int) (x y : Int) : ∀ m i at_, x ≤ at_ → (∀ j, i ≤ j → j < i + m → x ≤ T j) → ∀ s ∈ freeG F T y m i at_, x ≤ s.1 ∧ s.1 < s.2 ∧ s.2 ≤ y := by
  intro m
  induction m with
  | zero =>
    intro i a ha _ s hs
    simp only [freeG, gap] at hs
    split at hs
    · simp only [List.mem_singleton] at hs
      subst hs
      exact ⟨ha, by assumption, Int.le_refl _⟩
    · cases hs
  | succ m ih =>
    intro i a ha hT s hs
    simp only [freeG, List.mem_append, gap] at hs
    rcases hs with hs | hs
    · split at hs
      · simp only [List.mem_singleton] at hs
        subst hs
        exact ⟨ha, by assumption, by show min y (F i) ≤ y; omega⟩
      · cases hs
    · exact ih (i + 1) (T i) (hT i (Nat.le_refl _) (by omega)) (fun j h1 h2 => hT j (by omega) (by omega)) s hs
theorem freeL_mem {F T : Nat → Int} {n : Nat} (x y : Int) : ∀ s ∈ freeL F T n x y, x ≤ s.1 ∧ s.1 < s.2 ∧ s.2 ≤ y := by
  have h1 := idx_le T x n
  exact freeG_mem F T x y _ _ x (Int.le_refl _) fun j h2 h3 => by
    have := idx_hi (t := x) n j h2 (by omega)
    omega
/-- Spans whose ends fit. -/
def Fits (l : List (Int × Int)) : Prop := ∀ s ∈ l, -9223372036854775808 ≤ s.1 ∧ s.1 ≤ 9223372036854775807 ∧ -9223372036854775808 ≤ s.2 ∧ s.2 ≤ 9223372036854775807
theorem free_fits (F T : Nat → Int) (n : Nat) (x y : Int) : Fits (freeL F T n (max x 0) (min y 1125899906842624)) := fun s hs => by
  have := freeL_mem _ _ s hs
  omega
theorem sps_fits {w : World} {a : Option Addr} {n : Nat} {F T : Nat → Int} (h : Sps w a n F T) : Fits (pairs F T n) := by
  intro s hs
  obtain ⟨k, hk, rfl⟩ := pairs_mem.1 hs
  obtain ⟨_, _, _, _, _, _, b⟩ := h.at (Below.refl _ _) k hk
  exact b
theorem sameB_refl (F T : Nat → Int) : ∀ n, sameB F T F T n = true := fun n => sameB_iff.2 fun k hk => ⟨rfl, rfl⟩
/-- A row of one's own against a row that has the same spans. -/
theorem rsame_row {w : World} {base : Nat} {v : Value} {a : Option Addr} {n cap : Nat} {F T : Nat → Int} (h : OS w base v (pairs F T n)) (hS : Sps w a n F T) :
    Calls Try.prog 116 #[v, .slice a n cap] w fun e w' => e = .returned (.bool true) ∧ ∃ q, w' = w.drewN q := by
  obtain ⟨va, vc, rfl, _, _⟩ := h.shape
  have h1 := (h.sps (sps_fits hS)).2
  rw [pairs_len] at h1 ⊢
  have h2 := rsame_any va a n vc n cap _ _ F T w h1 hS
  have e : sameL (fr (pairs F T n)) (til (pairs F T n)) F T n n = true := by
    simp only [sameL, decide_true, Bool.true_and]
    exact sameB_iff.2 fun k hk => pairs_at F T n k hk
  rw [e] at h2
  exact h2
/-- Two rows of one's own with the same spans. -/
theorem rsame_own {w : World} {base base' : Nat} {v v' : Value} {l : List (Int × Int)} (h : OS w base v l) (h' : OS w base' v' l) (hl : Fits l) :
    Calls Try.prog 116 #[v, v'] w fun e w' => e = .returned (.bool true) ∧ ∃ q, w' = w.drewN q := by
  obtain ⟨va, vc, rfl, _, _⟩ := h.shape
  obtain ⟨va', vc', rfl, _, _⟩ := h'.shape
  have h2 := rsame_any va va' l.length vc l.length vc' _ _ _ _ w (h.sps hl).2 (h'.sps hl).2
  have e : sameL (fr l) (til l) (fr l) (til l) l.length l.length = true := by
    simp only [sameL, decide_true, Bool.true_and]
    exact sameB_refl _ _ _
  rw [e] at h2
  exact h2

theorem lit_two (w : World) (a b c d : Int) (h : -9223372036854775808 ≤ a ∧ a ≤ 9223372036854775807 ∧ -9223372036854775808 ≤ b ∧ b ≤ 9223372036854775807 ∧ -9223372036854775808 ≤ c ∧ c ≤ 9223372036854775807 ∧ -9223372036854775808 ≤ d ∧ d ≤ 9223372036854775807) :
    Sps (w.alloc (.cells #[.int .i64 a, .int .i64 b, .int .i64 c, .int .i64 d] 193)) (some ⟨w.heap.size, 0, none⟩) 2 (fr [(a, b), (c, d)]) (til [(a, b), (c, d)]) := by
  refine ⟨by unfold maxLen; omega, fun _ => ⟨w.heap.size, 0, rfl, by simp, fun k hk => ?_⟩⟩
  rcases (by omega : k = 0 ∨ k = 1) with rfl | rfl
  · refine ⟨by simp [fr], by simp [til], ?_⟩
    simp only [fr, til, List.getD_eq_getElem?_getD, List.getElem?_cons_zero, Option.getD_some]
    omega
  · refine ⟨by simp [fr], by simp [til], ?_⟩
    simp only [fr, til, List.getD_eq_getElem?_getD, List.getElem?_cons_succ, List.getElem?_cons_zero, Option.getD_some]
    omega
theorem lit_one (w : World) (a b : Int) (h : -9223372036854775808 ≤ a ∧ a ≤ 9223372036854775807 ∧ -9223372036854775808 ≤ b ∧ b ≤ 9223372036854775807) :
    Sps (w.alloc (.cells #[.int .i64 a, .int .i64 b] 193)) (some ⟨w.heap.size, 0, none⟩) 1 (fr [(a, b)]) (til [(a, b)]) := by
  refine ⟨by unfold maxLen; omega, fun _ => ⟨w.heap.size, 0, rfl, by simp, fun k hk => ?_⟩⟩
  obtain rfl : k = 0 := by omega
  refine ⟨by simp [fr], by simp [til], ?_⟩
  simp only [fr, til, List.getD_eq_getElem?_getD, List.getElem?_cons_zero, Option.getD_some]
  omega
theorem pairs_lit2 (x y : Int × Int) : pairs (fr [x, y]) (til [x, y]) 2 = [x, y] := by
  simp [pairs, List.range_succ, fr, til]

/- sync.Once over a cell of lazy: the slow road with the call of create as a hypothesis, and Do. -/
open Go.RowKit

/-- What the function that Once calls leaves behind: Once's own words are as they were. -/
structure Held (b o : Nat) (w : World) : Prop where
  d : w.cell? ⟨b, o, none⟩ = some (.int .u32 0)
  l : w.cell? ⟨b, o + 1, none⟩ = some (.int .i32 1)
  fd : w.frozen? ⟨b, o, none⟩ = false
  fl : w.frozen? ⟨b, o + 1, none⟩ = false

end Go.Proofs.Ytibjboacjobaoaa

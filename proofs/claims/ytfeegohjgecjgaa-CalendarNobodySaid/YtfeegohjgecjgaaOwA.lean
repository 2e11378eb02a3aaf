/- Rows of spans of one's own: an append of one span, a copy of a row, add. -/
import Derived.Test.YtfeegohjgecjgaaSpB
import Derived.Test.YtfeegohjgecjgaaSpE
import Derived.Laws.AppendOwnNone
import Derived.Laws.OwnMore
import Derived.OwnWalk
namespace Go.Proofs.Ytfeegohjgecjgaa
open Go.RowKit

theorem below_drewN' {B : Nat} {w w' : World} (h : Below B w w') (n : Nat) : Below B w (w'.drewN n) := ⟨h.os, h.tape, h.output, h.size, h.block⟩
/-- The cells of spans. -/
def spc (l : List (Int × Int)) : List Value := l.flatMap fun x => [.int .i64 x.1, .int .i64 x.2]
theorem spc_append (a b : List (Int × Int)) : spc (a ++ b) = spc a ++ spc b := by simp [spc]
theorem spc_len (l : List (Int × Int)) : (spc l).length = l.length * 2 := by
  unfold spc
  induction l with
  | nil => rfl
  | cons r l ih => rw [List.flatMap_cons, List.length_append, ih]; simp; omega
theorem spc_one (l : List (Int × Int)) : ∀ u ∈ spc l, u.oneCell' = true := by
  intro u hu
  simp only [spc, List.mem_flatMap, List.mem_cons, List.not_mem_nil, or_false] at hu
  obtain ⟨x, _, rfl | rfl⟩ := hu <;> rfl
theorem spc_at : ∀ (l : List (Int × Int)) (k : Nat), k < l.length → (spc l)[k * 2]? = some (.int .i64 (l.getD k (0, 0)).1) ∧ (spc l)[k * 2 + 1]? = some (.int .i64 (l.getD k (0, 0)).2)
  | [], k, h => by simp at h
  | x :: l, 0, _ => ⟨rfl, rfl⟩
  | x :: l, k + 1, h => by
    have := spc_at l k (by simpa using h)
    have e : spc (x :: l) = .int .i64 x.1 :: .int .i64 x.2 :: spc l := rfl
    rw [e, show (k + 1) * 2 = k * 2 + 1 + 1 by omega, show k * 2 + 1 + 1 + 1 = (k * 2 + 1) + 1 + 1 by omega]
    simp only [List.getElem?_cons_succ]
    exact this
/-- Where the spans of a list begin, and end. -/
def fr (l : List (Int × Int)) (k : Nat) : Int := (l.getD k (0, 0)).1
def til (l : List (Int × Int)) (k : Nat) : Int := (l.getD k (0, 0)).2
/-- A row as a list. -/
def pairs (F T : Nat → Int) (n : Nat) : List (Int × Int) := (List.range n).map fun k => (F k, T k)
theorem pairs_len (F T : Nat → Int) (n : Nat) : (pairs F T n).length = n := by simp [pairs]
theorem pairs_succ (F T : Nat → Int) (n : Nat) : pairs F T (n + 1) = pairs F T n ++ [(F n, T n)] := by simp [pairs, List.range_succ]
theorem pairs_at (F T : Nat → Int) (n k : Nat) (h : k < n) : fr (pairs F T n) k = F k ∧ til (pairs F T n) k = T k := by
  simp [fr, til, pairs, h]
theorem pairs_mem {F T : Nat → Int} {n : Nat} {s : Int × Int} : s ∈ pairs F T n ↔ ∃ k, k < n ∧ s = (F k, T k) := by
  simp only [pairs, List.mem_map, List.mem_range]
  constructor
  · rintro ⟨k, hk, rfl⟩; exact ⟨k, hk, rfl⟩
  · rintro ⟨k, hk, rfl⟩; exact ⟨k, hk, rfl⟩
theorem spans_info : (Try.prog.info? 30).map (fun i => (i.zero, i.size, i.bytes)) = some (some (.agg #[.int .i64 0, .int .i64 0]), 2, 16) := by kernel_rfl

/-- The slice v, whose spans are l, is the call's own. -/
def OS (w : World) (base : Nat) (v : Value) (l : List (Int × Int)) : Prop := w.ownsRow base 30 2 v l.length (spc l)
theorem OS.kept {w w' : World} {base : Nat} {v : Value} {l : List (Int × Int)} (h : OS w base v l) (hb : Below w.heap.size w w') : OS w' base v l := by
  obtain ⟨h1, h2⟩ := h
  refine ⟨h1, ?_⟩
  rcases h2 with h2 | ⟨g, cap, cur, hv, hg, hh, r⟩
  · exact .inl h2
  · exact .inr ⟨g, cap, cur, hv, hg, by rw [hb.block g (Array.getElem?_eq_some_iff.mp hh).1]; exact hh, r⟩
theorem OS.mono {w : World} {base base' : Nat} {v : Value} {l : List (Int × Int)} (h : OS w base v l) (hb : base' ≤ base) : OS w base' v l := by
  obtain ⟨h1, h2⟩ := h
  refine ⟨h1, ?_⟩
  rcases h2 with h2 | ⟨g, cap, cur, hv, hg, r⟩
  · exact .inl h2
  · exact .inr ⟨g, cap, cur, hv, by omega, r⟩
theorem OS.nil (w : World) (base : Nat) : OS w base (.slice none 0 0) [] := ⟨rfl, .inl ⟨rfl, rfl⟩⟩
theorem OS.shape {w : World} {base : Nat} {v : Value} {l : List (Int × Int)} (h : OS w base v l) : ∃ a c, v = .slice a l.length c ∧ l.length ≤ maxLen ∧
    (0 < l.length → ∃ g, a = some ⟨g, 0, none⟩ ∧ base ≤ g ∧ g < w.heap.size ∧ ∀ k, k < l.length → w.cell? ⟨g, k * 2, none⟩ = some (.int .i64 (fr l k)) ∧ w.cell? ⟨g, k * 2 + 1, none⟩ = some (.int .i64 (til l k)) ∧ w.frozen? ⟨g, k * 2, none⟩ = false ∧ w.frozen? ⟨g, k * 2 + 1, none⟩ = false) := by
  have h' := h
  rcases h'.2 with ⟨hv, h0⟩ | ⟨g, cap, cur, hv, hg, hh, hc, hm, _⟩
  · exact ⟨none, 0, by rw [hv, h0], by rw [h0]; exact Nat.zero_le _, fun h1 => by omega⟩
  · subst hv
    refine ⟨_, cap, rfl, by omega, fun h1 => ⟨g, rfl, hg, (Array.getElem?_eq_some_iff.mp hh).1, fun k hk => ?_⟩⟩
    have c0 := World.ownsRow.cellAt h (k * 2) (by omega)
    have c1 := World.ownsRow.cellAt h (k * 2 + 1) (by omega)
    have hs := spc_at l k hk
    rw [hs.1] at c0
    rw [hs.2] at c1
    exact ⟨c0, c1, World.ownsRow.frozenAt h _, World.ownsRow.frozenAt h _⟩
/-- An own row can be read. -/
theorem OS.sps {w : World} {base : Nat} {a : Option Addr} {n c : Nat} {l : List (Int × Int)} (h : OS w base (.slice a n c) l)
    (hb : ∀ s ∈ l, -9223372036854775808 ≤ s.1 ∧ s.1 ≤ 9223372036854775807 ∧ -9223372036854775808 ≤ s.2 ∧ s.2 ≤ 9223372036854775807) : n = l.length ∧ Sps w a n (fr l) (til l) := by
  obtain ⟨a', c', e, hm, hc⟩ := h.shape
  injection e with e1 e2 e3
  subst e1 e2
  refine ⟨rfl, hm, fun hp => ?_⟩
  obtain ⟨g, ha, _, hlt, hk⟩ := hc hp
  refine ⟨g, 0, ha, hlt, fun k hkl => ?_⟩
  obtain ⟨c0, c1, _, _⟩ := hk k hkl
  refine ⟨by rw [Nat.zero_add]; exact c0, by rw [Nat.zero_add]; exact c1, ?_⟩
  have := hb (l.getD k (0, 0)) (by simp [hkl])
  exact this

theorem ow_none (w : World) : OS (w.alloc (.cells #[] 30)) w.heap.size (.slice (some ⟨w.heap.size, 0, none⟩) 0 0) [] :=
  World.ownsRow_lit w #[] 0 (Nat.le_refl _) (by simp) rfl
theorem new_span (w : World) (x y : Value) (t : TypeId) : ∀ j u, [x, y][j]? = some u → (w.alloc (.cells #[x, y] t)).cell? ((⟨w.heap.size, 0, none⟩ : Addr).add j) = some u := by
  intro j u h
  rw [add_at]
  match j with
  | 0 => simp at h; subst h; simp
  | 1 => simp at h; subst h; simp
  | j + 2 => simp at h
/-- What was there below a base stays, whatever is appended to a row of one's own. -/
def Stays (base : Nat) (w w' : World) : Prop := w.heap.size ≤ w'.heap.size ∧ ∀ W, Below base W w → Below base W w'
theorem Stays.refl (base : Nat) (w : World) : Stays base w w := ⟨Nat.le_refl _, fun _ h => h⟩
theorem Stays.trans {base : Nat} {a b c : World} (h : Stays base a b) (k : Stays base b c) : Stays base a c := ⟨Nat.le_trans h.1 k.1, fun W hW => k.2 W (h.2 W hW)⟩
theorem Stays.below {base : Nat} {w w' : World} (hb : base ≤ w.heap.size) (h : Below w.heap.size w w') : Stays base w w' := ⟨h.size, fun _ hW => hW.trans (h.mono hb)⟩

/-- append(s, one span). -/
theorem append_span {w : World} {ops : Array Oper} {rest : List Oper} {o : Oper} {a : Act} {Q : Exit → Act → World → Prop} (hgd : o.guard = none) (s x : Operand)
    (ho : o.op = .call { callee := .builtin .append, args := #[s, x], argTypes := #[22, 22] })
    (base : Nat) (v : Value) (l : List (Int × Int)) (f t : Int) (ad : Addr) (c : Nat) (hs : a.eval s = v) (hx : a.eval x = .slice (some ad) 1 c) (hown : OS w base v l)
    (hc : ∀ j u, [Value.int .i64 f, .int .i64 t][j]? = some u → w.cell? (ad.add j) = some u)
    (hlen : l.length ≤ 100000) (hbase : base ≤ w.heap.size)
    (h : ∀ v' w', OS w' base v' (l ++ [(f, t)]) → Stays base w w' → wpList Try.prog ops Q rest (a.put o.dst v') w') : wpList Try.prog ops Q (o :: rest) a w := by
  obtain ⟨i0, hi, hz0, hz1, hz2⟩ := info_parts spans_info
  refine wpList_append_own w hgd s x 22 ho base 30 i0 (.agg #[.int .i64 0, .int .i64 0]) 2 16 Try.underlying22 hi hz0 hz1 hz2 rfl (by decide) v l.length (spc l) hs hown ad 1 c [.int .i64 f, .int .i64 t] hx rfl hc
    (by intro u hu; simp only [List.mem_cons, List.not_mem_nil, or_false] at hu; rcases hu with rfl | rfl <;> rfl) (by unfold maxLen; omega) (by omega) hbase ?_
  intro v' w' h1 h2 _
  exact h v' w' (by unfold OS; rw [List.length_append, spc_append]; exact h1) ⟨h2.size, fun W hW => hW.grown h2 hbase fun k hk => (World.ownsRow.lt hown k hk).1⟩
end Go.Proofs.Ytfeegohjgecjgaa

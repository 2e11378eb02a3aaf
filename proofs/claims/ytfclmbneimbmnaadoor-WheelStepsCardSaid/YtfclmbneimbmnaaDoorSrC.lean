/- Rows of the reference's things of one's own, appended to. -/
import Derived.Test.YtfclmbneimbmnaaDoorSrB
import Derived.Laws.AppendOwnNone
namespace Go.Proofs.YtfclmbneimbmnaaDoor
open Go.RowKit

/-- Their cells. -/
def rtc (l : List Rt) : List Value := l.flatMap enR
theorem rtc_append (a b : List Rt) : rtc (a ++ b) = rtc a ++ rtc b := by simp [rtc]
theorem rtc_len (l : List Rt) : (rtc l).length = l.length * 4 := by
  induction l with
  | nil => rfl
  | cons x l ih => simp only [rtc, List.flatMap_cons, List.length_append, List.length_cons] at ih ⊢; rw [ih]; simp [enR]; omega
theorem rtc_one (l : List Rt) : ∀ u ∈ rtc l, u.oneCell' = true := by
  intro u hu
  simp only [rtc, List.mem_flatMap] at hu
  obtain ⟨x, _, hx⟩ := hu
  unfold enR at hx
  simp only [List.mem_cons, List.not_mem_nil, or_false] at hx
  rcases hx with rfl | rfl | rfl | rfl <;> rfl
theorem rtc_at : ∀ (l : List Rt) (k : Nat) (hk : k < l.length), (rtc l)[k * 4]? = some (.int .u64 (l[k]).1.1) ∧ (rtc l)[k * 4 + 1]? = some (.int .u64 (l[k]).1.2.1) ∧ (rtc l)[k * 4 + 2]? = some (.int .i64 (l[k]).1.2.2) ∧ (rtc l)[k * 4 + 3]? = some (.int .i64 (l[k]).2)
  | [], k, h => by simp at h
  | x :: l, 0, _ => by simp [rtc, enR]
  | x :: l, k + 1, h => by
    have ih := rtc_at l k (by simpa using h)
    have e : rtc (x :: l) = enR x ++ rtc l := by simp [rtc]
    rw [e]
    have e1 : ∀ j, (enR x ++ rtc l)[(k + 1) * 4 + j]? = (rtc l)[k * 4 + j]? := fun j => by
      rw [List.getElem?_append_right (by simp [enR]; omega)]
      congr 1
      simp [enR]; omega
    exact ⟨(e1 0).trans ih.1, (e1 1).trans ih.2.1, (e1 2).trans ih.2.2.1, (e1 3).trans ih.2.2.2⟩
theorem rt_info : (Tryd.prog.info? 29).map (fun i => (i.zero, i.size, i.bytes)) = some (some (.agg #[.int .u64 0, .int .u64 0, .int .i64 0, .int .i64 0]), 4, 32) := by kernel_rfl

/-- The slice v, whose things are l, is one's own. -/
def OR (w : World) (base : Nat) (v : Value) (l : List Rt) : Prop := w.ownsRow base 29 4 v l.length (rtc l)
theorem OR.nil (w : World) (base : Nat) : OR w base (.slice none 0 0) [] := ⟨rfl, .inl ⟨rfl, rfl⟩⟩
theorem OR.empty (w : World) (base : Nat) (h : base ≤ w.heap.size) : OR (w.alloc (.cells #[] 29)) base (.slice (some ⟨w.heap.size, 0, none⟩) 0 0) [] :=
  ⟨rfl, .inr ⟨w.heap.size, 0, #[], rfl, h, (MapKept.heap_alloc w _).1, Nat.le_refl _, by unfold maxLen; omega, rfl, rfl⟩⟩
theorem OR.keep {w w' : World} {base : Nat} {v : Value} {l : List Rt} (h : OR w base v l) (hb : Below w.heap.size w w') : OR w' base v l := by
  obtain ⟨h1, h2⟩ := h
  refine ⟨h1, ?_⟩
  rcases h2 with h2 | ⟨g, cap, cur, rfl, hg, hc, h3⟩
  · exact .inl h2
  · exact .inr ⟨g, cap, cur, rfl, hg, (hb.block g (Array.getElem?_eq_some_iff.1 hc).1).trans hc, h3⟩
theorem OR.mono {w : World} {base base' : Nat} {v : Value} {l : List Rt} (h : OR w base v l) (hb : base' ≤ base) : OR w base' v l := by
  obtain ⟨h1, h2⟩ := h
  refine ⟨h1, ?_⟩
  rcases h2 with h2 | ⟨g, cap, cur, rfl, hg, hc, h3⟩
  · exact .inl h2
  · exact .inr ⟨g, cap, cur, rfl, by omega, hc, h3⟩
theorem OR.shape {w : World} {base : Nat} {v : Value} {l : List Rt} (h : OR w base v l) : ∃ a c, v = .slice a l.length c ∧ (a = none → l = [] ∧ c = 0) ∧ RS w a l ∧ l.length ≤ c := by
  have h' := h
  rcases h'.2 with ⟨rfl, h0⟩ | ⟨g, cap, cur, rfl, _, _, hc, _⟩
  · have e : l = [] := List.length_eq_zero_iff.1 h0
    subst e
    exact ⟨none, 0, rfl, fun _ => ⟨rfl, rfl⟩, fun k hk => (by simp at hk), Nat.le_refl _⟩
  · refine ⟨_, _, rfl, fun e => (by cases e), fun k hk => ⟨g, 0, rfl, ?_⟩, hc⟩
    have ht := rtc_at l k hk
    rw [Nat.zero_add]
    exact ⟨(World.ownsRow.cellAt h _ (by omega)).trans ht.1, (World.ownsRow.cellAt h _ (by omega)).trans ht.2.1, (World.ownsRow.cellAt h _ (by omega)).trans ht.2.2.1, (World.ownsRow.cellAt h _ (by omega)).trans ht.2.2.2⟩

theorem OR.addr {w : World} {base : Nat} {a : Option Addr} {n c : Nat} {l : List Rt} (h : OR w base (.slice a n c) l) : (a = none ∧ l = [] ∧ c = 0) ∨ ∃ g, a = some ⟨g, 0, none⟩ := by
  rcases h.2 with ⟨hv, h0⟩ | ⟨g, cap, cur, hv, _⟩
  · injection hv with h1 _ h3
    exact .inl ⟨h1, List.length_eq_zero_iff.1 h0, h3⟩
  · injection hv with h1
    exact .inr ⟨g, h1⟩

/-- Cells of a row that can be read, from its k-th thing on. -/
theorem RS.news {w : World} {B o : Nat} {l : List Rt} (h : RS w (some ⟨B, o, none⟩) l) : ∀ j u, (rtc l)[j]? = some u → w.cell? ((⟨B, o, none⟩ : Addr).add j) = some u := by
  intro j u hj
  have hjl : j < l.length * 4 := by rw [← rtc_len]; exact (List.getElem?_eq_some_iff.1 hj).1
  have hk : j / 4 < l.length := by omega
  obtain ⟨B', o', e, c0, c1, c2, c3⟩ := h (j / 4) hk
  injection e with e
  injection e with e1 e2
  subst e1 e2
  have ht := rtc_at l (j / 4) hk
  have e3 : (⟨B, o, none⟩ : Addr).add j = ⟨B, o + j, none⟩ := by cases j <;> simp [Addr.add]
  rw [e3]
  have hm : j % 4 = 0 ∨ j % 4 = 1 ∨ j % 4 = 2 ∨ j % 4 = 3 := by omega
  rcases hm with hm | hm | hm | hm
  · rw [show j = j / 4 * 4 by omega] at hj ⊢; rw [ht.1] at hj; rw [← hj]; exact c0
  · rw [show j = j / 4 * 4 + 1 by omega] at hj ⊢; rw [ht.2.1] at hj; rw [← hj]; exact c1
  · rw [show j = j / 4 * 4 + 2 by omega] at hj ⊢; rw [ht.2.2.1] at hj; rw [← hj]; exact c2
  · rw [show j = j / 4 * 4 + 3 by omega] at hj ⊢; rw [ht.2.2.2] at hj; rw [← hj]; exact c3

/-- append(a row of one's own, a row that can be read). -/
theorem append_rt {w : World} {ops : Array Oper} {rest : List Oper} {o : Oper} {a : Act} {Q : Exit → Act → World → Prop} (hgd : o.guard = none) (s x : Operand)
    (ho : o.op = .call { callee := .builtin .append, args := #[s, x], argTypes := #[24, 24] })
    (base : Nat) (v : Value) (l m : List Rt) (B f n : Nat) (c : Nat) (hs : a.eval s = v) (hn : n = m.length) (hx : a.eval x = .slice (some ⟨B, f, none⟩) n c) (hown : OR w base v l)
    (hR : RS w (some ⟨B, f, none⟩) m) (hlen : l.length + m.length ≤ 100000) (hbase : base ≤ w.heap.size)
    (h : ∀ v' w', OR w' base v' (l ++ m) → w.heap.size ≤ w'.heap.size → (∀ W, Below base W w → Below base W w') → wpList Tryd.prog ops Q rest (a.put o.dst v') w') : wpList Tryd.prog ops Q (o :: rest) a w := by
  subst hn
  obtain ⟨i0, hi, hz0, hz1, hz2⟩ := info_parts rt_info
  refine wpList_append_own w hgd s x 24 ho base 29 i0 (.agg #[.int .u64 0, .int .u64 0, .int .i64 0, .int .i64 0]) 4 32 Tryd.underlying24 hi hz0 hz1 hz2 rfl (by decide) v l.length (rtc l) hs hown ⟨B, f, none⟩ m.length c (rtc m) hx (rtc_len m) hR.news
    (rtc_one m) (by unfold maxLen; omega) (by omega) hbase ?_
  intro v' w' h1 h2 _
  exact h v' w' (by unfold OR; rw [List.length_append, rtc_append]; exact h1) h2.size (fun W hW => hW.grown h2 hbase fun k hk => (World.ownsRow.lt hown k hk).1)

/-- append(a row of one's own, nothing). -/
theorem append_rt_none {w : World} {ops : Array Oper} {rest : List Oper} {o : Oper} {a : Act} {Q : Exit → Act → World → Prop} (hgd : o.guard = none) (s x : Operand)
    (ho : o.op = .call { callee := .builtin .append, args := #[s, x], argTypes := #[24, 24] })
    (base : Nat) (v : Value) (l : List Rt) (hs : a.eval s = v) (hx : a.eval x = .slice none 0 0) (hown : OR w base v l)
    (h : wpList Tryd.prog ops Q rest (a.put o.dst v) w) : wpList Tryd.prog ops Q (o :: rest) a w := by
  obtain ⟨i0, hi, hz0, hz1, hz2⟩ := info_parts rt_info
  exact wpList_append_own_none hgd s x 24 ho base 29 i0 4 Tryd.underlying24 hi v l.length (rtc l) hs hown hx h
theorem RS.take {w : World} {a : Option Addr} {l : List Rt} (h : RS w a l) (n : Nat) : RS w a (l.take n) := fun k hk => by
  have hk' : k < l.length := by simp at hk; omega
  have e : (l.take n)[k] = l[k] := by simp
  rw [e]; exact h k hk'
theorem RS.drop {w : World} {B : Nat} {l : List Rt} (h : RS w (some ⟨B, 0, none⟩) l) (n : Nat) : RS w (some ⟨B, n * 4, none⟩) (l.drop n) := fun k hk => by
  have hk' : n + k < l.length := by simp at hk; omega
  have e : (l.drop n)[k] = l[n + k] := by simp
  obtain ⟨B', o', e', c0, c1, c2, c3⟩ := h (n + k) hk'
  injection e' with e'
  injection e' with e1 e2
  subst e1 e2
  refine ⟨B, n * 4, rfl, ?_⟩
  rw [e, show n * 4 + k * 4 = 0 + (n + k) * 4 by omega]
  exact ⟨c0, c1, c2, c3⟩
theorem RS.one {w : World} {B : Nat} {x : Rt} (c0 : w.cell? ⟨B, 0, none⟩ = some (.int .u64 x.1.1)) (c1 : w.cell? ⟨B, 1, none⟩ = some (.int .u64 x.1.2.1)) (c2 : w.cell? ⟨B, 2, none⟩ = some (.int .i64 x.1.2.2)) (c3 : w.cell? ⟨B, 3, none⟩ = some (.int .i64 x.2)) : RS w (some ⟨B, 0, none⟩) [x] := fun k hk => by
  have : k = 0 := by simpa using hk
  subst this
  exact ⟨B, 0, rfl, c0, c1, c2, c3⟩
end Go.Proofs.YtfclmbneimbmnaaDoor

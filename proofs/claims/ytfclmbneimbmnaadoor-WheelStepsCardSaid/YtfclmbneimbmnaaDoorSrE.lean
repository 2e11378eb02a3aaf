/- Rows appended to, with what stays told block by block; what insertion makes of the reference's things. -/
import Derived.Test.YtfclmbneimbmnaaDoorSrD
import Derived.Maps.AppendAt
namespace Go.Proofs.YtfclmbneimbmnaaDoor
open Go.RowKit

theorem rp_map (x : Rt) (L : List Rt) : ∀ k, k ≤ L.length → rp ltR x L zR k = rp ltT x.1 (L.map (·.1)) zT k
  | 0, _ => rfl
  | k + 1, hk => by
    unfold rp
    have e1 : L.getD k zR = L[k]'(by omega) := by rw [List.getD_eq_getElem?_getD, List.getElem?_eq_getElem (by omega)]; rfl
    have e2 : (L.map (·.1)).getD k zT = (L[k]'(by omega)).1 := by rw [List.getD_eq_getElem?_getD, List.getElem?_eq_getElem (by simp; omega)]; simp
    rw [e1, e2, rp_map x L k (by omega)]
    rfl
theorem insR_map (x : Rt) (L : List Rt) : (insR ltR zR x L).map (·.1) = insR ltT zT x.1 (L.map (·.1)) := by
  unfold insR
  rw [rp_map x L L.length (Nat.le_refl _)]
  simp [List.map_take, List.map_drop]
theorem foldl_map_fst : ∀ (l out : List Rt), (l.foldl (fun out x => insR ltR zR x out) out).map (·.1) = (l.map (·.1)).foldl (fun out x => insR ltT zT x out) (out.map (·.1))
  | [], _ => rfl
  | x :: l, out => by
    rw [List.foldl_cons, List.map_cons, List.foldl_cons, foldl_map_fst l, insR_map]
theorem srt_map (l : List Rt) : (srt ltR zR l).map (·.1) = srt ltT zT (l.map (·.1)) := foldl_map_fst l []
theorem srtT_len (l : List Th) : (srt ltT zT l).length = l.length := (srt_perm ltT zT l).length_eq

/-- append(a row of one's own, a row that can be read), with what stays. -/
theorem append_rtG {w : World} {ops : Array Oper} {rest : List Oper} {o : Oper} {a : Act} {Q : Exit → Act → World → Prop} (hgd : o.guard = none) (s x : Operand)
    (ho : o.op = .call { callee := .builtin .append, args := #[s, x], argTypes := #[24, 24] })
    (base : Nat) (v : Value) (l m : List Rt) (B f n : Nat) (c : Nat) (hs : a.eval s = v) (hn : n = m.length) (hx : a.eval x = .slice (some ⟨B, f, none⟩) n c) (hown : OR w base v l)
    (hR : RS w (some ⟨B, f, none⟩) m) (hlen : l.length + m.length ≤ 100000) (hbase : base ≤ w.heap.size)
    (h : ∀ v' w', OR w' base v' (l ++ m) → w.grownBy w' v.ownBlock → (v'.ownBlock = v.ownBlock ∨ v'.ownBlock = some w.heap.size) → wpList Tryd.prog ops Q rest (a.put o.dst v') w') : wpList Tryd.prog ops Q (o :: rest) a w := by
  subst hn
  obtain ⟨i0, hi, hz0, hz1, hz2⟩ := info_parts rt_info
  refine wpList_append_own_at w hgd s x 24 ho base 29 i0 (.agg #[.int .u64 0, .int .u64 0, .int .i64 0, .int .i64 0]) 4 32 Tryd.underlying24 hi hz0 hz1 hz2 rfl (by decide) v l.length (rtc l) hs hown ⟨B, f, none⟩ m.length c (rtc m) hx (rtc_len m) hR.news
    (rtc_one m) (by unfold maxLen; omega) (by omega) hbase ?_
  intro v' w' h1 h2 _ h4
  exact h v' w' (by unfold OR; rw [List.length_append, rtc_append]; exact h1) h2 h4

theorem TS.news {w : World} {B o : Nat} {l : List Th} (h : TS w (some ⟨B, o, none⟩) l) : ∀ j u, (thc l)[j]? = some u → w.cell? ((⟨B, o, none⟩ : Addr).add j) = some u := by
  intro j u hj
  have hjl : j < l.length * 3 := by rw [← thc_len]; exact (List.getElem?_eq_some_iff.1 hj).1
  have hk : j / 3 < l.length := by omega
  obtain ⟨B', o', e, c0, c1, c2⟩ := h (j / 3) hk
  injection e with e
  injection e with e1 e2
  subst e1 e2
  have ht := thc_at l (j / 3) hk
  have e3 : (⟨B, o, none⟩ : Addr).add j = ⟨B, o + j, none⟩ := by cases j <;> simp [Addr.add]
  rw [e3]
  have hm : j % 3 = 0 ∨ j % 3 = 1 ∨ j % 3 = 2 := by omega
  rcases hm with hm | hm | hm
  · rw [show j = j / 3 * 3 by omega] at hj ⊢; rw [ht.1] at hj; rw [← hj]; exact c0
  · rw [show j = j / 3 * 3 + 1 by omega] at hj ⊢; rw [ht.2.1] at hj; rw [← hj]; exact c1
  · rw [show j = j / 3 * 3 + 2 by omega] at hj ⊢; rw [ht.2.2] at hj; rw [← hj]; exact c2

theorem thc_one (l : List Th) : ∀ u ∈ thc l, u.oneCell' = true := by
  intro u hu
  simp only [thc, List.mem_flatMap] at hu
  obtain ⟨x, _, hx⟩ := hu
  exact enT_one x u hx

/-- append(a row of things of one's own, a row that can be read). -/
theorem append_ts {w : World} {ops : Array Oper} {rest : List Oper} {o : Oper} {a : Act} {Q : Exit → Act → World → Prop} (hgd : o.guard = none) (s x : Operand)
    (ho : o.op = .call { callee := .builtin .append, args := #[s, x], argTypes := #[22, 22] })
    (base : Nat) (v : Value) (l m : List Th) (B f n : Nat) (c : Nat) (hs : a.eval s = v) (hn : n = m.length) (hx : a.eval x = .slice (some ⟨B, f, none⟩) n c) (hown : OT w base v l)
    (hR : TS w (some ⟨B, f, none⟩) m) (hlen : l.length + m.length ≤ 100000) (hbase : base ≤ w.heap.size)
    (h : ∀ v' w', OT w' base v' (l ++ m) → w.grownBy w' v.ownBlock → (v'.ownBlock = v.ownBlock ∨ v'.ownBlock = some w.heap.size) → wpList Tryd.prog ops Q rest (a.put o.dst v') w') : wpList Tryd.prog ops Q (o :: rest) a w := by
  subst hn
  obtain ⟨i0, hi, hz0, hz1, hz2⟩ := info_parts th_info
  refine wpList_append_own_at w hgd s x 22 ho base 27 i0 (.agg #[.int .u64 0, .int .u64 0, .int .i64 0]) 3 24 Tryd.underlying22 hi hz0 hz1 hz2 rfl (by decide) v l.length (thc l) hs hown ⟨B, f, none⟩ m.length c (thc m) hx (thc_len m) hR.news
    (thc_one m) (by unfold maxLen; omega) (by omega) hbase ?_
  intro v' w' h1 h2 _ h4
  exact h v' w' (by unfold OT; rw [List.length_append, thc_append]; exact h1) h2 h4

theorem OT.empty (w : World) (base : Nat) (h : base ≤ w.heap.size) : OT (w.alloc (.cells #[] 27)) base (.slice (some ⟨w.heap.size, 0, none⟩) 0 0) [] :=
  ⟨rfl, .inr ⟨w.heap.size, 0, #[], rfl, h, (MapKept.heap_alloc w _).1, Nat.le_refl _, by unfold maxLen; omega, rfl, rfl⟩⟩
theorem OT.reads {w : World} {base : Nat} {v : Value} {l : List Th} (h : OT w base v l) : ∃ a c, v = .slice a l.length c ∧ TS w a l := by
  have h' := h
  rcases h'.2 with ⟨rfl, h0⟩ | ⟨g, cap, cur, rfl, _, _, hc, _⟩
  · have e : l = [] := List.length_eq_zero_iff.1 h0
    subst e
    exact ⟨none, 0, rfl, fun k hk => (by simp at hk)⟩
  · refine ⟨_, _, rfl, fun k hk => ⟨g, 0, rfl, ?_⟩⟩
    have ht := thc_at l k hk
    rw [Nat.zero_add]
    exact ⟨(World.ownsRow.cellAt h _ (by omega)).trans ht.1, (World.ownsRow.cellAt h _ (by omega)).trans ht.2.1, (World.ownsRow.cellAt h _ (by omega)).trans ht.2.2⟩
theorem OT.below {w w' : World} {base : Nat} {v : Value} {l : List Th} (h : OT w base v l) (hb : Below w.heap.size w w') : OT w' base v l := h.keep fun g hg => hb.block g (h.lt hg)
theorem OR.own_lt {w : World} {base : Nat} {v : Value} {l : List Rt} (h : OR w base v l) {g : Nat} (hg : v.ownBlock = some g) : base ≤ g ∧ g < w.heap.size := World.ownsRow.lt h g hg
theorem OR.only {X : Nat → Prop} {w w' : World} {base : Nat} {v : Value} {l : List Rt} (h : OR w base v l) (ho : Only X w w') (hx : ∀ g, v.ownBlock = some g → ¬ X g) : OR w' base v l := by
  have h' := h
  obtain ⟨h1, h2⟩ := h
  refine ⟨h1, ?_⟩
  rcases h2 with h2 | ⟨g, cap, cur, rfl, hg, hc, h3⟩
  · exact .inl h2
  · exact .inr ⟨g, cap, cur, rfl, hg, (ho.block g (Array.getElem?_eq_some_iff.1 hc).1 (hx g rfl)).trans hc, h3⟩
end Go.Proofs.YtfclmbneimbmnaaDoor

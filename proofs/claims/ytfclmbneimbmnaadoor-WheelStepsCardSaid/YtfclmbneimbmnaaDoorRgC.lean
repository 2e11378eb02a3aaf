/- Rows of things of one's own, appended to. -/
import Derived.Test.YtfclmbneimbmnaaDoorRgB
import Derived.Test.YtfclmbneimbmnaaDoorStC
import Derived.Maps.AppendAt
import Derived.Deep.RegionHeld
import Derived.Laws.OwnMore
import Derived.OwnWalk
namespace Go.Proofs.YtfclmbneimbmnaaDoor
open Go.RowKit

/-- The cells of things. -/
def thc (l : List Th) : List Value := l.flatMap enT
theorem thc_append (a b : List Th) : thc (a ++ b) = thc a ++ thc b := by simp [thc]
theorem thc_len (l : List Th) : (thc l).length = l.length * 3 := by
  induction l with
  | nil => rfl
  | cons x l ih => simp only [thc, List.flatMap_cons, List.length_append, List.length_cons] at ih ⊢; rw [ih]; simp [enT]; omega
theorem enT_one (x : Th) : ∀ v ∈ enT x, v.oneCell' = true := by
  intro v hv
  unfold enT at hv
  simp only [List.mem_cons, List.not_mem_nil, or_false] at hv
  rcases hv with rfl | rfl | rfl <;> rfl

theorem th_info : (Tryd.prog.info? 27).map (fun i => (i.zero, i.size, i.bytes)) = some (some (.agg #[.int .u64 0, .int .u64 0, .int .i64 0]), 3, 24) := by kernel_rfl

/-- The slice v, whose things are l, is one's own. -/
def OT (w : World) (base : Nat) (v : Value) (l : List Th) : Prop := w.ownsRow base 27 3 v l.length (thc l)

theorem OT.nil (w : World) (base : Nat) : OT w base (.slice none 0 0) [] := ⟨rfl, .inl ⟨rfl, rfl⟩⟩

theorem OT.keep {w w' : World} {base : Nat} {v : Value} {l : List Th} (h : OT w base v l) (hb : ∀ g, v.ownBlock = some g → w'.heap[g]? = w.heap[g]?) : OT w' base v l := by
  obtain ⟨h1, h2⟩ := h
  refine ⟨h1, ?_⟩
  rcases h2 with h2 | ⟨g, cap, cur, rfl, hg, hc, h3⟩
  · exact .inl h2
  · exact .inr ⟨g, cap, cur, rfl, hg, (hb g rfl).trans hc, h3⟩

theorem OT.lt {w : World} {base : Nat} {v : Value} {l : List Th} (h : OT w base v l) {g : Nat} (hg : v.ownBlock = some g) : g < w.heap.size := by
  obtain ⟨_, h2⟩ := h
  rcases h2 with ⟨rfl, _⟩ | ⟨g', cap, cur, rfl, _, hc, _⟩
  · cases hg
  · have e : g' = g := by simpa [Value.ownBlock] using hg
    subst e
    exact (Array.getElem?_eq_some_iff.1 hc).1

set_option maxRecDepth 100000 in
/-- append(a row of one's own, one thing), as an equation of its run. -/
theorem append_th {w : World} {base : Nat} {v : Value} {l : List Th} (h : OT w base v l) (x : Th) (B : Nat) (c0 : w.cell? ⟨B, 0, none⟩ = some (.int .u64 x.1)) (c1 : w.cell? ⟨B, 1, none⟩ = some (.int .u64 x.2.1)) (c2 : w.cell? ⟨B, 2, none⟩ = some (.int .i64 x.2.2))
    (hl : l.length < 1000000000) (hb : base ≤ w.heap.size) (ty : TypeId) :
    ∃ v' w', (Builtin.append_ #[22, 22] ty #[v, .slice (some ⟨B, 0, none⟩) 1 1]).run Tryd.prog w = .ok v' w' ∧ OT w' base v' (l ++ [x]) ∧ w.grownBy w' v.ownBlock ∧ (∃ a c, v' = .slice (some a) (l.length + 1) c) ∧ (v'.ownBlock = v.ownBlock ∨ v'.ownBlock = some w.heap.size) := by
  obtain ⟨i, hi, hz0, hz1, hz2⟩ := info_parts th_info
  obtain ⟨v', w', hrun, hown, hg, _, hob⟩ := run_append_own_at w base 22 ty 27 i (.agg #[.int .u64 0, .int .u64 0, .int .i64 0]) 3 24 Tryd.underlying22 hi hz0 hz1 hz2 rfl (by omega) v l.length (thc l) h ⟨B, 0, none⟩ 1 1 (enT x) rfl
    (by
      intro j u hj
      unfold enT at hj
      match j, hj with
      | 0, hj => simp at hj; subst hj; exact c0
      | 1, hj => simp at hj; subst hj; exact c1
      | 2, hj => simp at hj; subst hj; exact c2) (enT_one x) (by unfold maxLen; omega) (by omega) hb
  have e : l.length + 1 = (l ++ [x]).length := by simp
  have e2 : thc l ++ enT x = thc (l ++ [x]) := by rw [thc_append]; simp [thc]
  rw [e2] at hown
  have hsh : ∃ a c, v' = .slice (some a) (l.length + 1) c := by
    rcases hown.2 with ⟨_, h0⟩ | ⟨g, cap, cur, rfl, _⟩
    · omega
    · exact ⟨_, _, rfl⟩
  rw [e] at hown
  exact ⟨v', w', hrun, hown, hg, hsh, hob⟩

/-- An append at the operation, inside a region that draws its order. -/
theorem step_append {P : Program} {ops : Array Oper} {o : Oper} {a : Act} {w : World} {K : Act → World → Prop} {Q : Exit → Act → World → Prop} {E : Prop}
    (hg : o.guard = none) (s x : Operand) (t : TypeId) (hop : o.op = Op.call { callee := Callee.builtin Builtin.append, args := #[s, x], argTypes := #[t, t] })
    (v y v' : Value) (w' : World) (hs : a.eval s = v) (hx : a.eval x = y) (hrun : (Builtin.append_ #[t, t] o.type #[v, y]).run P w = .ok v' w')
    (hK : K (a.put o.dst v') w') : if Region.wanted o (yielded ops a.tmps) = true then Oper.wp P o a w K Q else E := by
  have hw : Region.wanted o (yielded ops a.tmps) = true := by simp [Region.wanted, hg]
  rw [if_pos hw]
  unfold Oper.wp
  simp [execOp, hop, resolve, invoke, builtin, hs, hx, hrun, Result.andThen]
  exact hK
end Go.Proofs.YtfclmbneimbmnaaDoor

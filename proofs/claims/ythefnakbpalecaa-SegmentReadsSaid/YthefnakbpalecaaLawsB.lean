/- An append of bytes as one step of a region that draws its order. -/
import Derived.Test.YthefnakbpalecaaLaws
import Derived.Deep.RegionLaw
namespace Go.Proofs.Ythefnakbpalecaa
open Go.RowKit
theorem wp_append_rb {w : World} {o : Oper} {a : Act} {K : Act → World → Prop} {Q : Exit → Act → World → Prop} (s x : Operand)
    (ho : o.op = .call { callee := .builtin .append, args := #[s, x], argTypes := #[28, 28] })
    (base : Nat) (v u : Value) (bs cs : List Nat) (hs : a.eval s = v) (hx : a.eval x = u) (hown : OB w base v bs) (hrb : RB w u cs)
    (hlen : bs.length + cs.length ≤ 140737488351232) (hbase : base ≤ w.heap.size)
    (h : ∀ v' w', OB w' base v' (bs ++ cs) → w.grownBy w' v.ownBlock → K (a.put o.dst v') w') : o.wp Try.prog a w K Q := by
  obtain ⟨i0, hi, hz0, hz1, hz2⟩ := info_parts info5
  rcases hrb.2.2 with ⟨rfl, rfl⟩ | ⟨ad, cap, rfl, hc, hm, hcell⟩
  · have hrun := run_append_owned_none (P := Try.prog) (w := w) base 28 o.type 5 i0 1 Try.underlying28 hi v bs.length (cb bs) hown
    have hk := h v w (by simpa using hown) (World.grownBy.refl _ _)
    unfold Oper.wp
    simp [execOp, ho, resolve, invoke, builtin, hs, hx, hrun, Result.andThen]
    exact hk
  · refine wp_append_own w s x 28 ho base 5 i0 (.int .u8 0) 1 1 Try.underlying28 hi hz0 hz1 hz2 rfl (by decide) v bs.length (cb bs) hs hown ad cs.length cap (cb cs) hx (by simp [cb]) ?_ (cb_one cs) (by unfold maxLen; omega) (by omega) hbase ?_
    · intro j y hj
      have hlt : j < cs.length := by have := (List.getElem?_eq_some_iff.mp hj).1; rwa [cb_length] at this
      rw [cb_get cs j hlt] at hj
      simp only [Option.some.injEq] at hj
      subst hj
      exact hcell j hlt
    · intro v' w' h1 h2 _
      exact h v' w' (by unfold OB; rw [List.length_append, cb_append]; exact h1) h2
theorem step_append_rb {ops : Array Oper} {o : Oper} {a : Act} {w : World} {K : Act → World → Prop} {Q : Exit → Act → World → Prop} {E : Prop} (hgd : o.guard = none) (s x : Operand)
    (ho : o.op = .call { callee := .builtin .append, args := #[s, x], argTypes := #[28, 28] })
    (base : Nat) (v u : Value) (bs cs : List Nat) (hs : a.eval s = v) (hx : a.eval x = u) (hown : OB w base v bs) (hrb : RB w u cs)
    (hlen : bs.length + cs.length ≤ 140737488351232) (hbase : base ≤ w.heap.size)
    (h : ∀ v' w', OB w' base v' (bs ++ cs) → w.grownBy w' v.ownBlock → K (a.put o.dst v') w') :
    if Region.wanted o (yielded ops a.tmps) = true then Oper.wp Try.prog o a w K Q else E := by
  have hw : Region.wanted o (yielded ops a.tmps) = true := by simp [Region.wanted, hgd]
  rw [if_pos hw]
  exact wp_append_rb s x ho base v u bs cs hs hx hown hrb hlen hbase h
end Go.Proofs.Ythefnakbpalecaa

/- The laws of this program for an append of bytes and a make of bytes. -/
import Derived.Test.YthefnakbpalecaaRows
import Derived.Test.YthefnakbpalecaaBytes
import Derived.Laws.AppendOwnNone
namespace Go.Proofs.Ythefnakbpalecaa
open Go.RowKit
theorem info5 : (Try.prog.info? 5).map (fun i => (i.zero, i.size, i.bytes)) = some (some (.int .u8 0), 1, 1) := by kernel_rfl

/-- append(s, x...): s the call's own, x any bytes that can be read. -/
theorem append_rb {w : World} {ops : Array Oper} {rest : List Oper} {o : Oper} {a : Act} {Q : Exit → Act → World → Prop} (hgd : o.guard = none) (s x : Operand)
    (ho : o.op = .call { callee := .builtin .append, args := #[s, x], argTypes := #[28, 28] })
    (base : Nat) (v u : Value) (bs cs : List Nat) (hs : a.eval s = v) (hx : a.eval x = u) (hown : OB w base v bs) (hrb : RB w u cs)
    (hlen : bs.length + cs.length ≤ 140737488351232) (hbase : base ≤ w.heap.size)
    (h : ∀ v' w', OB w' base v' (bs ++ cs) → w.grownBy w' v.ownBlock → wpList Try.prog ops Q rest (a.put o.dst v') w') : wpList Try.prog ops Q (o :: rest) a w := by
  obtain ⟨i0, hi, hz0, hz1, hz2⟩ := info_parts info5
  rcases hrb.2.2 with ⟨rfl, rfl⟩ | ⟨ad, cap, rfl, hc, hm, hcell⟩
  · refine wpList_append_own_none hgd s x 28 ho base 5 i0 1 Try.underlying28 hi v bs.length (cb bs) hs hown hx ?_
    exact h v w (by simpa using hown) (World.grownBy.refl _ _)
  · refine wpList_append_own w hgd s x 28 ho base 5 i0 (.int .u8 0) 1 1 Try.underlying28 hi hz0 hz1 hz2 rfl (by decide) v bs.length (cb bs) hs hown ad cs.length cap (cb cs) hx (by simp [cb]) ?_ (cb_one cs) (by unfold maxLen; omega) (by omega) hbase ?_
    · intro j y hj
      have hlt : j < cs.length := by have := (List.getElem?_eq_some_iff.mp hj).1; rwa [cb_length] at this
      rw [cb_get cs j hlt] at hj
      simp only [Option.some.injEq] at hj
      subst hj
      exact hcell j hlt
    · intro v' w' h1 h2 _
      exact h v' w' (by unfold OB; rw [List.length_append, cb_append]; exact h1) h2

/-- make([]byte, 0, C). -/
theorem make_rb {w : World} {ops : Array Oper} {rest : List Oper} {o : Oper} {a : Act} {Q : Exit → Act → World → Prop} (hgd : o.guard = none) (l c : Operand)
    (ho : o.op = Op.makeSlice 28 l c) (base : Nat) (kl kc : IntKind) (C : Int) (n : Nat) (hl : a.eval l = .int kl 0) (hc : a.eval c = .int kc C) (hC : C = (n : Int)) (hn : n ≤ 140737488355328) (hbase : base ≤ w.heap.size)
    (h : ∀ v' w', OB w' base v' [] → w.grownBy w' none → wpList Try.prog ops Q rest (a.put o.dst v') w') : wpList Try.prog ops Q (o :: rest) a w := by
  obtain ⟨i0, hi, hz0, hz1, hz2⟩ := info_parts info5
  refine wpList_make_own w hgd l c 28 ho base 5 i0 (.int .u8 0) 1 Try.underlying28 hi hz0 hz1 kl kc C n hl hc hC (by rw [hz2]; omega) (by unfold maxLen; omega) hbase ?_
  intro w' h1 h2
  exact h _ w' h1 h2
end Go.Proofs.Ythefnakbpalecaa

/- Bytes: an append, with where its result lies; a copy. -/
import Derived.Test.YthkjjpkipeeimaaLaws
import Derived.Test.YthkjjpkipeeimaaNbX
import Derived.ArgAppend
import Derived.OneCell
import Derived.Laws.Cover3
namespace Go.Proofs.Ythkjjpkipeeimaa
open Go.RowKit
/-- The slice v' lies where v lay, or in memory that the world w didn't have yet. -/
def Moved (v : Value) (w : World) (v' : Value) : Prop := v'.ownBlock = v.ownBlock ∨ ∀ k, v'.ownBlock = some k → w.heap.size ≤ k

/-- append(s, x...), with where the result lies. -/
theorem append_moved {w : World} {ops : Array Oper} {rest : List Oper} {o : Oper} {a : Act} {Q : Exit → Act → World → Prop} (hgd : o.guard = none) (s x : Operand)
    (ho : o.op = .call { callee := .builtin .append, args := #[s, x], argTypes := #[51, 51] })
    (base : Nat) (v u : Value) (bs cs : List Nat) (hs : a.eval s = v) (hx : a.eval x = u) (hown : OB w base v bs) (hrb : RB w u cs)
    (hlen : bs.length + cs.length ≤ 140737488351232) (hbase : base ≤ w.heap.size)
    (h : ∀ v' w', OB w' base v' (bs ++ cs) → w.grownBy w' v.ownBlock → Moved v w v' → wpList Try.prog ops Q rest (a.put o.dst v') w') : wpList Try.prog ops Q (o :: rest) a w := by
  obtain ⟨i0, hi, hz0, hz1, hz2⟩ := info_parts info5
  have hown' := hown
  rcases hrb.2.2 with ⟨rfl, rfl⟩ | ⟨ad, cap, rfl, hc, hm, hcell⟩
  · refine wpList_append_own_none hgd s x 51 ho base 5 i0 1 Try.underlying51 hi v bs.length (cb bs) hs hown hx ?_
    exact h v w (by simpa using hown) (World.grownBy.refl _ _) (.inl rfl)
  · have hn : ∀ j y, (cb cs)[j]? = some y → w.cell? (ad.add j) = some y := by
      intro j y hj
      have hlt : j < cs.length := by have := (List.getElem?_eq_some_iff.mp hj).1; rwa [cb_length] at this
      rw [cb_get cs j hlt] at hj
      simp only [Option.some.injEq] at hj
      subst hj
      exact hcell j hlt
    rcases hown'.2 with ⟨hv, h0⟩ | ⟨g, cp, cur, hv, hg, hh, hcp, hcm, hcs, htk⟩
    · subst hv
      have hb0 : bs = [] := List.length_eq_zero_iff.mp h0
      subst hb0
      refine wpList_append_own w hgd s x 51 ho w.heap.size 5 i0 (.int .u8 0) 1 1 Try.underlying51 hi hz0 hz1 hz2 rfl (by decide) (.slice none 0 0) 0 [] hs (World.ownsRow_nil _ _ _ _) ad cs.length cap (cb cs) hx (by simp [cb]) hn (cb_one cs) (by unfold maxLen; omega) (by omega) (Nat.le_refl _) ?_
      intro v' w' h1 h2 _
      have h1' : OB w' w.heap.size v' cs := by simpa [OB] using h1
      exact h v' w' (by simpa using h1'.mono hbase) h2 (.inr fun k hk => (World.ownsRow.lt h1' k hk).1)
    · subst hv
      by_cases hroom : bs.length + cs.length ≤ cp
      · refine wpList_append_fits w hgd s x 51 ho base 5 i0 1 Try.underlying51 hi hz1 g bs.length cp (cb bs) hs hown ad cs.length cap (cb cs) hx (by simp [cb]) hn (cb_one cs) hroom ?_
        intro w' h1 h2
        exact h _ w' (by unfold OB; rw [List.length_append, cb_append]; exact h1) h2 (.inl rfl)
      · refine wpList_append_grows w hgd s x 51 ho 5 i0 (.int .u8 0) 1 1 Try.underlying51 hi hz0 hz1 hz2 rfl (by decide) (some ⟨g, 0, none⟩) bs.length cp (cb bs) hs (by simp) (by simp [cb])
          (fun b hb j u hj => by simp only [Option.some.injEq] at hb; subst hb; exact World.ownsRow.cells hown (g := g) rfl j u hj) ad cs.length cap (cb cs) hx (by simp [cb]) hn (cb_one cs) (by omega) (by unfold maxLen; omega) (by omega) ?_
        intro v' w' h1 h2
        have h1' : OB w' w.heap.size v' (bs ++ cs) := by unfold OB; rw [List.length_append, cb_append]; exact h1
        exact h v' w' (h1'.mono hbase) ⟨h2.os, h2.tape, h2.output, h2.size, fun k hk _ => h2.block k hk (by simp)⟩ (.inr fun k hk => (World.ownsRow.lt h1' k hk).1)


theorem eql_bnil (a : Option Addr) (l c : Nat) (w : World) : (binOp .eql 51 (.slice a l c) (.slice none 0 0)).run Try.prog w = .ok (.bool a.isNone) w := by
  have h := run_equal_slice_nil (P := Try.prog) w 51 5 a l c Try.underlying51
  simp [binOp, h]
set_option maxRecDepth 100000 in
theorem bclone (v : Value) (bs : List Nat) (w : World) (h : RB w v bs) (hl : bs.length ≤ 100000000) : Calls Try.prog 74 #[v] w fun e w' => ∃ v', e = .returned v' ∧ OB w' w.heap.size v' bs ∧ Below w.heap.size w w' := by
  have H := Lib.hid h
  have HL := Lib.hid hl
  have hnil := eql_bnil
  rcases h.2.2 with ⟨rfl, rfl⟩ | ⟨x, cap, rfl, hc, hm, hcell⟩
  · clear h hl
    go_enter Try.func74, Try.ntmps74
    go_wp2_with fail
    go_ret
    exact ⟨_, rfl, World.ownsRow_nil _ _ _ _, Below.refl _ _⟩
  · clear h hl hc hm hcell
    go_enter Try.func74, Try.ntmps74
    go_wp2_with (at_builtin; refine append_moved rfl (.tmp 5) (.tmp 6) rfl w.heap.size _ _ [] bs rfl rfl (show OB (w.alloc (.cells #[] 5)) w.heap.size (.slice (some ⟨w.heap.size, 0, none⟩) 0 0) [] from World.ownsRow_made w #[] 0 (Nat.le_refl _) (by decide) rfl) (H.out.kept ((Below.refl _ _).alloc (Nat.le_refl _) _)) (by have := HL.out; simp; omega) (by simp) ?_; intro v1 w1 ho1 hg1 hm1; have HO1 := Lib.hid ho1; have HG1 := Lib.hid hg1; clear ho1 hg1 hm1)
    go_ret
    exact ⟨_, rfl, by simpa using HO1.out, (((Below.refl _ _).alloc (Nat.le_refl _) _ : Below w.heap.size w (w.alloc (.cells #[] 5)))).grown HG1.out (by simp) (fun k hk => by have e : w.heap.size = k := Option.some.inj hk; omega)⟩
end Go.Proofs.Ythkjjpkipeeimaa

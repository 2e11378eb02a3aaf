/- What a writer is, and the walks of its two ways to take bytes. -/
import Derived.Test.YtnhaakdjijjinaaQuC
import Derived.ArgAppend
import Derived.OneCell
namespace Go.Proofs.Ytnhaakdjijjinaa
open Go.RowKit

/-- The slice v' lies where v lay, or in memory that the world w didn't have yet. -/
def Moved (v : Value) (w : World) (v' : Value) : Prop := v'.ownBlock = v.ownBlock ∨ ∀ k, v'.ownBlock = some k → w.heap.size ≤ k

/-- append(s, x...), with where the result lies. -/
theorem append_moved {w : World} {ops : Array Oper} {rest : List Oper} {o : Oper} {a : Act} {Q : Exit → Act → World → Prop} (hgd : o.guard = none) (s x : Operand)
    (ho : o.op = .call { callee := .builtin .append, args := #[s, x], argTypes := #[35, 35] })
    (base : Nat) (v u : Value) (bs cs : List Nat) (hs : a.eval s = v) (hx : a.eval x = u) (hown : OB w base v bs) (hrb : RB w u cs)
    (hlen : bs.length + cs.length ≤ 140737488351232) (hbase : base ≤ w.heap.size)
    (h : ∀ v' w', OB w' base v' (bs ++ cs) → w.grownBy w' v.ownBlock → Moved v w v' → wpList Try.prog ops Q rest (a.put o.dst v') w') : wpList Try.prog ops Q (o :: rest) a w := by
  obtain ⟨i0, hi, hz0, hz1, hz2⟩ := info_parts info5
  have hown' := hown
  rcases hrb.2.2 with ⟨rfl, rfl⟩ | ⟨ad, cap, rfl, hc, hm, hcell⟩
  · refine wpList_append_own_none hgd s x 35 ho base 5 i0 1 Try.underlying35 hi v bs.length (cb bs) hs hown hx ?_
    exact h v w (by simpa using hown) (World.grownBy.refl _ _) (.inl rfl)
  · have hn : ∀ j y, (cb cs)[j]? = some y → w.cell? (ad.add j) = some y := by
      intro j y hj
      have hlt : j < cs.length := by have := (List.getElem?_eq_some_iff.mp hj).1; rwa [cb_length] at this
      rw [cb_get cs j hlt] at hj
      simp only [Option.some.injEq] at hj
      subst hj
      exact hcell j hlt
    rcases hown'.2 with ⟨hv, h0⟩ | ⟨g, cp, cur, hv, hg, hh, hcp, hcm, hcs, htk⟩
    · subst hv
      have hb0 : bs = [] := List.length_eq_zero_iff.mp h0
      subst hb0
      refine wpList_append_own w hgd s x 35 ho w.heap.size 5 i0 (.int .u8 0) 1 1 Try.underlying35 hi hz0 hz1 hz2 rfl (by decide) (.slice none 0 0) 0 [] hs (World.ownsRow_nil _ _ _ _) ad cs.length cap (cb cs) hx (by simp [cb]) hn (cb_one cs) (by unfold maxLen; omega) (by omega) (Nat.le_refl _) ?_
      intro v' w' h1 h2 _
      have h1' : OB w' w.heap.size v' cs := by simpa [OB] using h1
      exact h v' w' (by simpa using h1'.mono hbase) h2 (.inr fun k hk => (World.ownsRow.lt h1' k hk).1)
    · subst hv
      by_cases hroom : bs.length + cs.length ≤ cp
      · refine wpList_append_fits w hgd s x 35 ho base 5 i0 1 Try.underlying35 hi hz1 g bs.length cp (cb bs) hs hown ad cs.length cap (cb cs) hx (by simp [cb]) hn (cb_one cs) hroom ?_
        intro w' h1 h2
        exact h _ w' (by unfold OB; rw [List.length_append, cb_append]; exact h1) h2 (.inl rfl)
      · refine wpList_append_grows w hgd s x 35 ho 5 i0 (.int .u8 0) 1 1 Try.underlying35 hi hz0 hz1 hz2 rfl (by decide) (some ⟨g, 0, none⟩) bs.length cp (cb bs) hs (by simp) (by simp [cb])
          (fun b hb j u hj => by simp only [Option.some.injEq] at hb; subst hb; exact World.ownsRow.cells hown (g := g) rfl j u hj) ad cs.length cap (cb cs) hx (by simp [cb]) hn (cb_one cs) (by omega) (by unfold maxLen; omega) (by omega) ?_
        intro v' w' h1 h2
        have h1' : OB w' w.heap.size v' (bs ++ cs) := by unfold OB; rw [List.length_append, cb_append]; exact h1
        exact h v' w' (h1'.mono hbase) ⟨h2.os, h2.tape, h2.output, h2.size, fun k hk _ => h2.block k hk (by simp)⟩ (.inr fun k hk => (World.ownsRow.lt h1' k hk).1)

/-- A writer: block b holds the slice v, which is the call's own and whose elements are bs. -/
def WR (w : World) (b base : Nat) (v : Value) (bs : List Nat) : Prop := w.heap[b]? = some (.cells #[v] 39 (0, 0)) ∧ b < base ∧ base ≤ w.heap.size ∧ OB w base v bs ∧ ∀ c ∈ bs, c < 256
/-- Of what was there, block b and the row of v alone may have turned. -/
structure Turn (b : Nat) (v : Value) (w w' : World) : Prop where
  os : w'.os = w.os
  tape : w'.tape = w.tape
  output : w'.output = w.output
  size : w.heap.size ≤ w'.heap.size
  block : ∀ k, k < w.heap.size → k ≠ b → some k ≠ v.ownBlock → w'.heap[k]? = w.heap[k]?
theorem Turn.refl (b : Nat) (v : Value) (w : World) : Turn b v w w := ⟨rfl, rfl, rfl, Nat.le_refl _, fun _ _ _ _ => rfl⟩
theorem Turn.trans {b : Nat} {v v1 : Value} {w w1 w2 : World} (h : Turn b v w w1) (hm : Moved v w v1) (k : Turn b v1 w1 w2) : Turn b v w w2 := by
  refine ⟨k.os.trans h.os, k.tape.trans h.tape, k.output.trans h.output, Nat.le_trans h.size k.size, fun i hi hb hv => ?_⟩
  have : some i ≠ v1.ownBlock := by
    rcases hm with e | e
    · rw [e]; exact hv
    · intro e2; have := e i e2.symm; omega
  exact (k.block i (Nat.lt_of_lt_of_le hi h.size) hb this).trans (h.block i hi hb hv)
theorem Turn.below {b : Nat} {v : Value} {w w' : World} (h : Below w.heap.size w w') : Turn b v w w' := ⟨h.os, h.tape, h.output, h.size, fun k hk _ _ => h.block k hk⟩
theorem OB.slice {w : World} {base : Nat} {v : Value} {bs : List Nat} (h : OB w base v bs) : ∃ a n c, v = .slice a n c := by
  rcases h.2 with ⟨hv, _⟩ | ⟨g, cap, cur, hv, _⟩
  · exact ⟨_, _, _, hv⟩
  · exact ⟨_, _, _, hv⟩
theorem OB.set {w : World} {base : Nat} {v : Value} {bs : List Nat} (h : OB w base v bs) {p : Addr} (hp : p.block < base) (u : Value) : OB (w.setCell p u) base v bs := ownsRow_setCell_below h hp u
theorem Moved.refl (v : Value) (w : World) : Moved v w v := .inl rfl
theorem Moved.trans {v v1 v2 : Value} {w w1 : World} (h : Moved v w v1) (hs : w.heap.size ≤ w1.heap.size) (k : Moved v1 w1 v2) : Moved v w v2 := by
  rcases k with k | k
  · rcases h with h | h
    · exact .inl (k.trans h)
    · exact .inr fun i hi => h i (k ▸ hi)
  · exact .inr fun i hi => Nat.le_trans hs (k i hi)
theorem Moved.later {v v' : Value} {w w1 : World} (hs : w.heap.size ≤ w1.heap.size) (k : Moved v w1 v') : Moved v w v' := by
  rcases k with k | k
  · exact .inl k
  · exact .inr fun i hi => Nat.le_trans hs (k i hi)
theorem Turn.outside {b B : Nat} {v : Value} {W w w' : World} (h : Turn b v w w') (hW : Below B W w) (hB : B ≤ w.heap.size) (hb : B ≤ b) (hv : ∀ k, v.ownBlock = some k → B ≤ k) : Below B W w' :=
  hW.trans ⟨h.os, h.tape, h.output, h.size, fun k hk => h.block k (by omega) (by omega) (fun e => by have := hv k e.symm; omega)⟩
/-- What a call that writes to a writer leaves. -/
def Wrote (b base : Nat) (v : Value) (w : World) (bs : List Nat) (w' : World) : Prop := ∃ v', WR w' b base v' bs ∧ Turn b v w w' ∧ Moved v w v'
theorem WR.base_le {w : World} {b base : Nat} {v : Value} {bs : List Nat} (h : WR w b base v bs) : ∀ k, v.ownBlock = some k → base ≤ k := fun k hk => (World.ownsRow.lt h.2.2.2.1 k hk).1
theorem WR.kept {w w' : World} {b base : Nat} {v : Value} {bs : List Nat} (h : WR w b base v bs) (hb : Below w.heap.size w w') : WR w' b base v bs :=
  ⟨(hb.block b (by have := h.2.1; have := h.2.2.1; omega)).trans h.1, h.2.1, Nat.le_trans h.2.2.1 hb.size, h.2.2.2.1.kept hb, h.2.2.2.2⟩

theorem WR.grown {w w' : World} {b base : Nat} {v : Value} {bs : List Nat} (h : WR w b base v bs) (hg : w.grownBy w' v.ownBlock) : w'.heap[b]? = some (.cells #[v] 39 (0, 0)) := by
  have h1 := h.2.1
  exact (hg.block b (by have := h.2.2.1; omega) (fun e => by have := h.base_le b e.symm; omega)).trans h.1
theorem WR.put {w w1 : World} {b base : Nat} {v v1 : Value} {bs cs : List Nat} (h : WR w b base v bs) (hcs : ∀ c ∈ cs, c < 256) (ho : OB w1 base v1 (bs ++ cs)) (hg : w.grownBy w1 v.ownBlock) (hm : Moved v w v1) :
    Wrote b base v w (bs ++ cs) (w1.setCell ⟨b, 0, none⟩ v1) := by
  have h1 := h.2.1
  refine ⟨v1, ⟨one_setCell (h.grown hg), h1, ?_, ho.set (by exact h1) _, ?_⟩, ⟨hg.os, hg.tape, hg.output, ?_, ?_⟩, hm⟩
  · have := h.2.2.1; have := hg.size; simp; omega
  · intro c hc
    rw [List.mem_append] at hc
    exact hc.elim (h.2.2.2.2 c) (hcs c)
  · have := hg.size; simp; omega
  · intro k hk hkb hkv
    rw [Below.heap_setCell _ _ _ _ (by exact hkb)]
    exact hg.block k hk hkv

set_option maxHeartbeats 400000 in
theorem keep_any (b base : Nat) (v x : Value) (bs cs : List Nat) (w : World) (hw : WR w b base v bs) (hx : RB w x cs) (hl : bs.length + cs.length ≤ 100000000) :
    Calls Try.prog 89 #[.pointer (some ⟨b, 0, none⟩), x] w fun e w' => e = .returned (.tuple #[]) ∧ Wrote b base v w (bs ++ cs) w' := by
  have hc := cell_of_one hw.1
  have hf := free_of_one hw.1
  have HW := Lib.hid hw
  have HX := Lib.hid hx
  have HL := Lib.hid hl
  clear hw hx hl
  go_enter Try.func89, Try.ntmps89
  go_wp2_with (at_builtin; refine append_moved rfl (.tmp 8) (.tmp 9) rfl base _ _ bs cs rfl rfl HW.out.2.2.2.1 HX.out (by have := HL.out; omega) HW.out.2.2.1 ?_; intro v1 w1 ho1 hg1 hm1; obtain ⟨a1, n1, c1, rfl⟩ := ho1.slice; have hb1 := HW.out.grown hg1; have hc1 := cell_of_one hb1; have hf1 := free_of_one hb1; have HP := Lib.hid (HW.out.put HX.out.1 ho1 hg1 hm1); clear hb1 hg1 hm1 ho1 hc hf)
  go_end0
  exact ⟨rfl, HP.out⟩

theorem drop_any (x : Value) (w : World) : Calls Try.prog 88 #[.pointer none, x] w fun e w' => e = .returned (.tuple #[]) ∧ w = w' := by
  go_enter Try.func88, Try.ntmps88
  go_wp2
  go_end0
  exact ⟨rfl, rfl⟩
theorem target_any (b : Nat) (w : World) : Calls Try.prog 81 #[.pointer (some ⟨b, 0, none⟩)] w fun e w' => e = .returned (.func (.func 89) #[.pointer (some ⟨b, 0, none⟩)] #[]) ∧ w = w' := by
  go_enter Try.func81, Try.ntmps81
  go_wp2
  go_ret
  exact ⟨rfl, rfl⟩
theorem target_nil (w : World) : Calls Try.prog 81 #[.pointer none] w fun e w' => e = .returned (.func (.func 88) #[.pointer none] #[]) ∧ w = w' := by
  go_enter Try.func81, Try.ntmps81
  go_wp2
  go_ret
  exact ⟨rfl, rfl⟩
end Go.Proofs.Ytnhaakdjijjinaa

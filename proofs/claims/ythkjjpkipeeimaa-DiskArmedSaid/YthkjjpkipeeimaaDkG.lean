/- The disk: its files turned, in the world. -/
import Derived.Test.YthkjjpkipeeimaaMmC
import Derived.Test.YthkjjpkipeeimaaDkL
namespace Go.Proofs.Ythkjjpkipeeimaa
open Go.RowKit Go.Maps
section
variable {S : Nat → Prop} {w : World} {B m mt : Nat} {D : Dd} {M : Lit → Option Value} {V : Nm → Value}
theorem DKx.some_iff (h : DKx S w B m mt D M V) (n : Nm) : (M (.string n)).isSome = (getF D.fs n).isSome := by
  rw [h.df.spot n]
  cases getF D.fs n <;> rfl
def Dd.files (D : Dd) (L : Ft) : Dd := ⟨D.room, L, D.st, D.down, D.armed, D.after⟩
theorem DKx.putf (h : DKx S w B m mt D M V) {w2 : World} {n : Nm} {v : Value} {f : Fl} {M' : Lit → Option Value} (hB : w2.heap[B]? = w.heap[B]?) (hmt : w2.heap[mt]? = w.heap[mt]?) (hkeep : ∀ k g, k ≠ n → getF D.fs k ≠ none → (V k).ownBlock = some g → w2.heap[g]? = w.heap[g]?)
    (hvm : VM 9 w2 m (if (M (.string n)).isSome then D.fs.length else D.fs.length + 1) M') (h1 : M' (.string n) = some (fV v f.kept)) (h2 : ∀ x, x ≠ .string n → M' x = M x)
    (hob : OB w2 0 v f.all) (hok : (∀ c ∈ f.all, c < 256) ∧ f.kept ≤ f.all.length ∧ n.length ≤ 100000) (hsep : ∀ k g, k ≠ n → getF D.fs k ≠ none → (V k).ownBlock = some g → v.ownBlock ≠ some g)
    (hvb : ∀ g, v.ownBlock = some g → g ≠ B ∧ g ≠ m ∧ g ≠ mt) {S' : Nat → Prop} (hs : ∀ k, S k → S' k) (hS : ∀ g, v.ownBlock = some g → S' g) (hsum : sumF (putF D.fs n f) ≤ 1048576) (hfew : (putF D.fs n f).length ≤ 128) (hbd : ∀ k, S' k → k < w2.heap.size) :
    DKx S' w2 B m mt (D.files (putF D.fs n f)) M' (fun k => if k = n then v else V k) := by
  have hc : (if (M (.string n)).isSome then D.fs.length else D.fs.length + 1) = (putF D.fs n f).length := by
    rw [h.some_iff n]
    cases e : getF D.fs n with
    | none => rw [len_put_none f e]; rfl
    | some g => rw [len_put_some f h.df.srt e]; rfl
  refine ⟨hB.trans h.cells, h.met.of_block hmt, h.df.put hc hvm h1 h2 hkeep hob hok hsep hs hS hsum hfew, ⟨hs _ h.own.1, hs _ h.own.2.1, hs _ h.own.2.2⟩, h.ne, fun k g hk hb => ?_, h.rm, h.af, hbd⟩
  by_cases e : k = n
  · subst e
    rw [if_pos rfl] at hb
    exact hvb g hb
  · rw [if_neg e] at hb
    have hk' : getF D.fs k ≠ none := by rw [← getF_put_other D.fs n f e]; exact hk
    exact h.fne k g hk' hb
theorem DKx.delf (h : DKx S w B m mt D M V) {w2 : World} {n : Nm} {M' : Lit → Option Value} (hg : w.grownBy w2 (some m)) (hvm : VM 9 w2 m (if (M (.string n)).isSome then D.fs.length - 1 else D.fs.length) M') (h1 : M' (.string n) = none) (h2 : ∀ x, x ≠ .string n → M' x = M x) :
    DKx S w2 B m mt (D.files (delF D.fs n)) M' V := by
  have hc : (if (M (.string n)).isSome then D.fs.length - 1 else D.fs.length) = (delF D.fs n).length := by
    rw [h.some_iff n]
    cases e : getF D.fs n with
    | none => rw [delF_none e]; rfl
    | some g => have := len_del_some h.df.srt e; show D.fs.length - 1 = _; omega
  have hne : ∀ k, getF (delF D.fs n) k ≠ none → getF D.fs k ≠ none := fun k hk e => by
    by_cases ek : k = n
    · subst ek
      exact hk (getF_del_same _ _)
    · exact hk (by rw [getF_del_other _ _ ek]; exact e)
  have hb : ∀ k, k < w.heap.size → k ≠ m → w2.heap[k]? = w.heap[k]? := fun k hk e => hg.block k hk (fun e2 => e (by injection e2))
  exact ⟨(hb B h.lt.1 h.ne.1).trans h.cells, h.met.of_block (hb mt h.lt.2.2 (Ne.symm h.ne.2.2)), h.df.del hc hvm h1 h2 (fun k g _ hk hv => hb g (h.df.lt hk hv) (h.fne k g hk hv).2.1), h.own, h.ne, fun k g hk hv => h.fne k g (hne k hk) hv, h.rm, h.af, fun k hs => Nat.lt_of_lt_of_le (h.bd k hs) hg.size⟩
/-- What a call leaves of the rest. -/
def Fr (S : Nat → Prop) (w : World) (S' : Nat → Prop) (w' : World) : Prop := Only S w w' ∧ (∀ k, S k → S' k) ∧ ∀ k, S' k → S k ∨ w.heap.size ≤ k
theorem Fr.same {S : Nat → Prop} {w w' : World} (h : Only S w w') : Fr S w S w' := ⟨h, fun _ h => h, fun _ h => .inl h⟩
theorem Fr.below {S : Nat → Prop} {w w' : World} (h : Below w.heap.size w w') : Fr S w S w' := Fr.same (Only.below h)
theorem Fr.trans {S S1 S2 : Nat → Prop} {a b c : World} (h : Fr S a S1 b) (k : Fr S1 b S2 c) : Fr S a S2 c := by
  obtain ⟨h1, h2, h3⟩ := h
  obtain ⟨k1, k2, k3⟩ := k
  refine ⟨⟨k1.os.trans h1.os, k1.tape.trans h1.tape, k1.output.trans h1.output, Nat.le_trans h1.size k1.size, fun i hi hs => ?_⟩, fun x hx => k2 x (h2 x hx), fun x hx => ?_⟩
  · refine (k1.block i (Nat.lt_of_lt_of_le hi h1.size) (fun hx => ?_)).trans (h1.block i hi hs)
    rcases h3 i hx with h | h
    · exact hs h
    · omega
  · rcases k3 x hx with h | h
    · exact h3 x h
    · exact .inr (Nat.le_trans h1.size h)
/-- What lies apart from a disk stays so. -/
theorem Fr.out {S S' : Nat → Prop} {w w' : World} (h : Fr S w S' w') {k : Nat} (hk : k < w.heap.size) (hs : ¬ S k) : w'.heap[k]? = w.heap[k]? ∧ ¬ S' k ∧ k < w'.heap.size :=
  ⟨h.1.block k hk hs, fun e => (h.2.2 k e).elim hs (fun h => by omega), Nat.lt_of_lt_of_le hk h.1.size⟩
end
end Go.Proofs.Ythkjjpkipeeimaa

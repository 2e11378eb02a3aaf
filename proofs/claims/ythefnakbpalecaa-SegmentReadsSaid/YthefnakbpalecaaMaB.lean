import Derived.Test.YthefnakbpalecaaRows
import Derived.Maps.Own
import Derived.Maps.OwnSet
import Derived.Maps.Views
import Derived.WalkKit
namespace Go.Proofs.Ythefnakbpalecaa
open Go.RowKit
/- Session: maps whose entries are values as they stand. -/
open Go.RowKit Go.Maps Go.ChangeMaps
def vR (v : Value) : Option (DataW Value × List MemPlace) := some (.held v, [])
theorem vR_inv {v u : Value} {ps : List MemPlace} (h : vR v = some (.held u, ps)) : v = u := by
  unfold vR at h
  simp only [Option.some.injEq, Prod.mk.injEq, DataW.held.injEq] at h
  exact h.1
/-- Block b is a map of c entries; at the key l stands M l. -/
def VM (k : TypeId) (w : World) (b c : Nat) (M : Lit → Option Value) : Prop :=
  ∃ D : DataW Value, w.ownsMap Try.prog k vR b c D ∧ Maps.size D = c ∧ ∀ l, match M l with
    | some v => Maps.has D l = true ∧ ∀ z, D.atKey l z = .held v
    | none => Maps.has D l = false
theorem VM.lt {k : TypeId} {w : World} {b c : Nat} {M : Lit → Option Value} (h : VM k w b c M) : b < w.heap.size := by
  obtain ⟨D, h, _⟩ := h
  exact h.lt
theorem VM.block {k : TypeId} {w w' : World} {b c : Nat} {M : Lit → Option Value} (h : VM k w b c M) (hb : w'.heap[b]? = w.heap[b]?) : VM k w' b c M := by
  obtain ⟨D, ⟨es, clock, h1, h2⟩, h3⟩ := h
  exact ⟨D, ⟨es, clock, hb.trans h1, h2⟩, h3⟩
theorem VM.isMap {k : TypeId} {w : World} {b c : Nat} {M : Lit → Option Value} (h : VM k w b c M) : ∃ es clock, w.heap[b]? = some (.map es clock) := by
  obtain ⟨D, ⟨es, clock, h1, h2⟩, h3⟩ := h
  exact ⟨es, clock, h1⟩
theorem VM.kept {k : TypeId} {w w' : World} {b c : Nat} {M : Lit → Option Value} (h : VM k w b c M) (hb : Below w.heap.size w w') : VM k w' b c M := h.block (hb.block b h.lt)
theorem VM.made (k : TypeId) (w : World) : VM k (w.alloc (.map #[] 0)) w.heap.size 0 (fun _ => none) :=
  ⟨.map [], World.ownsMap_made w Try.prog k vR, rfl, fun l => Maps.has_false_of_atKey (fun z => by simp [DataW.atKey])⟩
theorem VM.tight {k : TypeId} {w : World} {b n : Nat} {D : DataW Value} (h : w.ownsMap Try.prog k vR b n D) : w.ownsMap Try.prog k vR b (Maps.size D) D := by
  obtain ⟨es, clock, h1, h2, h3, rfl⟩ := h
  refine ⟨es, clock, h1, h2, ?_, rfl⟩
  simp [Maps.size, length_sorted]
/-- m[key]. -/
theorem VM.look {k t e : TypeId} {w : World} {b c : Nat} {M : Lit → Option Value} (h : VM k w b c M) (K : Keyed Try.prog k) (ht : Try.prog.underlying t = some (.map k e)) {z : Value} (hz : (zeroValue e).run Try.prog w = .ok z w) {key : Value} {l : Lit} (hk : keyOf Try.prog k key = some l) :
    (Instr.lookup t (.map (some b)) key false).run Try.prog w = .ok ((M l).getD z) w := by
  obtain ⟨D, hO, _, hM⟩ := h
  obtain ⟨v, ps, hrun, hv⟩ := hO.lookup K ht hz (zd := .held z) (zp := []) rfl hk
  have := hM l
  cases e : M l with
  | none =>
    rw [e] at this
    simp only at this
    rw [Maps.atKey_of_not_has this] at hv
    rw [vR_inv hv] at hrun
    exact hrun
  | some p =>
    rw [e] at this
    simp only at this
    rw [this.2] at hv
    rw [vR_inv hv] at hrun
    exact hrun
/-- v, ok := m[key]. -/
theorem VM.look_ok {k t e : TypeId} {w : World} {b c : Nat} {M : Lit → Option Value} (h : VM k w b c M) (K : Keyed Try.prog k) (ht : Try.prog.underlying t = some (.map k e)) {z : Value} (hz : (zeroValue e).run Try.prog w = .ok z w) {key : Value} {l : Lit} (hk : keyOf Try.prog k key = some l) :
    (Instr.lookup t (.map (some b)) key true).run Try.prog w = .ok (.tuple #[(M l).getD z, .bool (M l).isSome]) w := by
  obtain ⟨D, hO, _, hM⟩ := h
  obtain ⟨v, ps, hrun, hv⟩ := hO.look_ok K ht hz (zd := .held z) (zp := []) rfl hk
  have := hM l
  cases e : M l with
  | none =>
    rw [e] at this
    simp only at this
    rw [Maps.atKey_of_not_has this] at hv
    rw [vR_inv hv, this] at hrun
    exact hrun
  | some p =>
    rw [e] at this
    simp only at this
    rw [this.2] at hv
    rw [vR_inv hv, this.1] at hrun
    exact hrun
theorem VM.len {k t e : TypeId} {w : World} {b c : Nat} {M : Lit → Option Value} (h : VM k w b c M) (ht : Try.prog.underlying t = some (.map k e)) (ty : TypeId) : (Builtin.len_ #[t] ty #[.map (some b)]).run Try.prog w = .ok (.int .i64 c) w := by
  obtain ⟨D, hO, hc, _⟩ := h
  rw [← hc]
  exact hO.len ht ty
theorem upV (M : Lit → Option Value) (l : Lit) (v : Option Value) : ∃ M' : Lit → Option Value, M' l = v ∧ ∀ x, x ≠ l → M' x = M x := by
  classical exact ⟨fun x => if x = l then v else M x, by simp, fun x hx => by simp [hx]⟩
/-- m[key] = v. -/
theorem VM.put {k t e : TypeId} {w : World} {b c : Nat} {M : Lit → Option Value} (h : VM k w b c M) (K : Keyed Try.prog k) (ht : Try.prog.underlying t = some (.map k e)) (hc : c < maxLen) {key : Value} {l : Lit} (hk : keyOf Try.prog k key = some l) (v : Value) {M' : Lit → Option Value} (h1 : M' l = some v) (h2 : ∀ x, x ≠ l → M' x = M x) :
    ∃ w', (Instr.mapUpdate t (.map (some b)) key v).run Try.prog w = .ok () w' ∧ VM k w' b (if (M l).isSome then c else c + 1) M' ∧ w.grownBy w' (some b) ∧ w'.heap.size = w.heap.size := by
  obtain ⟨D, hO, hs, hM⟩ := h
  obtain ⟨w', hrun, hO', ht'⟩ := hO.store K ht hc hk (rfl : vR v = some (.held v, []))
  obtain ⟨w2, hrun2, -, hg⟩ := hO.update K ht hc hk (rfl : vR v = some (.held v, []))
  have e2 : w' = w2 := by
    rw [hrun] at hrun2
    injection hrun2
  subst e2
  have hsz : w'.heap.size = w.heap.size := by
    obtain ⟨_, _, _, _, _, h⟩ := ht'
    rw [h]
    simp [setBlock]
  refine ⟨w', hrun, ⟨D.put l (.held v), ?_, ?_, ?_⟩, hg, hsz⟩
  · have := VM.tight hO'
    rw [Maps.size_put (hO.tidy K)] at this
    have hi := hM l
    cases e : M l with
    | none =>
      rw [e] at hi; simp only at hi
      rw [hi] at this; simp only [Option.isSome_none, Bool.false_eq_true, if_false] at this ⊢
      rw [hs] at this; exact this
    | some p =>
      rw [e] at hi; simp only at hi
      rw [hi.1] at this; simp only [Option.isSome_some, if_true] at this ⊢
      rw [hs] at this; exact this
  · rw [Maps.size_put (hO.tidy K)]
    have hi := hM l
    cases e : M l with
    | none => rw [e] at hi; simp only at hi; rw [hi, hs]; simp
    | some p => rw [e] at hi; simp only at hi; rw [hi.1, hs]; simp
  · intro x
    by_cases hx : x = l
    · subst hx
      rw [h1]
      exact ⟨Maps.has_put_same hO.isMap (K.key hk) _, fun z => Maps.atKey_put_same hO.isMap (K.key hk) _ _⟩
    · rw [h2 x hx]
      have hi := hM x
      rw [Maps.has_put_other hx]
      cases e : M x with
      | none => rw [e] at hi; exact hi
      | some p => rw [e] at hi; exact ⟨hi.1, fun z => by rw [Maps.atKey_put_other hx]; exact hi.2 z⟩
theorem keyedU : Maps.Keyed Try.prog 22 := int_keyed Try.underlying22
theorem u64_wf {id : Int} (h : 0 ≤ id ∧ id < 18446744073709551616) : (Lit.int .u64 id).wf = true := by
  have h1 : IntKind.u64.min = 0 := by decide
  have h2 : IntKind.u64.max = 18446744073709551615 := by decide
  simp only [Lit.wf, h1, h2, Bool.and_eq_true, decide_eq_true_eq]
  omega
theorem keyU {id : Int} (h : 0 ≤ id ∧ id < 18446744073709551616) : keyOf Try.prog 22 (.int .u64 id) = some (.int .u64 id) := by
  exact keyOf_int_mk Try.underlying22 (u64_wf h)
/- Maps of values: an entry is taken out. -/
open Go.RowKit Go.Maps Go.ChangeMaps
/-- delete(m, key). -/
theorem VM.del {k t e : TypeId} {w : World} {b c : Nat} {M : Lit → Option Value} (h : VM k w b c M) (K : Keyed Try.prog k) (ht : Try.prog.underlying t = some (.map k e)) {key : Value} {l : Lit} (hk : keyOf Try.prog k key = some l) (ty : TypeId) {M' : Lit → Option Value} (h1 : M' l = none) (h2 : ∀ x, x ≠ l → M' x = M x) :
    ∃ w', (Builtin.delete_ #[t, k] ty #[.map (some b), key]).run Try.prog w = .ok (.tuple #[]) w' ∧ VM k w' b (if (M l).isSome then c - 1 else c) M' ∧ w.grownBy w' (some b) := by
  obtain ⟨D, hO, hs, hM⟩ := h
  obtain ⟨w', hrun, hO', ht'⟩ := hO.drop K ht hk ty
  have hd := Maps.size_del (k := l) (hO.tidy K)
  have hcs : Maps.size (D.del l) = if (M l).isSome then c - 1 else c := by
    have hi := hM l
    cases e : M l with
    | none => rw [e] at hi; simp only at hi; rw [hi] at hd; simp at hd ⊢; omega
    | some p => rw [e] at hi; simp only at hi; rw [hi.1] at hd; simp at hd ⊢; omega
  have hg : w.grownBy w' (some b) := by
    obtain ⟨es, cl, es', cl', hb, rfl⟩ := ht'
    exact ⟨rfl, rfl, rfl, by simp [setBlock], fun i _ hi => heap_setBlock_other hb _ (fun e => hi (by rw [e]))⟩
  refine ⟨w', hrun, ⟨D.del l, ?_, hcs, ?_⟩, hg⟩
  · rw [← hcs]; exact VM.tight hO'
  · intro x
    by_cases hx : x = l
    · subst hx; rw [h1]; exact Maps.has_del_same
    · rw [h2 x hx]
      have hi := hM x
      rw [Maps.has_del_other hx]
      cases e : M x with
      | none => rw [e] at hi; exact hi
      | some p => rw [e] at hi; exact ⟨hi.1, fun z => by rw [Maps.atKey_del_other hx]; exact hi.2 z⟩
end Go.Proofs.Ythefnakbpalecaa

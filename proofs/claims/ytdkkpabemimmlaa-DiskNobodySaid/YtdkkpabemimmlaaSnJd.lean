/- Maps of values: an entry is taken out. -/
import Derived.Test.YtdkkpabemimmlaaSnA
namespace Go.Proofs.Ytdkkpabemimmlaa
open Go.RowKit Go.Maps Go.ChangeMaps
/-- delete(m, key). -/
theorem VM.del {k t e : TypeId} {w : World} {b c : Nat} {M : Lit → Option Value} (h : VM k w b c M) (K : Keyed Try.prog k) (ht : Try.prog.underlying t = some (.map k e)) {key : Value} {l : Lit} (hk : keyOf Try.prog k key = some l) (ty : TypeId) {M' : Lit → Option Value} (h1 : M' l = none) (h2 : ∀ x, x ≠ l → M' x = M x) :
    ∃ w', (Builtin.delete_ #[t, k] ty #[.map (some b), key]).run Try.prog w = .ok (.tuple #[]) w' ∧ VM k w' b (if (M l).isSome then c - 1 else c) M' ∧ w.grownBy w' (some b) := by
  obtain ⟨D, hO, hs, hM⟩ := h
  obtain ⟨w', hrun, hO', ht'⟩ := hO.drop K ht hk ty
  have hd := Maps.size_del (k := l) (hO.tidy K)
  have hcs : Maps.size (D.del l) = if (M l).isSome then c - 1 else c := by
    have hi := hM l
    cases e : M l with
    | none => rw [e] at hi; simp only at hi; rw [hi] at hd; simp at hd ⊢; omega
    | some p => rw [e] at hi; simp only at hi; rw [hi.1] at hd; simp at hd ⊢; omega
  have hg : w.grownBy w' (some b) := by
    obtain ⟨es, cl, es', cl', hb, rfl⟩ := ht'
    exact ⟨rfl, rfl, rfl, by simp [setBlock], fun i _ hi => heap_setBlock_other hb _ (fun e => hi (by rw [e]))⟩
  refine ⟨w', hrun, ⟨D.del l, ?_, hcs, ?_⟩, hg⟩
  · rw [← hcs]; exact VM.tight hO'
  · intro x
    by_cases hx : x = l
    · subst hx; rw [h1]; exact Maps.has_del_same
    · rw [h2 x hx]
      have hi := hM x
      rw [Maps.has_del_other hx]
      cases e : M x with
      | none => rw [e] at hi; exact hi
      | some p => rw [e] at hi; exact ⟨hi.1, fun z => by rw [Maps.atKey_del_other hx]; exact hi.2 z⟩
end Go.Proofs.Ytdkkpabemimmlaa

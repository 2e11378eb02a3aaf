/- The disk: the chapter's example. -/
import Derived.Test.YthefnakbpalecaaDkY
import Derived.Lib.SlBytesConst
namespace Go.Proofs.Ythefnakbpalecaa
open Go.RowKit Go.Maps
theorem rb_new (w : World) (bs : List Nat) (hb : ∀ c ∈ bs, c < 256) (hl : bs.length ≤ 1000) : RB (w.alloc (.cells (cb bs).toArray 5 ((cb bs).toArray.size, (cb bs).toArray.size + 1))) (.slice (some ⟨w.heap.size, 0, none⟩) bs.length bs.length) bs := by
  refine ⟨hb, by omega, .inr ⟨_, _, rfl, Nat.le_refl _, by unfold maxLen; omega, fun i hi => ?_⟩⟩
  rw [add_at, Nat.zero_add, World.cell?_alloc_mark]
  have := cb_get bs i hi
  simpa using this
theorem fr_below {B0 : Nat} {w0 w w' : World} {S S' : Nat → Prop} (hb : Below B0 w0 w) (hB : B0 ≤ w.heap.size) (hs : ∀ k, S k → B0 ≤ k) (hf : Fr S w S' w') : Below B0 w0 w' ∧ ∀ k, S' k → B0 ≤ k :=
  ⟨hb.trans (hf.1.toBelow hB hs), fun k hk => (hf.2.2 k hk).elim (hs k) (fun h => Nat.le_trans hB h)⟩
theorem nmA : validN [97] = true := by decide
end Go.Proofs.Ythefnakbpalecaa

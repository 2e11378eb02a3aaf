/- The outbox: the law's own numbers by ID, in maps. -/
import Derived.Test.YtnfpheccmjdpoaaObR
import Derived.Test.YtnfpheccmjdpoaaSnA
namespace Go.Proofs.Ytnfpheccmjdpoaa
open Go.RowKit
/-- Block b is a map of at most c entries that tells f of each ID, 0 where it has none. -/
def MI (w : World) (b c : Nat) (f : Int → Int) : Prop := ∃ n M, n ≤ c ∧ VM 22 w b n M ∧ ∀ k, 0 ≤ k ∧ k < 18446744073709551616 → (M (.int .u64 k)).getD (.int .i64 0) = .int .i64 (f k)
theorem MI.lt {w : World} {b c : Nat} {f : Int → Int} (h : MI w b c f) : b < w.heap.size := by
  obtain ⟨n, M, -, hv, -⟩ := h
  exact hv.lt
theorem MI.block {w w' : World} {b c : Nat} {f : Int → Int} (h : MI w b c f) (hb : w'.heap[b]? = w.heap[b]?) : MI w' b c f := by
  obtain ⟨n, M, h1, hv, h2⟩ := h
  exact ⟨n, M, h1, hv.block hb, h2⟩
theorem MI.below {w w' : World} {b c : Nat} {f : Int → Int} (h : MI w b c f) (hb : Below w.heap.size w w') : MI w' b c f := h.block (hb.block b h.lt)
theorem MI.more {w : World} {b c c' : Nat} {f : Int → Int} (h : MI w b c f) (hc : c ≤ c') : MI w b c' f := by
  obtain ⟨n, M, h1, h2⟩ := h
  exact ⟨n, M, by omega, h2⟩
theorem MI.made (w : World) : MI (w.alloc (.map #[] 0)) w.heap.size 0 (fun _ => 0) := ⟨0, _, Nat.le_refl _, VM.made _ w, fun _ _ => rfl⟩
theorem mi_map : Try.prog.underlying 50 = some (.map 22 3) := by kernel_rfl
theorem mi_zero (w : World) : (zeroValue 3).run Try.prog w = .ok (.int .i64 0) w := by go_simp
theorem MI.look {w : World} {b c : Nat} {f : Int → Int} (h : MI w b c f) (k : Int) (hk : 0 ≤ k ∧ k < 18446744073709551616) : (Instr.lookup 50 (.map (some b)) (.int .u64 k) false).run Try.prog w = .ok (.int .i64 (f k)) w := by
  obtain ⟨n, M, h1, hv, h2⟩ := h
  rw [hv.look keyedU mi_map (mi_zero w) (keyU hk), h2 k hk]
theorem MI.put {w : World} {b c : Nat} {f : Int → Int} (h : MI w b c f) (hc : c < 1000000) (k v : Int) (hk : 0 ≤ k ∧ k < 18446744073709551616) : ∃ w', (Instr.mapUpdate 50 (.map (some b)) (.int .u64 k) (.int .i64 v)).run Try.prog w = .ok () w' ∧ MI w' b (c + 1) (up f k v) ∧ OnlyB b w w' := by
  obtain ⟨n, M, h1, hv, h2⟩ := h
  obtain ⟨M', hM1, hM2⟩ := upV M (.int .u64 k) (some (.int .i64 v))
  obtain ⟨w', hrun, hv', hg, hs⟩ := hv.put keyedU mi_map (by unfold maxLen; omega) (keyU hk) (.int .i64 v) hM1 hM2
  refine ⟨w', hrun, ⟨_, M', ?_, hv', fun j hj => ?_⟩, ⟨hg.os, hg.tape, hg.output, hg.size, fun j hj hb => hg.block j hj (fun e => hb (by simp at e; show j = b; omega))⟩⟩
  · split <;> omega
  · by_cases e : j = k
    · subst e
      rw [hM1, up_same]
      rfl
    · rw [hM2 _ (fun e2 => e (by simpa using e2)), up_ne _ _ _ e]
      exact h2 j hj
end Go.Proofs.Ytnfpheccmjdpoaa

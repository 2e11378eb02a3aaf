/- The cells of LazyChain, laid one by one. -/
import Derived.Test.YtfakgemifbgafaaLzM
namespace Go.Proofs.Ytfakgemifbgafaa
open Go.RowKit

theorem ints_info : (Try.prog.info? 3).map (fun i => (i.zero, i.size, i.bytes)) = some (some (.int .i64 0), 1, 8) := by kernel_rfl

/-- n numbers, k cells laid over them, nobody asked. -/
structure Lc (N lb lo n c : Nat) (z : Nat → Int) (k : Nat) (w : World) : Prop where
  size : w.heap.size = N + 5 + 2 * k
  l : w.cell? ⟨N, 0, none⟩ = some (.slice (some ⟨lb, lo, none⟩) n c)
  calls : w.cell? ⟨N + 2, 0, none⟩ = some (.slice (some ⟨N + 1, 0, none⟩) n n)
  cells : w.cell? ⟨N + 4, 0, none⟩ = some (.slice (some ⟨N + 3, 0, none⟩) n n)
  lz : ∀ i, i < n → w.cell? ⟨lb, lo + i, none⟩ = some (.int .i64 (z i))
  cnt : ∀ i, i < n → w.cell? ⟨N + 1, i, none⟩ = some (.int .i64 0)
  free : ∀ a : Addr, N ≤ a.block → w.frozen? a = false
  hole : ∀ i, i < n → ∃ x, w.cell? ⟨N + 3, i, none⟩ = some x
  slot : ∀ i, i < k → w.cell? ⟨N + 3, i, none⟩ = some (.pointer (some ⟨N + 6 + 2 * i, 0, none⟩))
  cel : ∀ i, i < k → Cel (N + 6 + 2 * i) (link (N + 2) N (N + 4) (fun j => N + 5 + 2 * j) i) 0 0 0 0 w
  ix : ∀ i, i < k → w.cell? ⟨N + 5 + 2 * i, 0, none⟩ = some (.int .i64 i)

/-- The world with one cell more. -/
def longer (N k : Nat) (w : World) : World :=
  (((w.alloc (.cells #[.int .i64 k] 3)).alloc (.cells #[link (N + 2) N (N + 4) (fun j => N + 5 + 2 * j) k, .int .u32 0, .int .i32 0, .int .u32 0, .int .i64 0, .int .u32 0, .int .i64 0] 100)).setCell
    ⟨N + 3, k, none⟩ (.pointer (some ⟨N + 6 + 2 * k, 0, none⟩))).drew
theorem longer_other (N k b o : Nat) (w : World) (hne : ¬ (b = N + 3 ∧ o = k)) : (longer N k w).cell? ⟨b, o, none⟩ =
    ((w.alloc (.cells #[.int .i64 k] 3)).alloc (.cells #[link (N + 2) N (N + 4) (fun j => N + 5 + 2 * j) k, .int .u32 0, .int .i32 0, .int .u32 0, .int .i64 0, .int .u32 0, .int .i64 0] 100)).cell? ⟨b, o, none⟩ := by
  unfold longer
  rw [World.cell?_drew]
  exact World.cell?_setCell_other _ ⟨N + 3, k, none⟩ ⟨b, o, none⟩ _ (fun e => hne (by injection e with e1 e2 e3; exact ⟨e1.symm, e2.symm⟩))
theorem longer_old (N k b o : Nat) (w : World) (hb : b < w.heap.size) (hne : ¬ (b = N + 3 ∧ o = k)) : (longer N k w).cell? ⟨b, o, none⟩ = w.cell? ⟨b, o, none⟩ := by
  rw [longer_other _ _ _ _ _ hne, World.cell?_alloc_past _ _ _ (by simp <;> omega), World.cell?_alloc_past _ _ _ hb]
theorem longer_only (N k : Nat) (w : World) : Only (fun j => j = N + 3) w (longer N k w) := by
  have h2 : Only (fun j => j = N + 3) w ((w.alloc (.cells #[.int .i64 k] 3)).alloc (.cells #[link (N + 2) N (N + 4) (fun j => N + 5 + 2 * j) k, .int .u32 0, .int .i32 0, .int .u32 0, .int .i64 0, .int .u32 0, .int .i64 0] 100)) :=
    Only.below (((Below.refl _ _).alloc (Nat.le_refl _) _).alloc (by simp) _)
  exact (h2.setCell ⟨N + 3, k, none⟩ _ rfl).drew

theorem Lc.next {N lb lo n c k : Nat} {z : Nat → Int} {w : World} (T : Lc N lb lo n c z k w) (hlb : lb < N) (hk : k < n) : Lc N lb lo n c z (k + 1) (longer N k w) := by
  have hs := T.size
  have old : ∀ b o, b < N + 5 + 2 * k → ¬ (b = N + 3 ∧ o = k) → (longer N k w).cell? ⟨b, o, none⟩ = w.cell? ⟨b, o, none⟩ := fun b o hb hne => longer_old N k b o w (by omega) hne
  have fz : ∀ a : Addr, N ≤ a.block → (longer N k w).frozen? a = false := by
    intro a ha
    unfold longer
    simp [frozen?_alloc_cells, T.free a ha]
  have new : (longer N k w).cell? ⟨N + 3, k, none⟩ = some (.pointer (some ⟨N + 6 + 2 * k, 0, none⟩)) := by
    obtain ⟨x, hx⟩ := T.hole k hk
    unfold longer
    rw [World.cell?_drew]
    refine World.cell?_setCell_same _ _ _ (u := x) ?_
    rw [World.cell?_alloc_past _ _ _ (by simp <;> omega), World.cell?_alloc_past _ _ _ (by omega)]
    exact hx
  have vi : (longer N k w).cell? ⟨N + 5 + 2 * k, 0, none⟩ = some (.int .i64 k) := by
    rw [longer_other _ _ _ _ _ (by omega), World.cell?_alloc_past _ _ _ (by simp <;> omega), World.cell?_alloc_at _ _ _ _ hs.symm]
    rfl
  have cl : ∀ j, (longer N k w).cell? ⟨N + 6 + 2 * k, j, none⟩ = (#[link (N + 2) N (N + 4) (fun j => N + 5 + 2 * j) k, .int .u32 0, .int .i32 0, .int .u32 0, .int .i64 0, .int .u32 0, .int .i64 0] : Array Value)[j]? := by
    intro j
    rw [longer_other _ _ _ _ _ (by omega), World.cell?_alloc_at _ _ _ _ (by simp <;> omega)]
  refine ⟨?_, (old _ _ (by omega) (by omega)).trans T.l, (old _ _ (by omega) (by omega)).trans T.calls, (old _ _ (by omega) (by omega)).trans T.cells, fun i hi => (old _ _ (by omega) (by omega)).trans (T.lz i hi),
    fun i hi => (old _ _ (by omega) (by omega)).trans (T.cnt i hi), fz, ?_, ?_, ?_, ?_⟩
  · unfold longer
    simp [hs]
    omega
  · intro i hi
    by_cases h : i = k
    · subst h; exact ⟨_, new⟩
    · obtain ⟨x, hx⟩ := T.hole i hi
      exact ⟨x, (old _ _ (by omega) (by omega)).trans hx⟩
  · intro i hi
    by_cases h : i = k
    · subst h; exact new
    · exact (old _ _ (by omega) (by omega)).trans (T.slot i (by omega))
  · intro i hi
    by_cases h : i = k
    · subst h
      exact ⟨(cl 0).trans rfl, (cl 1).trans rfl, (cl 2).trans rfl, (cl 4).trans rfl, (cl 5).trans rfl, (cl 6).trans rfl, fun j => fz _ (by simp; omega)⟩
    · exact (T.cel i (by omega)).of_block ((longer_only N k w).block _ (by omega) (by omega))
  · intro i hi
    by_cases h : i = k
    · subst h; exact vi
    · exact (old _ _ (by omega) (by omega)).trans (T.ix i (by omega))

/-- All cells laid: a chain, its places apart. -/
theorem Lc.apart (N lb : Nat) (hlb : lb < N) : Apart (N + 2) N (N + 4) lb (N + 1) (N + 3) (fun j => N + 5 + 2 * j) (fun j => N + 6 + 2 * j) :=
  ⟨by omega, by omega, fun i => by omega, by omega, by omega, by omega, fun i => ⟨by omega, by omega, by omega, by omega, by omega, by omega, fun j => by omega⟩, fun i j h => by omega⟩
theorem Lc.chn {N lb lo n c : Nat} {z : Nat → Int} {w : World} (T : Lc N lb lo n c z n w) : Chn (N + 2) N (N + 4) lb lo (N + 1) (N + 3) n c n n z (fun j => N + 5 + 2 * j) (fun j => N + 6 + 2 * j) w :=
  ⟨T.l, T.calls, T.cells, T.lz, T.slot, T.ix, fun i => T.free _ (by simp)⟩
end Go.Proofs.Ytfakgemifbgafaa

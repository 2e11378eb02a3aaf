/- How a row of items reads. -/
import Derived.Test.YtkeloeppploiaaaQuX
import Derived.Test.YtkeloeppploiaaaQuR
namespace Go.Proofs.Ytkeloeppploiaaa
open Go.RowKit
instance : Inhabited It := ⟨⟨0, 0, 0, false, ByteArray.empty⟩⟩
theorem items_in {H : Type} {enc : TypeId × Value → H} {w : World} {base : Nat} {sp : Nat → Bool} {held : Bool} {fuel : Nat} {a : Option Addr} {n cap : Nat} {x : DataW H × List MemPlace}
    (h : DataW.trod enc Try.prog w base sp held fuel 22 (Value.slice a n cap).cells.toList = some x) : ∃ xs, Items w a n cap xs := by
  rcases Deep.open_slice Try.underlying22 h with ⟨hcs, _⟩ | ⟨x, l, c, m, nn, D, Pl, hcs, _, hl, hm, hmm, _, hi⟩
  · simp [Value.cells] at hcs
    obtain ⟨rfl, rfl, rfl⟩ := hcs
    exact ⟨[], rfl, by simp, by simp, fun i x hx => by simp at hx⟩
  · simp [Value.cells] at hcs
    obtain ⟨rfl, rfl, rfl⟩ := hcs
    have hlm : n ≤ m := by rw [hmm]; split <;> omega
    have hex : 0 < n → x = ⟨x.block, x.off, none⟩ := by
      intro h0
      obtain ⟨cs', hc, ht⟩ := hi 0 (by omega)
      obtain ⟨kind, nm, int, fl, s, rfl, _⟩ := item_cells ht
      rw [cells32] at hc
      obtain ⟨_, hcl, hat⟩ := World.cells?_some hc
      have e0 := (cell_spot ((hat 0 (by omega)).trans (List.getElem?_cons_zero))).1
      rw [Deep.add_add] at e0
      cases x; simp [Addr.add] at e0; simp [e0]
    have key : ∀ i, i < n → ∃ y : It, y.fits ∧ ∃ b off, some x = some ⟨b, off, none⟩ ∧ ∀ j c, y.cells[j]? = some c → w.cell? ⟨b, off + i * 5 + j, none⟩ = some c := by
      intro i hil
      obtain ⟨cs', hc, ht⟩ := hi i (by omega)
      obtain ⟨kind, nm, int, fl, s, rfl, wk, wn, wi, ws⟩ := item_cells ht
      rw [cells32] at hc
      obtain ⟨_, hcl, hat⟩ := World.cells?_some hc
      have bn := bounds_u64 wn
      have bi := bounds_i64 wi
      have e : ((nm.toNat : Nat) : Int) = nm := Int.toNat_of_nonneg bn.1
      have ex := hex (by omega)
      refine ⟨⟨kind, nm.toNat, int, fl, s⟩, ⟨by show nm.toNat < 18446744073709551616; omega, bi.1, bi.2, ws⟩, x.block, x.off, by rw [← ex], fun j c hj => ?_⟩
      have hjl : j < 5 := by have := (List.getElem?_eq_some_iff.1 hj).1; simpa [It.cells] using this
      have h1 := hat j (by omega)
      rw [Deep.add_add, ex, add_at, ← Nat.add_assoc] at h1
      rw [h1]
      unfold It.cells at hj
      simp only [e] at hj
      exact hj
    obtain ⟨f, hf⟩ := Deep.choose_lt key
    refine ⟨(List.range n).map f, by simp, by unfold maxLen at *; omega, fun y hy => ?_, fun i y hy => ?_⟩
    · obtain ⟨i, hi, rfl⟩ := List.mem_map.1 hy
      exact (hf i (List.mem_range.1 hi)).1
    · have hin : i < n := by have := (List.getElem?_eq_some_iff.1 hy).1; simpa using this
      rw [List.getElem?_map, List.getElem?_range hin] at hy
      simp only [Option.map_some, Option.some.injEq] at hy
      subst hy
      exact (hf i hin).2
end Go.Proofs.Ytkeloeppploiaaa

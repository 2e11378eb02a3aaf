/- Rows of numbers that came in; a row of the law's own beside a writer that stands. -/
import Derived.Test.YtkeloeppploiaaaQzA
namespace Go.Proofs.Ytkeloeppploiaaa
open Go.RowKit

/-- A writer at g with what was written to it, and a row u of the law's own. -/
structure Row (W w : World) (B g : Nat) (v : Value) (tot : List Nat) (u : Value) (bs : List Nat) : Prop where
  below : Below W.heap.size W w
  wr : WR w g B v tot
  ob : OB w B u bs
  apart : ∀ k, u.ownBlock = some k → v.ownBlock ≠ some k
theorem Row.step {W w wA w3 : World} {B g : Nat} {v u u3 : Value} {tot bs cs : List Nat} (h : Row W w B g v tot u bs) (hg : W.heap.size ≤ g)
    (hA : Below w.heap.size w wA) (ho3 : OB w3 B u3 (bs ++ cs)) (hg3 : wA.grownBy w3 u.ownBlock) (hm3 : Moved u wA u3) : Row W w3 B g v tot u3 (bs ++ cs) := by
  have hgB := h.wr.2.1
  have oA : OB wA B u bs := h.ob.kept hA
  have vA : WR wA g B v tot := h.wr.kept hA
  have hle := oA.own_le
  have nA : u.ownBlock ≠ some g := fun e => by have := (hle g e).1; omega
  have bA : Below W.heap.size W wA := h.below.trans (hA.mono h.below.size)
  refine ⟨?_, vA.beside hg3 nA (fun k hk e => h.apart k e hk), ho3, ?_⟩
  · exact Turn.outside (b := g) (turn_of_grown hg3) bA bA.size hg (fun k hk => by have := (hle k hk).1; omega)
  · intro k hk e
    rcases hm3 with hm3 | hm3
    · exact h.apart k (by rw [← hm3]; exact hk) e
    · have := hm3 k hk; have := vA.own_lt k e; omega

theorem rv_row {k : IntKind} {w : World} {a : Option Addr} {len cap : Nat} {zs : List Int} (h : IsRow k w a len cap zs) (hl : len ≤ 100) :
    RV w (.slice a len cap) ((zs.take len).map fun z => .int k z) ∧ (zs.take len).length = len ∧ ∀ z ∈ zs.take len, (Lit.int k z).wf = true := by
  rcases h with ⟨rfl, rfl, rfl, rfl⟩ | ⟨x, rfl, h1, h2, h3, h4, h5⟩
  · exact ⟨⟨by simp, none, 0, by simp, by simp⟩, by simp, by simp⟩
  · have hlen : (zs.take len).length = len := by rw [List.length_take]; omega
    refine ⟨⟨by rw [List.length_map, hlen]; omega, some x, cap, by rw [List.length_map, hlen], fun i hi => ?_⟩, hlen, fun z hz => h5 z (List.mem_of_mem_take hz)⟩
    rw [List.length_map, hlen] at hi
    have h0 := h4 0 (by omega)
    have hc := h4 i (by omega)
    have ex : x = ⟨x.block, x.off, none⟩ := by
      have e0 := (cell_spot h0).1
      cases x; simp [Addr.add] at e0; simp [e0]
    refine ⟨x.block, x.off, by rw [← ex], ?_⟩
    rw [ex, add_at] at hc
    rw [hc]
    have hi2 : i < zs.length := by omega
    simp [hi, hi2]
theorem rv_u64 {w : World} {a : Option Addr} {len cap : Nat} {zs : List Int} (h : IsRow .u64 w a len cap zs) (hl : len ≤ 100) :
    ∃ ns : List Nat, ns.length = len ∧ (∀ n ∈ ns, n < 18446744073709551616) ∧ RV w (.slice a len cap) (ns.map fun n => .int .u64 ((n : Nat) : Int)) := by
  obtain ⟨h1, h2, h3⟩ := rv_row h hl
  refine ⟨(zs.take len).map Int.toNat, by rw [List.length_map, h2], fun n hn => ?_, ?_⟩
  · obtain ⟨z, hz, rfl⟩ := List.mem_map.1 hn
    have := bounds_u64 (h3 z hz)
    omega
  · rw [List.map_map]
    have e : ((zs.take len).map ((fun n : Nat => Value.int .u64 (n : Int)) ∘ Int.toNat)) = (zs.take len).map fun z => .int .u64 z := by
      refine List.map_congr_left fun z hz => ?_
      have := bounds_u64 (h3 z hz)
      show Value.int .u64 ((z.toNat : Nat) : Int) = _
      rw [Int.toNat_of_nonneg this.1]
    rw [e]
    exact h1
theorem rv_i64 {w : World} {a : Option Addr} {len cap : Nat} {zs : List Int} (h : IsRow .i64 w a len cap zs) (hl : len ≤ 100) :
    ∃ ns : List Int, ns.length = len ∧ (∀ n ∈ ns, -9223372036854775808 ≤ n ∧ n ≤ 9223372036854775807) ∧ RV w (.slice a len cap) (ns.map fun n => .int .i64 n) := by
  obtain ⟨h1, h2, h3⟩ := rv_row h hl
  exact ⟨zs.take len, h2, fun z hz => bounds_i64 (h3 z hz), h1⟩
end Go.Proofs.Ytkeloeppploiaaa

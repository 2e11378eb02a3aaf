/- The walk of CrcApart. -/
import Derived.Test.YteehglaadofidaaCrcE
namespace Go.Proofs.Yteehglaadofidaa
open Go.RowKit

theorem top_lt {bs : List Nat} (h : ∀ c ∈ bs, c < 256) : ∀ c ∈ bs ++ top bs, c < 256 := by
  have hx := onN_lt bs 11994318 (by omega) h
  intro c hc
  simp only [List.mem_append, top, List.mem_cons, List.not_mem_nil, or_false] at hc
  rcases hc with hc | rfl | rfl | rfl
  · exact h c hc
  all_goals omega
theorem top_len (bs : List Nat) : (bs ++ top bs).length = bs.length + 3 := by simp [top]
theorem top_take (bs : List Nat) : (bs ++ top bs).take bs.length = bs := by simp
theorem top_fits (bs : List Nat) : onN 11994318 ((bs ++ top bs).take bs.length) = (bs ++ top bs).getD bs.length 0 * 65536 + (bs ++ top bs).getD (bs.length + 1) 0 * 256 + (bs ++ top bs).getD (bs.length + 2) 0 := by
  rw [top_take]
  have e0 : (bs ++ top bs).getD bs.length 0 = onN 11994318 bs / 65536 := by simp [top]
  have e1 : (bs ++ top bs).getD (bs.length + 1) 0 = onN 11994318 bs / 256 % 256 := by simp [top]
  have e2 : (bs ++ top bs).getD (bs.length + 2) 0 = onN 11994318 bs % 256 := by simp [top]
  rw [e0, e1, e2]
  omega
/-- What was sealed is opened. -/
theorem open_sealed (v : Value) (bs : List Nat) (w : World) (hb : RB w v (bs ++ top bs)) (hm : bs.length ≤ 1000000) : Calls Try.prog 38 #[v] w (Opened w bs) := by
  have := open_good v (bs ++ top bs) bs.length w hb (top_len bs) hm (top_fits bs)
  rwa [top_take] at this

theorem RB.shapeN {w : World} {v : Value} {bs : List Nat} {n : Nat} (h : RB w v bs) (hn : bs.length = n) : ∃ a cap, v = .slice a n cap := by
  obtain ⟨a, cap, hv, _, _⟩ := h.shape
  exact ⟨a, cap, by rw [← hn]; exact hv⟩
/-- n cells of bytes, whatever they hold, that are the call's own. -/
def Own (w : World) (base : Nat) (v : Value) (n : Nat) : Prop := ∃ xs, w.ownsRow base 5 1 v n xs
theorem OB.own {w : World} {base : Nat} {v : Value} {bs : List Nat} {n : Nat} (h : OB w base v bs) (hn : bs.length = n) : Own w base v n := ⟨_, by rw [← hn]; exact h⟩
theorem Own.at {w : World} {base : Nat} {a : Option Addr} {n cap k : Nat} (h : Own w base (.slice a n cap) n) (hk : k < n) :
    ∃ g u, a = some ⟨g, 0, none⟩ ∧ base ≤ g ∧ g < w.heap.size ∧ w.cell? ⟨g, k, none⟩ = some u ∧ w.frozen? ⟨g, k, none⟩ = false := by
  obtain ⟨xs, h⟩ := h
  have h' := h
  rcases h'.2 with ⟨hv, hn⟩ | ⟨g, cap', cur, hv, hg, hh, _⟩
  · omega
  · simp only [Value.slice.injEq] at hv
    obtain ⟨rfl, _, rfl⟩ := hv
    have e := h'.1
    refine ⟨g, xs[k]'(by omega), rfl, hg, (Array.getElem?_eq_some_iff.mp hh).1, ?_, World.ownsRow.frozenAt h k⟩
    rw [World.ownsRow.cellAt h k (by omega)]
    simp
theorem Own.set {w : World} {base g n cap k : Nat} (h : Own w base (.slice (some ⟨g, 0, none⟩) n cap) n) (u : Value) : Own (w.setCell ⟨g, k, none⟩ u) base (.slice (some ⟨g, 0, none⟩) n cap) n := by
  obtain ⟨xs, h⟩ := h
  exact ⟨_, (World.ownsRow.stored h k u).1⟩
theorem OB.set {w : World} {base : Nat} {v : Value} {bs : List Nat} (h : OB w base v bs) {p : Addr} (hp : p.block < base) (u : Value) : OB (w.setCell p u) base v bs := ownsRow_setCell_below h hp u
theorem Own.setOther {w : World} {base : Nat} {v : Value} {n : Nat} (h : Own w base v n) {p : Addr} (hp : p.block < base) (u : Value) : Own (w.setCell p u) base v n := by
  obtain ⟨xs, h⟩ := h
  exact ⟨xs, ownsRow_setCell_below h hp u⟩

end Go.Proofs.Yteehglaadofidaa

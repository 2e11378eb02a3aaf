/- Rings that are none: Get, Drop, Put. A ring made anew. -/
import Derived.Test.YtfclmbneimbmnaaDoorRgA
import Derived.Lib.Hide
import Derived.Carry
namespace Go.Proofs.YtfclmbneimbmnaaDoor
open Go.RowKit

theorem cell_keep {w : World} {a : Addr} {v : Value} (o : Obj) (h : w.cell? a = some v) : (w.alloc o).cell? a = some v := by
  rw [World.cell?_alloc_lt _ _ _ (cell_lt h)]; exact h

theorem below_three {B x : Nat} {a w : World} (h : Below B a w) (hx : B ≤ x) (u v z : Value) : Below B a (((w.setCell ⟨x, 0, none⟩ u).setCell ⟨x, 1, none⟩ v).setCell ⟨x, 2, none⟩ z) :=
  Below.setCell (p := ⟨x, 2, none⟩) (Below.setCell (p := ⟨x, 1, none⟩) (Below.setCell (p := ⟨x, 0, none⟩) h hx u) hx v) hx z

theorem three_read {w : World} {x : Nat} {a b c u v z : Value} (q0 : w.cell? ⟨x, 0, none⟩ = some a) (q1 : w.cell? ⟨x, 1, none⟩ = some b) (q2 : w.cell? ⟨x, 2, none⟩ = some c) :
    (((w.setCell ⟨x, 0, none⟩ u).setCell ⟨x, 1, none⟩ v).setCell ⟨x, 2, none⟩ z).cell? ⟨x, 0, none⟩ = some u ∧ (((w.setCell ⟨x, 0, none⟩ u).setCell ⟨x, 1, none⟩ v).setCell ⟨x, 2, none⟩ z).cell? ⟨x, 1, none⟩ = some v ∧ (((w.setCell ⟨x, 0, none⟩ u).setCell ⟨x, 1, none⟩ v).setCell ⟨x, 2, none⟩ z).cell? ⟨x, 2, none⟩ = some z := by
  refine ⟨?_, ?_, ?_⟩ <;> go_simp

set_option maxRecDepth 100000 in
theorem get_no (p : Option Addr) (id : Int) (w : World) (h : NoRg w p) : Calls Tryd.prog 75 #[.pointer p, .int .u64 id] w fun e w' => e = .returned (.tuple #[.agg #[.int .u64 0, .int .u64 0, .int .i64 0], .int .i64 0, .bool false]) ∧ Below w.heap.size w w' := by
  have hn : NoRg (w.alloc (.cells #[.int .u64 0, .int .u64 0, .int .i64 0] 27)) p := by
    rcases h with rfl | ⟨r, rfl, h⟩
    · exact .inl rfl
    · exact .inr ⟨r, rfl, by rw [World.cell?_alloc_lt _ _ _ (cell_lt h)]; exact h⟩
  have hc := created_no p _ hn
  clear h hn
  go_enter Tryd.func75, Tryd.ntmps75
  go_wp2_with (go_at_call 77; refine hc.mono ?_; rintro e w1 ⟨rfl, rfl⟩)
  refine bodyPost_ret (v := .tuple #[.agg #[.int .u64 0, .int .u64 0, .int .i64 0], .int .i64 0, .bool false]) (by simp [results, Tryd.results75, go_sem]) rfl ⟨rfl, ?_⟩
  exact (Below.refl _ _).alloc (Nat.le_refl _) _

theorem NoRg.below {w w' : World} {p : Option Addr} (h : NoRg w p) (hb : Below w.heap.size w w') : NoRg w' p := by
  rcases h with rfl | ⟨r, rfl, h⟩
  · exact .inl rfl
  · exact .inr ⟨r, rfl, (hb.cell (p := ⟨r, 64, none⟩) (cell_lt h)).trans h⟩

set_option maxRecDepth 100000 in
theorem drop_no (p : Option Addr) (id : Int) (w : World) (h : NoRg w p) : Calls Tryd.prog 71 #[.pointer p, .int .u64 id] w fun e w' => e = .returned (.tuple #[.agg #[.int .u64 0, .int .u64 0, .int .i64 0], .bool false]) ∧ Below w.heap.size w w' := by
  have hc := get_no p id (w.alloc (.cells #[.int .u64 0, .int .u64 0, .int .i64 0] 27)) (h.below ((Below.refl _ _).alloc (Nat.le_refl _) _))
  clear h
  have hB0 : Below w.heap.size w (w.alloc (.cells #[.int .u64 0, .int .u64 0, .int .i64 0] 27)) := (Below.refl _ _).alloc (Nat.le_refl _) _
  have hs0 : w.heap.size < (w.alloc (.cells #[.int .u64 0, .int .u64 0, .int .i64 0] 27)).heap.size := by simp
  have hz0 : ∀ o, (w.alloc (.cells #[.int .u64 0, .int .u64 0, .int .i64 0] 27)).frozen? ⟨w.heap.size, o, none⟩ = false := fun o => by simp
  have hq0 : (w.alloc (.cells #[.int .u64 0, .int .u64 0, .int .i64 0] 27)).cell? ⟨w.heap.size, 0, none⟩ = some (.int .u64 0) ∧ (w.alloc (.cells #[.int .u64 0, .int .u64 0, .int .i64 0] 27)).cell? ⟨w.heap.size, 1, none⟩ = some (.int .u64 0) ∧ (w.alloc (.cells #[.int .u64 0, .int .u64 0, .int .i64 0] 27)).cell? ⟨w.heap.size, 2, none⟩ = some (.int .i64 0) := by simp
  have HP : Hid (Below w.heap.size w (w.alloc (.cells #[.int .u64 0, .int .u64 0, .int .i64 0] 27))) := Lib.hid hB0
  clear hB0
  go_enter Tryd.func71, Tryd.ntmps71
  go_wp2_with fail
  generalize w.alloc (.cells #[.int .u64 0, .int .u64 0, .int .i64 0] 27) = w0 at hc HP hs0 hz0 hq0 ⊢
  obtain ⟨q0, q1, q2⟩ := hq0
  have z0 := hz0 0
  have z1 := hz0 1
  have z2 := hz0 2
  clear hz0
  go_wp2_with (go_at_call 75; refine hc.mono ?_; rintro e w1 ⟨rfl, hB1⟩; have q0' := (hB1.cell (p := ⟨w.heap.size, 0, none⟩) hs0).trans q0; have q1' := (hB1.cell (p := ⟨w.heap.size, 1, none⟩) hs0).trans q1; have q2' := (hB1.cell (p := ⟨w.heap.size, 2, none⟩) hs0).trans q2; have z0' := (hB1.frozen (p := ⟨w.heap.size, 0, none⟩) hs0).trans z0; have z1' := (hB1.frozen (p := ⟨w.heap.size, 1, none⟩) hs0).trans z1; have z2' := (hB1.frozen (p := ⟨w.heap.size, 2, none⟩) hs0).trans z2; have hs1 := Nat.lt_of_lt_of_le hs0 hB1.size; have HB1 := Lib.hid hB1; clear hB1 q0 q1 q2 z0 z1 z2)
  have hr3 := three_read (u := .int .u64 0) (v := .int .u64 0) (z := .int .i64 0) q0' q1' q2'
  obtain ⟨r0, r1, r2⟩ := hr3
  have h3 := fun h => below_three (B := w.heap.size) (x := w.heap.size) (a := w) (w := w1) h (Nat.le_refl _) (.int .u64 0) (.int .u64 0) (.int .i64 0)
  generalize ((w1.setCell ⟨w.heap.size, 0, none⟩ (.int .u64 0)).setCell ⟨w.heap.size, 1, none⟩ (.int .u64 0)).setCell ⟨w.heap.size, 2, none⟩ (.int .i64 0) = w3 at r0 r1 r2 h3 ⊢
  have s0 := cell_keep (.cells #[.int .u64 0, .int .u64 0, .int .i64 0] 27) r0
  have s1 := cell_keep (.cells #[.int .u64 0, .int .u64 0, .int .i64 0] 27) r1
  have s2 := cell_keep (.cells #[.int .u64 0, .int .u64 0, .int .i64 0] 27) r2
  refine bodyPost_ret (v := .tuple #[.agg #[.int .u64 0, .int .u64 0, .int .i64 0], .bool false]) (by simp [results, Tryd.results71, go_sem, s0, s1, s2]) rfl ⟨rfl, ?_⟩
  have h1 : Below w.heap.size w w1 := HP.out.trans (HB1.out.mono (Nat.le_of_lt hs0))
  have h4 := h3 h1
  exact h4.alloc h4.size _

set_option maxRecDepth 100000 in
theorem put_no (p : Option Addr) (k x y z : Int) (w : World) (h : NoRg w p) : Calls Tryd.prog 66 #[.pointer p, .int .i64 k, .agg #[.int .u64 x, .int .u64 y, .int .i64 z]] w fun e w' => e = .returned (.int .i64 1) ∧ Below w.heap.size w w' := by
  have hc := created_no p _ (h.below ((Below.refl w.heap.size w).alloc (Nat.le_refl _) (.cells #[.int .u64 x, .int .u64 y, .int .i64 z] 27)))
  clear h
  go_enter Tryd.func66, Tryd.ntmps66
  go_wp2_with (go_at_call 77; refine hc.mono ?_; rintro e w1 ⟨rfl, rfl⟩)
  go_ret
  exact ⟨rfl, (Below.refl _ _).alloc (Nat.le_refl _) _⟩

theorem zero_ring : Tryd.zeroCells140 = (Array.replicate 64 (.slice none 0 0)).push (.map none) := by kernel_rfl

set_option maxRecDepth 100000 in
theorem new_any (w : World) : Calls Tryd.prog 22 #[] w fun e w' => ∃ r b, e = .returned (.pointer (some ⟨r, 0, none⟩)) ∧ w.heap.size ≤ r ∧ w.heap.size ≤ b ∧ r ≠ b ∧ Rg w' r b 0 (fun _ => .slice none 0 0) (fun _ => none) ∧ Below w.heap.size w w' := by
  have hmk : ∀ w, (Instr.makeMap 137 none).run Tryd.prog w = .ok (.map (some w.heap.size)) (w.alloc (.map #[] 0)) := fun w => run_makeMap _ w
  go_enter Tryd.func22, Tryd.ntmps22
  go_wp2
  go_ret
  have h1 : ∀ k, k < 64 → (Tryd.zeroCells140.setIfInBounds 64 (.map (some w.heap.size)))[k]? = some (.slice none 0 0) := by
    intro k hk
    rw [zero_ring, Array.getElem?_setIfInBounds, if_neg (by omega), Array.getElem?_push]
    simp [hk]
    omega
  have h2 : (Tryd.zeroCells140.setIfInBounds 64 (.map (some w.heap.size)))[64]? = some (.map (some w.heap.size)) := by
    rw [zero_ring]; simp
  have hB : Below w.heap.size w ((w.alloc (.map #[] 0)).alloc (.cells (Tryd.zeroCells140.setIfInBounds 64 (.map (some w.heap.size))) 140)) := ((Below.refl _ _).alloc (Nat.le_refl _) _).alloc (by simp) _
  have hP := (Pl.made w).block (w' := ((w.alloc (.map #[] 0)).alloc (.cells (Tryd.zeroCells140.setIfInBounds 64 (.map (some w.heap.size))) 140))) (Below.heap_alloc _ _ _ (by simp))
  have hs : (w.alloc (.map #[] 0)).heap.size = w.heap.size + 1 := by simp
  generalize Tryd.zeroCells140.setIfInBounds 64 (.map (some w.heap.size)) = zc at h1 h2 hB hP ⊢
  refine ⟨w.heap.size + 1, w.heap.size, rfl, by omega, Nat.le_refl _, by omega, ⟨fun k hk => ?_, fun k hk => ?_, ?_, hP⟩, hB⟩
  · rw [← hs, World.cell?_alloc_new]; exact h1 k hk
  · rw [← hs]; simp
  · rw [← hs, World.cell?_alloc_new]; exact h2
end Go.Proofs.YtfclmbneimbmnaaDoor

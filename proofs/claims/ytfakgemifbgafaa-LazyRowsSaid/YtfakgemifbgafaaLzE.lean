/- The chapter's example, as the laws of layer 4 call it. -/
import Derived.Test.YtfakgemifbgafaaLzD
namespace Go.Proofs.Ytfakgemifbgafaa
open Go.RowKit

theorem lives1 (pc : Addr) (x s : Int) (w : World) (hs : wrap64 (x + 1) = s) (hc : w.cell? pc = some (.int .i64 x)) (hz : w.frozen? pc = false) :
    Calls Try.prog 46 #[.pointer (some pc)] w fun e w' => e = .returned (.int .i64 7) ∧ w.setCell pc (.int .i64 s) = w' := by
  go_enter Try.func46, Try.ntmps46
  go_wp2
  go_ret
  exact ⟨rfl, by simp [← hs, wrap64]⟩

/-- A new cell is a cell. -/
theorem cel_new (f : Value) (T : TypeId) (w : World) :
    Cel w.heap.size f 0 0 0 0 (w.alloc (.cells #[f, .int .u32 0, .int .i32 0, .int .u32 0, .int .i64 0, .int .u32 0, .int .i64 0] T)) :=
  ⟨by simp, by simp, by simp, by simp, by simp, by simp, by intro j; simp⟩

theorem lt_of_cell {w : World} {a : Addr} {v : Value} (h : w.cell? a = some v) : a.block < w.heap.size := by
  rcases Nat.lt_or_ge a.block w.heap.size with k | k
  · exact k
  · have : w.heap[a.block]? = none := by simp [k]
    simp [World.cell?, this] at h

set_option maxRecDepth 100000 in
set_option maxHeartbeats 1600000 in
theorem lives4 (w : World) : Calls Try.prog 11 #[] w fun e w' => e = .returned (.bool true) ∧ Below w.heap.size w w' := by
  have hmf : ∀ (fn : Fn) (first cap : Array Value) (w : World), (Instr.makeFunc fn first cap).run Try.prog w = .ok (.func fn first cap) w := fun _ _ _ _ => rfl
  go_enter Try.func11, Try.ntmps11
  go_wp2_with fail
  refine (new_fn _ _ _ _).mono ?_
  rintro e W1 ⟨rfl, hW1⟩
  have C0 : Cel (w.heap.size + 1) (.func (.func 46) #[] #[.pointer (some ⟨w.heap.size, 0, none⟩)]) 0 0 0 0 W1 := by
    rw [← hW1]
    have := cel_new (.func (.func 46) #[] #[.pointer (some ⟨w.heap.size, 0, none⟩)]) 100 (w.alloc (.cells #[.int .i64 0] 3))
    simpa using this
  have K0 : W1.cell? ⟨w.heap.size, 0, none⟩ = some (.int .i64 0) := by
    rw [← hW1, World.cell?_alloc_past _ _ _ (by simp)]
    simp
  have Z0 : W1.frozen? ⟨w.heap.size, 0, none⟩ = false := by
    rw [← hW1, World.frozen?_alloc_past _ _ _ (by simp)]
    simp
  have O0 : Only (fun k => w.heap.size ≤ k) w W1 := by
    rw [← hW1]
    exact Only.below (((Below.refl w.heap.size w).alloc (Nat.le_refl _) _).alloc (by simp) _)
  clear hW1
  go_wp2_with fail
  refine (made_any _ _ _ C0.made).mono ?_
  rintro e w' ⟨rfl, rfl⟩
  have hG : Calls Try.prog 46 #[.pointer (some ⟨w.heap.size, 0, none⟩)] (atBuild (w.heap.size + 1) 1 W1) fun e w' => e = .returned (.int .i64 7) ∧ w'.heap[w.heap.size + 1]? = (atBuild (w.heap.size + 1) 1 W1).heap[w.heap.size + 1]? ∧
      (w'.cell? ⟨w.heap.size, 0, none⟩ = some (.int .i64 1) ∧ Only (fun k => w.heap.size ≤ k) w w') := by
    have O1 := atBuild_only (w.heap.size + 1) 1 W1
    have K1 : (atBuild (w.heap.size + 1) 1 W1).cell? ⟨w.heap.size, 0, none⟩ = some (.int .i64 0) := (O1.cell (lt_of_cell K0) (by simp)).trans K0
    have Z1 : (atBuild (w.heap.size + 1) 1 W1).frozen? ⟨w.heap.size, 0, none⟩ = false := (World.frozen?_of_block (a := ⟨w.heap.size, 0, none⟩) (O1.block _ (lt_of_cell K0) (by simp))).trans Z0
    refine (lives1 ⟨w.heap.size, 0, none⟩ 0 1 _ (by simp [wrap64]) K1 Z1).mono ?_
    rintro e w' ⟨rfl, rfl⟩
    exact ⟨rfl, Below.heap_setCell _ _ _ _ (by simp), World.cell?_setCell_same _ _ _ K1, (O0.trans (O1.more fun k hk => by omega)).setCell _ _ (Nat.le_refl _)⟩
  go_wp2_with fail
  refine (get_fn 46 _ _ _ 7 _ _ 1 W1 _ (by simp [wrap64]) (fun _ => by first | rfl | kernel_rfl | simp [go_sem]) C0 hG).mono ?_
  rintro e W2 ⟨rfl, C2, w2, ⟨K2, O2⟩, P2, _⟩
  have K3 := (P2.cell (lt_of_cell K2) (by simp)).trans K2
  have O3 := O2.trans (P2.more (Y := fun k => w.heap.size ≤ k) fun k hk => by omega)
  clear K2 O2 P2 hG K0 Z0 O0 C0
  go_wp2_with fail
  refine (get_again _ _ _ _ _ 2 _ (by simp [wrap64]) C2).mono ?_
  rintro e W3 ⟨rfl, C3, P3, _⟩
  have K4 := (P3.cell (lt_of_cell K3) (by simp)).trans K3
  have O4 := O3.trans (P3.more (Y := fun k => w.heap.size ≤ k) fun k hk => by omega)
  go_wp2_with fail
  refine (get_again _ _ _ _ _ 3 _ (by simp [wrap64]) C3).mono ?_
  rintro e W4 ⟨rfl, C4, P4, _⟩
  have K5 := (P4.cell (lt_of_cell K4) (by simp)).trans K4
  have O5 := O4.trans (P4.more (Y := fun k => w.heap.size ≤ k) fun k hk => by omega)
  clear C2 P3 K4 O4 C3 P4 K3 O3
  go_wp2_with fail
  refine (asked_any _ _ _ C4.asked).mono ?_
  rintro e w' ⟨rfl, rfl⟩
  go_wp2_with fail
  refine (made_any _ _ _ C4.made).mono ?_
  rintro e w' ⟨rfl, rfl⟩
  go_wp2_with fail
  go_ret
  exact ⟨rfl, O5.toBelow (Nat.le_refl _) fun k hk => hk⟩
end Go.Proofs.Ytfakgemifbgafaa

/- A table of n rows that a function makes. -/
import Derived.Test.YtfakgemifbgafaaLzH
namespace Go.Proofs.Ytfakgemifbgafaa
open Go.RowKit

theorem rowfn_eql_nil (g : Fn) (a b : Array Value) (w : World) : (binOp .eql 32 (.func g a b) .nilFunc).run Try.prog w = .ok (.bool false) w := by kernel_rfl

set_option maxRecDepth 100000 in
set_option maxHeartbeats 4000000 in
theorem rows_fn (g : Fn) (fi ca : Array Value) (n : Nat) (w : World) (h : n ≤ 1000) : Calls Try.prog 16 #[.int .i64 n, .func g fi ca] w fun e w' => e = .returned (.pointer (some ⟨w.heap.size + 1, 0, none⟩)) ∧
    Below w.heap.size w w' ∧ Tab w.heap.size n n (.func g fi ca) w' := by
  have h1 : decide ((n : Int) < 0) = false := by simp
  have h2 : decide (65536 < (n : Int)) = false := by simp; omega
  have q0 := rowfn_eql_nil
  have hmk := run_make_row' (P := Try.prog) 25 26 (.pointer none) 8 Try.underlying25 cells_info rfl .i64 .i64 n (by omega) (by omega)
  have hmf : ∀ (fn : Fn) (first cap : Array Value) (w : World), (Instr.makeFunc fn first cap).run Try.prog w = .ok (.func fn first cap) w := fun _ _ _ _ => rfl
  go_enter Try.func16, Try.ntmps16
  go_wp2_with fail
  obtain ⟨w0, hw0⟩ : ∃ w0, (((w.alloc (.cells #[.func g fi ca] 32)).alloc (.cells #[.slice none 0 0, .int .i64 0] 104)).alloc (.cells #[.pointer (some ⟨w.heap.size + 1, 0, none⟩)] 30)) = w0 := ⟨_, rfl⟩
  have s0 : w0.heap.size = w.heap.size + 3 := by rw [← hw0]; simp
  have b0 : Below w.heap.size w w0 := by rw [← hw0]; exact (((Below.refl w.heap.size w).alloc (Nat.le_refl _) _).alloc (by simp) _).alloc (by simp <;> omega) _
  have z0 : ∀ a : Addr, w.heap.size ≤ a.block → w0.frozen? a = false := by
    intro a ha
    rw [← hw0, frozen?_alloc_cells, frozen?_alloc_cells, frozen?_alloc_cells]
    exact fresh_free ha
  have t0 : w0.cell? ⟨w.heap.size + 2, 0, none⟩ = some (.pointer (some ⟨w.heap.size + 1, 0, none⟩)) := by
    have := cell_new ((w.alloc (.cells #[.func g fi ca] 32)).alloc (.cells #[.slice none 0 0, .int .i64 0] 104)) (.pointer (some ⟨w.heap.size + 1, 0, none⟩)) 30
    rw [hw0] at this
    simpa using this
  have r0 : w0.cell? ⟨w.heap.size + 1, 0, none⟩ = some (.slice none 0 0) := by
    rw [← hw0, World.cell?_alloc_past _ _ _ (by simp)]
    simp
  have m0 : w0.cell? ⟨w.heap.size + 1, 1, none⟩ = some (.int .i64 0) := by
    rw [← hw0, World.cell?_alloc_past _ _ _ (by simp)]
    simp
  have f0 : w0.cell? ⟨w.heap.size, 0, none⟩ = some (.func g fi ca) := by
    rw [← hw0, World.cell?_alloc_past _ _ _ (by simp <;> omega), World.cell?_alloc_past _ _ _ (by simp)]
    simp
  have z1 := z0 ⟨w.heap.size + 1, 0, none⟩ (by simp)
  rw [show w.heap.size + 1 + 1 = w.heap.size + 2 from rfl, hw0]
  clear hw0
  have hfa : ∀ (w : World) (c : Array Value) (t : TypeId) (a : Addr), (w.alloc (.cells c t)).frozen? a = w.frozen? a := frozen?_alloc_cells
  have hr : ∀ (cs : Array Value) (T : TypeId), (w0.alloc (.cells cs T)).cell? ⟨w.heap.size + 1, 0, none⟩ = some (.slice none 0 0) := fun cs T => by
    rw [World.cell?_alloc_past _ _ _ (by rw [s0]; simp)]
    exact r0
  go_region_held3 (fun w' => w'.cell? ⟨w.heap.size + 2, 0, none⟩ = some (.pointer (some ⟨w.heap.size + 1, 0, none⟩)) ∧ w'.frozen? ⟨w.heap.size + 1, 0, none⟩ = false) (first | exact ⟨t0, z1⟩ | go_keep) (fail)
  obtain ⟨w1, hw1⟩ : ∃ w1, ((w0.setCell ⟨w.heap.size + 1, 0, none⟩ (.slice (some ⟨w.heap.size + 3, 0, none⟩) n n)).alloc (.cells (madeCells #[.pointer none] n) 26)).drew = w1 := ⟨_, rfl⟩
  have old : ∀ b o, b < w.heap.size + 3 → ¬ (b = w.heap.size + 1 ∧ o = 0) → w1.cell? ⟨b, o, none⟩ = w0.cell? ⟨b, o, none⟩ := by
    intro b o hb hne
    rw [← hw1, World.cell?_drew, World.cell?_alloc_past _ _ _ (by simp <;> omega)]
    exact World.cell?_setCell_other _ ⟨w.heap.size + 1, 0, none⟩ ⟨b, o, none⟩ _ (fun e => hne (by injection e with e1 e2 e3; exact ⟨e1.symm, e2.symm⟩))
  have T0 : Tab w.heap.size n 0 (.func g fi ca) w1 := by
    refine ⟨?_, (old _ _ (by omega) (by omega)).trans t0, (old _ _ (by omega) (by omega)).trans f0, ?_, (old _ _ (by omega) (by omega)).trans m0, ?_, ?_, fun i hi => by omega, fun i hi => by omega, fun i hi => by omega⟩
    · rw [← hw1]; simp [s0]
    · rw [← hw1, World.cell?_drew, World.cell?_alloc_past _ _ _ (by simp [s0])]
      exact World.cell?_setCell_same _ _ _ r0
    · intro a ha
      rw [← hw1]
      simp [hfa, z0 a ha]
    · intro i hi
      refine ⟨(madeCells #[.pointer none] n)[i]'(by rw [size_madeCells]; exact hi), ?_⟩
      rw [← hw1, World.cell?_drew, World.cell?_alloc_at _ _ _ _ (by simp [s0])]
      exact Array.getElem?_eq_getElem _
  have B0 : Below w.heap.size w w1 := by
    rw [← hw1]
    exact (b0.trans (((Below.refl _ _).setCell (p := ⟨w.heap.size + 1, 0, none⟩) (by simp) _).alloc (by simp <;> omega) _)).drew
  rw [hw1]
  clear hw1 old hr z1 f0 m0 r0 t0 z0 b0 s0
  rename_i hHeld
  clear hHeld
  go_wp2_with fail
  go_loopw [24] (fun i wr => ∃ k : Nat, k ≤ n ∧ i = .int .i64 k ∧ Below w.heap.size w wr ∧ Tab w.heap.size n k (.func g fi ca) wr) (fun i _ => n - (intOf i).toNat)
  case atStart => exact ⟨0, Nat.zero_le _, rfl, B0, T0⟩
  case round =>
    clear T0 B0
    obtain ⟨k, hk, rfl, hB, T⟩ := hrel
    by_cases hlt : k < n
    · have hl : decide ((k : Int) < (n : Int)) = true := by simp; omega
      have hs := T.size
      have hz : wr.frozen? ⟨w.heap.size + 4 + 2 * k, 0, none⟩ = false := T.free _ (by simp <;> omega)
      go_wp2_with fail
      have t1 : (wr.alloc (.cells #[.int .i64 k] 3)).cell? ⟨w.heap.size + 2, 0, none⟩ = some (.pointer (some ⟨w.heap.size + 1, 0, none⟩)) := (World.cell?_alloc_past _ _ _ (by omega)).trans T.t
      have r1 : (wr.alloc (.cells #[.int .i64 k] 3)).cell? ⟨w.heap.size + 1, 0, none⟩ = some (.slice (some ⟨w.heap.size + 3, 0, none⟩) n n) := (World.cell?_alloc_past _ _ _ (by omega)).trans T.rows
      have i1 : (wr.alloc (.cells #[.int .i64 k] 3)).cell? ⟨w.heap.size + 4 + 2 * k, 0, none⟩ = some (.int .i64 k) := by
        rw [World.cell?_alloc_at _ _ _ _ hs.symm]
        rfl
      have z1 : (wr.alloc (.cells #[.int .i64 k] 3)).frozen? ⟨w.heap.size + 3, k, none⟩ = false := (hfa _ _ _ _).trans (T.free _ (by simp <;> omega))
      have n1 := T.next hlt
      obtain ⟨x, hx⟩ := T.hole k hlt
      have x1 : ∀ (cs : Array Value) (T : TypeId), ((wr.alloc (.cells #[.int .i64 k] 3)).alloc (.cells cs T)).cell? ⟨w.heap.size + 3, k, none⟩ = some x := fun cs T => by
        rw [World.cell?_alloc_past _ _ _ (by simp <;> omega), World.cell?_alloc_past _ _ _ (by omega)]
        exact hx
      have hsz : (wr.alloc (.cells #[.int .i64 k] 3)).heap.size = w.heap.size + 5 + 2 * k := by simp [hs] <;> omega
      obtain ⟨wa, hwa⟩ : ∃ wa, wr.alloc (.cells #[.int .i64 k] 3) = wa := ⟨_, rfl⟩
      rw [hwa] at t1 r1 i1 z1 x1 hsz ⊢
      have hk0 : (0 : Int) ≤ (k : Int) := by omega
      have hkn : (k : Int) < (n : Int) := by omega
      have hn1 : ¬ w.heap.size + 3 = w.heap.size + 4 + 2 * k := by omega
      have hn2 : (⟨w.heap.size + 3, k, none⟩ : Addr) ≠ ⟨w.heap.size + 4 + 2 * k, 0, none⟩ := fun e => by injection e with e1; omega
      clear T
      go_region_held3 (fun w' => w'.cell? ⟨w.heap.size + 2, 0, none⟩ = some (.pointer (some ⟨w.heap.size + 1, 0, none⟩)) ∧ w'.cell? ⟨w.heap.size + 1, 0, none⟩ = some (.slice (some ⟨w.heap.size + 3, 0, none⟩) n n) ∧ w'.cell? ⟨w.heap.size + 4 + 2 * k, 0, none⟩ = some (.int .i64 k) ∧ w'.frozen? ⟨w.heap.size + 3, k, none⟩ = false) (first | exact ⟨t1, r1, i1, z1⟩ | go_keep)
        (first | (go_at_call 12; refine (new_fn _ _ _ _).mono ?_; rintro e w' ⟨rfl, rfl⟩))
      rename_i hHeld
      clear hHeld t1 r1 i1 z1 x1
      subst hwa
      change Exit.inBlock 1 _ Exit.normal _ (more w.heap.size k wr)
      have hB' : Below w.heap.size w (more w.heap.size k wr) := hB.trans ((more_only w.heap.size k wr).toBelow hB.size fun j hj => by omega)
      generalize more w.heap.size k wr = w2 at n1 hB' ⊢
      go_wp2_with fail
      go_roundw
      case rel => exact ⟨k + 1, by omega, by go_num, hB', n1⟩
      case measure => simp [intOf]; omega
    · obtain rfl : k = n := by omega
      have ht := T.t
      go_wp2_with fail
      go_ret
      exact ⟨rfl, hB, T⟩
end Go.Proofs.Ytfakgemifbgafaa

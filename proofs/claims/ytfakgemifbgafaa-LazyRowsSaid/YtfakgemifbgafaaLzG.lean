/- Rows and the table that it hands back. -/
import Derived.Test.YtfakgemifbgafaaLzF
import Derived.Deep.RegionHeld3
import Derived.Deep.OwnRows
import Derived.LoopTactic
import Derived.Outline
namespace Go.Proofs.Ytfakgemifbgafaa
open Go.RowKit

set_option maxRecDepth 100000 in
set_option maxHeartbeats 1600000 in
theorem rows_none (n : Int) (w : World) (h : n < 0 ∨ 65536 < n) : Calls Try.prog 16 #[.int .i64 n, .nilFunc] w fun e w' => e = .returned (.pointer (some ⟨w.heap.size + 1, 0, none⟩)) ∧
    Below w.heap.size w w' ∧ w'.cell? ⟨w.heap.size + 1, 0, none⟩ = some (.slice none 0 0) ∧ w'.cell? ⟨w.heap.size + 1, 1, none⟩ = some (.int .i64 0) := by
  have fin : Below w.heap.size w (((w.alloc (.cells #[.nilFunc] 32)).alloc (.cells #[.slice none 0 0, .int .i64 0] 104)).alloc (.cells #[.pointer (some ⟨w.heap.size + 1, 0, none⟩)] 30)) :=
    (((Below.refl w.heap.size w).alloc (Nat.le_refl _) _).alloc (by simp) _).alloc (by simp <;> omega) _
  by_cases h0 : n < 0
  · have h1 : decide (n < 0) = true := by simp [h0]
    go_enter Try.func16, Try.ntmps16
    go_wp2_with fail
    go_ret
    exact ⟨rfl, fin, by rw [World.cell?_alloc_past _ _ _ (by simp)]; simp, by rw [World.cell?_alloc_past _ _ _ (by simp)]; simp⟩
  · have h1 : decide (n < 0) = false := by simp [h0]
    have h2 : decide (65536 < n) = true := by simp; omega
    go_enter Try.func16, Try.ntmps16
    go_wp2_with fail
    go_ret
    exact ⟨rfl, fin, by rw [World.cell?_alloc_past _ _ _ (by simp)]; simp, by rw [World.cell?_alloc_past _ _ _ (by simp)]; simp⟩

theorem row_eql_nil (w : World) : (binOp .eql 32 .nilFunc .nilFunc).run Try.prog w = .ok (.bool true) w := by kernel_rfl
theorem cells_info : (Try.prog.info? 26).map (fun i => (i.zero, i.size, i.bytes)) = some (some (.pointer none), 1, 8) := by kernel_rfl


theorem fresh_free {w : World} {a : Addr} (h : w.heap.size ≤ a.block) : w.frozen? a = false := by
  have : w.heap[a.block]? = none := by simp [h]
  simp [World.frozen?, this]

theorem cell_new (w : World) (v : Value) (T : TypeId) : (w.alloc (.cells #[v] T)).cell? ⟨w.heap.size, 0, none⟩ = some v := by simp

/-- A table of n rows, k of them laid, nobody asked. -/
structure Tab (N n k : Nat) (fv : Value) (w : World) : Prop where
  size : w.heap.size = N + 4 + 2 * k
  t : w.cell? ⟨N + 2, 0, none⟩ = some (.pointer (some ⟨N + 1, 0, none⟩))
  row : w.cell? ⟨N, 0, none⟩ = some fv
  rows : w.cell? ⟨N + 1, 0, none⟩ = some (.slice (some ⟨N + 3, 0, none⟩) n n)
  made : w.cell? ⟨N + 1, 1, none⟩ = some (.int .i64 0)
  free : ∀ a : Addr, N ≤ a.block → w.frozen? a = false
  hole : ∀ i, i < n → ∃ x, w.cell? ⟨N + 3, i, none⟩ = some x
  cell : ∀ i, i < k → w.cell? ⟨N + 3, i, none⟩ = some (.pointer (some ⟨N + 5 + 2 * i, 0, none⟩))
  cel : ∀ i, i < k → Cel (N + 5 + 2 * i) (.func (.func 53) #[] #[.pointer (some ⟨N + 2, 0, none⟩), .pointer (some ⟨N, 0, none⟩), .pointer (some ⟨N + 4 + 2 * i, 0, none⟩)]) 0 0 0 0 w
  ix : ∀ i, i < k → w.cell? ⟨N + 4 + 2 * i, 0, none⟩ = some (.int .i64 i)


/-- The closure that makes row k. -/
def maker (N k : Nat) : Value := .func (.func 53) #[] #[.pointer (some ⟨N + 2, 0, none⟩), .pointer (some ⟨N, 0, none⟩), .pointer (some ⟨N + 4 + 2 * k, 0, none⟩)]

/-- The world with one row more. -/
def more (N k : Nat) (w : World) : World :=
  (((w.alloc (.cells #[.int .i64 k] 3)).alloc (.cells #[maker N k, .int .u32 0, .int .i32 0, .int .u32 0, .int .i64 0, .int .u32 0, .int .i64 0] 100)).setCell
    ⟨N + 3, k, none⟩ (.pointer (some ⟨N + 5 + 2 * k, 0, none⟩))).drew
theorem more_other (N k b o : Nat) (w : World) (hne : ¬ (b = N + 3 ∧ o = k)) : (more N k w).cell? ⟨b, o, none⟩ =
    ((w.alloc (.cells #[.int .i64 k] 3)).alloc (.cells #[maker N k, .int .u32 0, .int .i32 0, .int .u32 0, .int .i64 0, .int .u32 0, .int .i64 0] 100)).cell? ⟨b, o, none⟩ := by
  unfold more
  rw [World.cell?_drew]
  exact World.cell?_setCell_other _ ⟨N + 3, k, none⟩ ⟨b, o, none⟩ _ (fun e => hne (by injection e with e1 e2 e3; exact ⟨e1.symm, e2.symm⟩))
theorem more_old (N k b o : Nat) (w : World) (hb : b < w.heap.size) (hne : ¬ (b = N + 3 ∧ o = k)) : (more N k w).cell? ⟨b, o, none⟩ = w.cell? ⟨b, o, none⟩ := by
  rw [more_other _ _ _ _ _ hne, World.cell?_alloc_past _ _ _ (by simp <;> omega), World.cell?_alloc_past _ _ _ hb]
theorem more_only (N k : Nat) (w : World) : Only (fun j => j = N + 3) w (more N k w) := by
  have h2 : Only (fun j => j = N + 3) w ((w.alloc (.cells #[.int .i64 k] 3)).alloc (.cells #[maker N k, .int .u32 0, .int .i32 0, .int .u32 0, .int .i64 0, .int .u32 0, .int .i64 0] 100)) :=
    Only.below (((Below.refl _ _).alloc (Nat.le_refl _) _).alloc (by simp) _)
  exact (h2.setCell ⟨N + 3, k, none⟩ _ rfl).drew
theorem more_block (N k b : Nat) (w : World) (hb : b < w.heap.size) (hne : ¬ b = N + 3) : (more N k w).heap[b]? = w.heap[b]? := (more_only N k w).block b hb hne

theorem Tab.next {N n k : Nat} {fv : Value} {w : World} (T : Tab N n k fv w) (hk : k < n) : Tab N n (k + 1) fv (more N k w) := by
  have hs := T.size
  have old : ∀ b o, b < N + 4 + 2 * k → ¬ (b = N + 3 ∧ o = k) → (more N k w).cell? ⟨b, o, none⟩ = w.cell? ⟨b, o, none⟩ := fun b o hb hne => more_old N k b o w (by omega) hne
  have fz : ∀ a : Addr, N ≤ a.block → (more N k w).frozen? a = false := by
    intro a ha
    unfold more
    simp [frozen?_alloc_cells, T.free a ha]
  have new : (more N k w).cell? ⟨N + 3, k, none⟩ = some (.pointer (some ⟨N + 5 + 2 * k, 0, none⟩)) := by
    obtain ⟨x, hx⟩ := T.hole k hk
    unfold more
    rw [World.cell?_drew]
    refine World.cell?_setCell_same _ _ _ (u := x) ?_
    rw [World.cell?_alloc_past _ _ _ (by simp <;> omega), World.cell?_alloc_past _ _ _ (by omega)]
    exact hx
  have vi : (more N k w).cell? ⟨N + 4 + 2 * k, 0, none⟩ = some (.int .i64 k) := by
    rw [more_other _ _ _ _ _ (by omega), World.cell?_alloc_past _ _ _ (by simp <;> omega), World.cell?_alloc_at _ _ _ _ hs.symm]
    rfl
  have cl : ∀ j, (more N k w).cell? ⟨N + 5 + 2 * k, j, none⟩ = (#[maker N k, .int .u32 0, .int .i32 0, .int .u32 0, .int .i64 0, .int .u32 0, .int .i64 0] : Array Value)[j]? := by
    intro j
    rw [more_other _ _ _ _ _ (by omega), World.cell?_alloc_at _ _ _ _ (by simp <;> omega)]
  refine ⟨?_, (old _ _ (by omega) (by omega)).trans T.t, (old _ _ (by omega) (by omega)).trans T.row, (old _ _ (by omega) (by omega)).trans T.rows, (old _ _ (by omega) (by omega)).trans T.made, fz, ?_, ?_, ?_, ?_⟩
  · unfold more
    simp
    omega
  · intro i hi
    by_cases h : i = k
    · subst h; exact ⟨_, new⟩
    · obtain ⟨x, hx⟩ := T.hole i hi
      exact ⟨x, (old _ _ (by omega) (by omega)).trans hx⟩
  · intro i hi
    by_cases h : i = k
    · subst h; exact new
    · exact (old _ _ (by omega) (by omega)).trans (T.cell i (by omega))
  · intro i hi
    by_cases h : i = k
    · subst h
      exact ⟨(cl 0).trans rfl, (cl 1).trans rfl, (cl 2).trans rfl, (cl 4).trans rfl, (cl 5).trans rfl, (cl 6).trans rfl, fun j => fz _ (by simp <;> omega)⟩
    · exact (T.cel i (by omega)).of_block (more_block N k _ w (by omega) (by omega))
  · intro i hi
    by_cases h : i = k
    · subst h; exact vi
    · exact (old _ _ (by omega) (by omega)).trans (T.ix i (by omega))

set_option maxRecDepth 100000 in
set_option maxHeartbeats 4000000 in
theorem rows_nil (n : Nat) (w : World) (h : n ≤ 1000) : Calls Try.prog 16 #[.int .i64 n, .nilFunc] w fun e w' => e = .returned (.pointer (some ⟨w.heap.size + 1, 0, none⟩)) ∧
    Below w.heap.size w w' ∧ Tab w.heap.size n n (.func (.func 52) #[] #[]) w' := by
  have h1 : decide ((n : Int) < 0) = false := by simp
  have h2 : decide (65536 < (n : Int)) = false := by simp; omega
  have q0 := row_eql_nil
  have hmk := run_make_row' (P := Try.prog) 25 26 (.pointer none) 8 Try.underlying25 cells_info rfl .i64 .i64 n (by omega) (by omega)
  have hmf : ∀ (fn : Fn) (first cap : Array Value) (w : World), (Instr.makeFunc fn first cap).run Try.prog w = .ok (.func fn first cap) w := fun _ _ _ _ => rfl
  go_enter Try.func16, Try.ntmps16
  go_wp2_with fail
  obtain ⟨w0, hw0⟩ : ∃ w0, (((w.alloc (.cells #[.func (.func 52) #[] #[]] 32)).alloc (.cells #[.slice none 0 0, .int .i64 0] 104)).alloc (.cells #[.pointer (some ⟨w.heap.size + 1, 0, none⟩)] 30)) = w0 := ⟨_, rfl⟩
  have s0 : w0.heap.size = w.heap.size + 3 := by rw [← hw0]; simp
  have b0 : Below w.heap.size w w0 := by rw [← hw0]; exact (((Below.refl w.heap.size w).alloc (Nat.le_refl _) _).alloc (by simp) _).alloc (by simp <;> omega) _
  have z0 : ∀ a : Addr, w.heap.size ≤ a.block → w0.frozen? a = false := by
    intro a ha
    rw [← hw0, frozen?_alloc_cells, frozen?_alloc_cells, frozen?_alloc_cells]
    exact fresh_free ha
  have t0 : w0.cell? ⟨w.heap.size + 2, 0, none⟩ = some (.pointer (some ⟨w.heap.size + 1, 0, none⟩)) := by
    have := cell_new ((w.alloc (.cells #[.func (.func 52) #[] #[]] 32)).alloc (.cells #[.slice none 0 0, .int .i64 0] 104)) (.pointer (some ⟨w.heap.size + 1, 0, none⟩)) 30
    rw [hw0] at this
    simpa using this
  have r0 : w0.cell? ⟨w.heap.size + 1, 0, none⟩ = some (.slice none 0 0) := by
    rw [← hw0, World.cell?_alloc_past _ _ _ (by simp)]
    simp
  have m0 : w0.cell? ⟨w.heap.size + 1, 1, none⟩ = some (.int .i64 0) := by
    rw [← hw0, World.cell?_alloc_past _ _ _ (by simp)]
    simp
  have f0 : w0.cell? ⟨w.heap.size, 0, none⟩ = some (.func (.func 52) #[] #[]) := by
    rw [← hw0, World.cell?_alloc_past _ _ _ (by simp <;> omega), World.cell?_alloc_past _ _ _ (by simp)]
    simp
  have z1 := z0 ⟨w.heap.size + 1, 0, none⟩ (by simp)
  rw [show w.heap.size + 1 + 1 = w.heap.size + 2 from rfl, hw0]
  clear hw0
  have hfa : ∀ (w : World) (c : Array Value) (t : TypeId) (a : Addr), (w.alloc (.cells c t)).frozen? a = w.frozen? a := frozen?_alloc_cells
  have hr : ∀ (cs : Array Value) (T : TypeId), (w0.alloc (.cells cs T)).cell? ⟨w.heap.size + 1, 0, none⟩ = some (.slice none 0 0) := fun cs T => by
    rw [World.cell?_alloc_past _ _ _ (by rw [s0]; simp)]
    exact r0
  go_region_held3 (fun w' => w'.cell? ⟨w.heap.size + 2, 0, none⟩ = some (.pointer (some ⟨w.heap.size + 1, 0, none⟩)) ∧ w'.frozen? ⟨w.heap.size + 1, 0, none⟩ = false) (first | exact ⟨t0, z1⟩ | go_keep) (fail)
  obtain ⟨w1, hw1⟩ : ∃ w1, ((w0.setCell ⟨w.heap.size + 1, 0, none⟩ (.slice (some ⟨w.heap.size + 3, 0, none⟩) n n)).alloc (.cells (madeCells #[.pointer none] n) 26)).drew = w1 := ⟨_, rfl⟩
  have old : ∀ b o, b < w.heap.size + 3 → ¬ (b = w.heap.size + 1 ∧ o = 0) → w1.cell? ⟨b, o, none⟩ = w0.cell? ⟨b, o, none⟩ := by
    intro b o hb hne
    rw [← hw1, World.cell?_drew, World.cell?_alloc_past _ _ _ (by simp <;> omega)]
    exact World.cell?_setCell_other _ ⟨w.heap.size + 1, 0, none⟩ ⟨b, o, none⟩ _ (fun e => hne (by injection e with e1 e2 e3; exact ⟨e1.symm, e2.symm⟩))
  have T0 : Tab w.heap.size n 0 (.func (.func 52) #[] #[]) w1 := by
    refine ⟨?_, (old _ _ (by omega) (by omega)).trans t0, (old _ _ (by omega) (by omega)).trans f0, ?_, (old _ _ (by omega) (by omega)).trans m0, ?_, ?_, fun i hi => by omega, fun i hi => by omega, fun i hi => by omega⟩
    · rw [← hw1]; simp [s0]
    · rw [← hw1, World.cell?_drew, World.cell?_alloc_past _ _ _ (by simp [s0])]
      exact World.cell?_setCell_same _ _ _ r0
    · intro a ha
      rw [← hw1]
      simp [hfa, z0 a ha]
    · intro i hi
      refine ⟨(madeCells #[.pointer none] n)[i]'(by rw [size_madeCells]; exact hi), ?_⟩
      rw [← hw1, World.cell?_drew, World.cell?_alloc_at _ _ _ _ (by simp [s0])]
      exact Array.getElem?_eq_getElem _
  have B0 : Below w.heap.size w w1 := by
    rw [← hw1]
    exact (b0.trans (((Below.refl _ _).setCell (p := ⟨w.heap.size + 1, 0, none⟩) (by simp) _).alloc (by simp <;> omega) _)).drew
  rw [hw1]
  clear hw1 old hr z1 f0 m0 r0 t0 z0 b0 s0
  rename_i hHeld
  clear hHeld
  go_wp2_with fail
  go_loopw [24] (fun i wr => ∃ k : Nat, k ≤ n ∧ i = .int .i64 k ∧ Below w.heap.size w wr ∧ Tab w.heap.size n k (.func (.func 52) #[] #[]) wr) (fun i _ => n - (intOf i).toNat)
  case atStart => exact ⟨0, Nat.zero_le _, rfl, B0, T0⟩
  case round =>
    clear T0 B0
    obtain ⟨k, hk, rfl, hB, T⟩ := hrel
    by_cases hlt : k < n
    · have hl : decide ((k : Int) < (n : Int)) = true := by simp; omega
      have hs := T.size
      have hz : wr.frozen? ⟨w.heap.size + 4 + 2 * k, 0, none⟩ = false := T.free _ (by simp <;> omega)
      go_wp2_with fail
      have t1 : (wr.alloc (.cells #[.int .i64 k] 3)).cell? ⟨w.heap.size + 2, 0, none⟩ = some (.pointer (some ⟨w.heap.size + 1, 0, none⟩)) := (World.cell?_alloc_past _ _ _ (by omega)).trans T.t
      have r1 : (wr.alloc (.cells #[.int .i64 k] 3)).cell? ⟨w.heap.size + 1, 0, none⟩ = some (.slice (some ⟨w.heap.size + 3, 0, none⟩) n n) := (World.cell?_alloc_past _ _ _ (by omega)).trans T.rows
      have i1 : (wr.alloc (.cells #[.int .i64 k] 3)).cell? ⟨w.heap.size + 4 + 2 * k, 0, none⟩ = some (.int .i64 k) := by
        rw [World.cell?_alloc_at _ _ _ _ hs.symm]
        rfl
      have z1 : (wr.alloc (.cells #[.int .i64 k] 3)).frozen? ⟨w.heap.size + 3, k, none⟩ = false := (hfa _ _ _ _).trans (T.free _ (by simp <;> omega))
      have n1 := T.next hlt
      obtain ⟨x, hx⟩ := T.hole k hlt
      have x1 : ∀ (cs : Array Value) (T : TypeId), ((wr.alloc (.cells #[.int .i64 k] 3)).alloc (.cells cs T)).cell? ⟨w.heap.size + 3, k, none⟩ = some x := fun cs T => by
        rw [World.cell?_alloc_past _ _ _ (by simp <;> omega), World.cell?_alloc_past _ _ _ (by omega)]
        exact hx
      have hsz : (wr.alloc (.cells #[.int .i64 k] 3)).heap.size = w.heap.size + 5 + 2 * k := by simp [hs] <;> omega
      obtain ⟨wa, hwa⟩ : ∃ wa, wr.alloc (.cells #[.int .i64 k] 3) = wa := ⟨_, rfl⟩
      rw [hwa] at t1 r1 i1 z1 x1 hsz ⊢
      have hk0 : (0 : Int) ≤ (k : Int) := by omega
      have hkn : (k : Int) < (n : Int) := by omega
      have hn1 : ¬ w.heap.size + 3 = w.heap.size + 4 + 2 * k := by omega
      have hn2 : (⟨w.heap.size + 3, k, none⟩ : Addr) ≠ ⟨w.heap.size + 4 + 2 * k, 0, none⟩ := fun e => by injection e with e1; omega
      clear T
      go_region_held3 (fun w' => w'.cell? ⟨w.heap.size + 2, 0, none⟩ = some (.pointer (some ⟨w.heap.size + 1, 0, none⟩)) ∧ w'.cell? ⟨w.heap.size + 1, 0, none⟩ = some (.slice (some ⟨w.heap.size + 3, 0, none⟩) n n) ∧ w'.cell? ⟨w.heap.size + 4 + 2 * k, 0, none⟩ = some (.int .i64 k) ∧ w'.frozen? ⟨w.heap.size + 3, k, none⟩ = false) (first | exact ⟨t1, r1, i1, z1⟩ | go_keep)
        (first | (go_at_call 12; refine (new_fn _ _ _ _).mono ?_; rintro e w' ⟨rfl, rfl⟩))
      rename_i hHeld
      clear hHeld t1 r1 i1 z1 x1
      subst hwa
      change Exit.inBlock 1 _ Exit.normal _ (more w.heap.size k wr)
      have hB' : Below w.heap.size w (more w.heap.size k wr) := hB.trans ((more_only w.heap.size k wr).toBelow hB.size fun j hj => by omega)
      generalize more w.heap.size k wr = w2 at n1 hB' ⊢
      go_wp2_with fail
      go_roundw
      case rel => exact ⟨k + 1, by omega, by go_num, hB', n1⟩
      case measure => simp [intOf]; omega
    · obtain rfl : k = n := by omega
      have ht := T.t
      go_wp2_with fail
      go_ret
      exact ⟨rfl, hB, T⟩
end Go.Proofs.Ytfakgemifbgafaa

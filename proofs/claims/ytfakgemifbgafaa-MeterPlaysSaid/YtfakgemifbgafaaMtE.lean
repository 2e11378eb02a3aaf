/- The calls of a meter on a counter that there is. -/
import Derived.Test.YtfakgemifbgafaaMtD
namespace Go.Proofs.Ytfakgemifbgafaa
open Go.RowKit

theorem nat_of {i : Int} (h : 0 ≤ i) : ∃ k : Nat, i = (k : Int) := ⟨i.toNat, by omega⟩

theorem below_drew {B : Nat} {a w : World} (h : Below B a w) (n : Nat) : Below B a (w.drewN n) := h.trans ⟨rfl, rfl, rfl, Nat.le_refl _, fun _ _ => rfl⟩

section inside
variable (b : Nat) (vs : List Int) (i : Nat) (x y : Int) (w : World) (M : Met b vs w) (hi : i < vs.length) (hy : vs.getD i 0 = y)
include M hi hy

set_option maxRecDepth 100000 in
theorem get_in : Calls Try.prog 30 #[.pointer (some ⟨b, 0, none⟩), .int .i64 (i : Int)] w fun e w' => e = .returned (.int .u64 y) ∧ w = w' := by
  have hl := load_u64 ⟨b, 1 + i, none⟩ _ w (M.v i hi)
  rw [hy] at hl
  have hf := M.few
  have hh := has_yes b vs i w M hi
  have i0 : (0 : Int) ≤ (i : Int) := by omega
  have i16 : (i : Int) < 16 := by omega
  clear hy
  go_enter Try.func30, Try.ntmps30
  go_wp2_with (first
    | (go_at_call 66; refine hh.mono ?_; rintro e w' ⟨rfl, rfl⟩)
    | (go_at_call 60; refine hl.mono ?_; rintro e w' ⟨rfl, rfl⟩))
  go_ret
  exact ⟨rfl, rfl⟩

set_option maxRecDepth 100000 in
theorem add_ok (h0 : 0 ≤ x) (h1 : y + x ≤ TOP) : Calls Try.prog 29 #[.pointer (some ⟨b, 0, none⟩), .int .i64 (i : Int), .int .u64 x] w fun e w' => e = .returned (.tuple #[.int .u64 (y + x), .int .i64 0]) ∧ (Only (· = b) w w' ∧ Met b (vs.set i (y + x)) w' ∧ w'.heap.size = w.heap.size + 1) := by
  have hmf : ∀ (fn : Fn) (first cap : Array Value) (w : World), (Instr.makeFunc fn first cap).run Try.prog w = .ok (.func fn first cap) w := fun _ _ _ _ => rfl
  have lo := M.at_low i hi
  rw [hy] at lo
  have M1 := M.kept (alloc_b w (.cells #[.int .u64 x] 42))
  have hC := change_ok b vs i 65 #[.pointer (some ⟨w.heap.size, 0, none⟩)] y (y + x) _ M1 (by rw [M1.v i hi, hy]) hi (fun _ => by first | rfl | kernel_rfl | simp [go_sem])
    ((add1_ok ⟨w.heap.size, 0, none⟩ y x _ (by simp) lo.1 h0 h1).mono fun e w' h => ⟨h.1, 0, h.2.symm⟩)
  have fin : ∀ n, Only (· = b) w (((w.alloc (.cells #[.int .u64 x] 42)).drewN n).setCell ⟨b, 1 + i, none⟩ (.int .u64 (y + x))) ∧ Met b (vs.set i (y + x)) (((w.alloc (.cells #[.int .u64 x] 42)).drewN n).setCell ⟨b, 1 + i, none⟩ (.int .u64 (y + x))) ∧
      (((w.alloc (.cells #[.int .u64 x] 42)).drewN n).setCell ⟨b, 1 + i, none⟩ (.int .u64 (y + x))).heap.size = w.heap.size + 1 :=
    fun n => ⟨((Only.below (alloc_b _ _)).drewN n).setCell _ _ rfl, (M1.drewN n).set i hi _ (by omega) h1, by simp⟩
  clear hy lo M1 M
  go_enter Try.func29, Try.ntmps29
  go_wp2_with (go_at_call 61; refine hC.mono ?_; rintro e w' ⟨rfl, nd, rfl⟩)
  go_ret2
  exact ⟨rfl, fin nd⟩
set_option maxRecDepth 100000 in
theorem add_big (h0 : 0 ≤ x) (h1 : TOP < y + x) : Calls Try.prog 29 #[.pointer (some ⟨b, 0, none⟩), .int .i64 (i : Int), .int .u64 x] w fun e w' => e = .returned (.tuple #[.int .u64 0, .int .i64 10]) ∧ Below w.heap.size w w' := by
  have hmf : ∀ (fn : Fn) (first cap : Array Value) (w : World), (Instr.makeFunc fn first cap).run Try.prog w = .ok (.func fn first cap) w := fun _ _ _ _ => rfl
  have lo := M.at_low i hi
  rw [hy] at lo
  have M1 := M.kept (alloc_b w (.cells #[.int .u64 x] 42))
  have hC := change_no b vs i 65 #[.pointer (some ⟨w.heap.size, 0, none⟩)] 10 y 0 _ M1 (by rw [M1.v i hi, hy]) hi (fun _ => by first | rfl | kernel_rfl | simp [go_sem])
    ((add1_no ⟨w.heap.size, 0, none⟩ y x _ (by simp) lo.1 lo.2 h1).mono fun e w' h => ⟨h.1, 0, h.2.symm⟩) (by decide)
  have fin : ∀ n, Below w.heap.size w ((w.alloc (.cells #[.int .u64 x] 42)).drewN n) := fun n => below_drew (alloc_b _ _) n
  clear hy lo M1 M
  go_enter Try.func29, Try.ntmps29
  go_wp2_with (go_at_call 61; refine hC.mono ?_; rintro e w' ⟨rfl, nd, rfl⟩)
  go_ret2
  exact ⟨rfl, fin nd⟩
set_option maxRecDepth 100000 in
theorem swap_ok (h0 : 0 ≤ x) (h1 : x ≤ TOP) : Calls Try.prog 28 #[.pointer (some ⟨b, 0, none⟩), .int .i64 (i : Int), .int .u64 x] w fun e w' => e = .returned (.tuple #[.int .u64 y, .int .i64 0]) ∧ (Only (· = b) w w' ∧ Met b (vs.set i x) w' ∧ w'.heap.size = w.heap.size + 1) := by
  have hmf : ∀ (fn : Fn) (first cap : Array Value) (w : World), (Instr.makeFunc fn first cap).run Try.prog w = .ok (.func fn first cap) w := fun _ _ _ _ => rfl
  have M1 := M.kept (alloc_b w (.cells #[.int .u64 x] 42))
  have hC := change_ok b vs i 63 #[.pointer (some ⟨w.heap.size, 0, none⟩)] y x _ M1 (by rw [M1.v i hi, hy]) hi (fun _ => by first | rfl | kernel_rfl | simp [go_sem])
    (swap1_any ⟨w.heap.size, 0, none⟩ y x 0 _ (by simp) fun w => within_ok x w h1)
  have fin : ∀ n, Only (· = b) w (((w.alloc (.cells #[.int .u64 x] 42)).drewN n).setCell ⟨b, 1 + i, none⟩ (.int .u64 x)) ∧ Met b (vs.set i x) (((w.alloc (.cells #[.int .u64 x] 42)).drewN n).setCell ⟨b, 1 + i, none⟩ (.int .u64 x)) ∧
      (((w.alloc (.cells #[.int .u64 x] 42)).drewN n).setCell ⟨b, 1 + i, none⟩ (.int .u64 x)).heap.size = w.heap.size + 1 :=
    fun n => ⟨((Only.below (alloc_b _ _)).drewN n).setCell _ _ rfl, (M1.drewN n).set i hi _ h0 h1, by simp⟩
  clear hy M1 M
  go_enter Try.func28, Try.ntmps28
  go_wp2_with (go_at_call 61; refine hC.mono ?_; rintro e w' ⟨rfl, nd, rfl⟩)
  go_ret2
  exact ⟨rfl, fin nd⟩
set_option maxRecDepth 100000 in
theorem swap_big (h1 : TOP < x) : Calls Try.prog 28 #[.pointer (some ⟨b, 0, none⟩), .int .i64 (i : Int), .int .u64 x] w fun e w' => e = .returned (.tuple #[.int .u64 0, .int .i64 10]) ∧ Below w.heap.size w w' := by
  have hmf : ∀ (fn : Fn) (first cap : Array Value) (w : World), (Instr.makeFunc fn first cap).run Try.prog w = .ok (.func fn first cap) w := fun _ _ _ _ => rfl
  have M1 := M.kept (alloc_b w (.cells #[.int .u64 x] 42))
  have hC := change_no b vs i 63 #[.pointer (some ⟨w.heap.size, 0, none⟩)] 10 y x _ M1 (by rw [M1.v i hi, hy]) hi (fun _ => by first | rfl | kernel_rfl | simp [go_sem])
    (swap1_any ⟨w.heap.size, 0, none⟩ y x 10 _ (by simp) fun w => within_no x w h1) (by decide)
  have fin : ∀ n, Below w.heap.size w ((w.alloc (.cells #[.int .u64 x] 42)).drewN n) := fun n => below_drew (alloc_b _ _) n
  clear hy M1 M
  go_enter Try.func28, Try.ntmps28
  go_wp2_with (go_at_call 61; refine hC.mono ?_; rintro e w' ⟨rfl, nd, rfl⟩)
  go_ret2
  exact ⟨rfl, fin nd⟩
set_option maxRecDepth 100000 in
theorem raise_ok (h0 : 0 ≤ x) (h1 : x ≤ TOP) : Calls Try.prog 31 #[.pointer (some ⟨b, 0, none⟩), .int .i64 (i : Int), .int .u64 x] w fun e w' => e = .returned (.int .i64 0) ∧ (Only (· = b) w w' ∧ Met b (vs.set i (if x < y then y else x)) w' ∧ w'.heap.size = w.heap.size + 1) := by
  have hmf : ∀ (fn : Fn) (first cap : Array Value) (w : World), (Instr.makeFunc fn first cap).run Try.prog w = .ok (.func fn first cap) w := fun _ _ _ _ => rfl
  have lo := M.at_low i hi
  rw [hy] at lo
  have M1 := M.kept (alloc_b w (.cells #[.int .u64 x] 42))
  have hR := raise1_any ⟨w.heap.size, 0, none⟩ y x 0 (w.alloc (.cells #[.int .u64 x] 42)) (by simp) fun w => within_ok x w h1
  obtain ⟨u, hu⟩ : ∃ u, (if x < y then y else x) = u := ⟨_, rfl⟩
  rw [hu] at hR ⊢
  have hu0 : 0 ≤ u ∧ u ≤ TOP := by
    rw [← hu]
    by_cases h : x < y
    · rw [if_pos h]; exact lo
    · rw [if_neg h]; exact ⟨h0, h1⟩
  have hC := change_ok b vs i 67 #[.pointer (some ⟨w.heap.size, 0, none⟩)] y u _ M1 (by rw [M1.v i hi, hy]) hi (fun _ => by first | rfl | kernel_rfl | simp [go_sem]) hR
  have fin : ∀ n, Only (· = b) w (((w.alloc (.cells #[.int .u64 x] 42)).drewN n).setCell ⟨b, 1 + i, none⟩ (.int .u64 u)) ∧ Met b (vs.set i u) (((w.alloc (.cells #[.int .u64 x] 42)).drewN n).setCell ⟨b, 1 + i, none⟩ (.int .u64 u)) ∧
      (((w.alloc (.cells #[.int .u64 x] 42)).drewN n).setCell ⟨b, 1 + i, none⟩ (.int .u64 u)).heap.size = w.heap.size + 1 :=
    fun n => ⟨((Only.below (alloc_b _ _)).drewN n).setCell _ _ rfl, (M1.drewN n).set i hi _ hu0.1 hu0.2, by simp⟩
  clear hy M1 M hu lo hR hu0
  go_enter Try.func31, Try.ntmps31
  go_wp2_with (go_at_call 61; refine hC.mono ?_; rintro e w' ⟨rfl, nd, rfl⟩)
  go_ret
  exact ⟨rfl, fin nd⟩
set_option maxRecDepth 100000 in
theorem raise_big (h1 : TOP < x) : Calls Try.prog 31 #[.pointer (some ⟨b, 0, none⟩), .int .i64 (i : Int), .int .u64 x] w fun e w' => e = .returned (.int .i64 10) ∧ Below w.heap.size w w' := by
  have hmf : ∀ (fn : Fn) (first cap : Array Value) (w : World), (Instr.makeFunc fn first cap).run Try.prog w = .ok (.func fn first cap) w := fun _ _ _ _ => rfl
  have M1 := M.kept (alloc_b w (.cells #[.int .u64 x] 42))
  have hR := raise1_any ⟨w.heap.size, 0, none⟩ y x 10 (w.alloc (.cells #[.int .u64 x] 42)) (by simp) fun w => within_no x w h1
  obtain ⟨u, hu⟩ : ∃ u, (if x < y then y else x) = u := ⟨_, rfl⟩
  rw [hu] at hR
  have hC := change_no b vs i 67 #[.pointer (some ⟨w.heap.size, 0, none⟩)] 10 y u _ M1 (by rw [M1.v i hi, hy]) hi (fun _ => by first | rfl | kernel_rfl | simp [go_sem]) hR (by decide)
  have fin : ∀ n, Below w.heap.size w ((w.alloc (.cells #[.int .u64 x] 42)).drewN n) := fun n => below_drew (alloc_b _ _) n
  clear hy M1 M hu hR
  go_enter Try.func31, Try.ntmps31
  go_wp2_with (go_at_call 61; refine hC.mono ?_; rintro e w' ⟨rfl, nd, rfl⟩)
  go_ret
  exact ⟨rfl, fin nd⟩
set_option maxRecDepth 100000 in
theorem once_yes (h : y = 0) : Calls Try.prog 27 #[.pointer (some ⟨b, 0, none⟩), .int .i64 (i : Int)] w fun e w' => e = .returned (.bool true) ∧ (Only (· = b) w w' ∧ Met b (vs.set i 1) w' ∧ w'.heap.size = w.heap.size) := by
  have hmf : ∀ (fn : Fn) (first cap : Array Value) (w : World), (Instr.makeFunc fn first cap).run Try.prog w = .ok (.func fn first cap) w := fun _ _ _ _ => rfl
  have hv := M.v i hi
  rw [hy, h] at hv
  have hC := change_ok b vs i 62 #[] 0 1 w M hv hi (fun _ => by first | rfl | kernel_rfl | simp [go_sem])
    ((once1_any 0 w (by decide)).mono fun e w' h => ⟨h.1, 0, h.2.symm⟩)
  have fin : ∀ n, Only (· = b) w ((w.drewN n).setCell ⟨b, 1 + i, none⟩ (.int .u64 1)) ∧ Met b (vs.set i 1) ((w.drewN n).setCell ⟨b, 1 + i, none⟩ (.int .u64 1)) ∧ ((w.drewN n).setCell ⟨b, 1 + i, none⟩ (.int .u64 1)).heap.size = w.heap.size :=
    fun n => ⟨((Only.refl (fun k => k = b) w).drewN n).setCell _ _ rfl, (M.drewN n).set i hi _ (by decide) (by unfold TOP; decide), by simp⟩
  clear hy hv M
  go_enter Try.func27, Try.ntmps27
  go_wp2_with (go_at_call 61; refine hC.mono ?_; rintro e w' ⟨rfl, nd, rfl⟩)
  go_ret
  exact ⟨rfl, fin nd⟩
set_option maxRecDepth 100000 in
theorem once_no (h : ¬ y = 0) : Calls Try.prog 27 #[.pointer (some ⟨b, 0, none⟩), .int .i64 (i : Int)] w fun e w' => e = .returned (.bool false) ∧ (Only (· = b) w w' ∧ Met b vs w' ∧ w'.heap.size = w.heap.size) := by
  have hmf : ∀ (fn : Fn) (first cap : Array Value) (w : World), (Instr.makeFunc fn first cap).run Try.prog w = .ok (.func fn first cap) w := fun _ _ _ _ => rfl
  have lo := M.at_low i hi
  rw [hy] at lo
  have hv := M.v i hi
  rw [hy] at hv
  have ho := once1_any y w lo.1
  rw [if_neg h] at ho
  have hC := change_ok b vs i 62 #[] y y w M hv hi (fun _ => by first | rfl | kernel_rfl | simp [go_sem])
    (ho.mono fun e w' h => ⟨h.1, 0, h.2.symm⟩)
  have hs : vs.set i y = vs := by
    rw [← hy]
    apply List.ext_getElem (by simp)
    intro j h1 h2
    simp only [List.getElem_set]
    split
    · rename_i e; subst e; simp [hi]
    · rfl
  have fin : ∀ n, Only (· = b) w ((w.drewN n).setCell ⟨b, 1 + i, none⟩ (.int .u64 y)) ∧ Met b vs ((w.drewN n).setCell ⟨b, 1 + i, none⟩ (.int .u64 y)) ∧ ((w.drewN n).setCell ⟨b, 1 + i, none⟩ (.int .u64 y)).heap.size = w.heap.size :=
    fun n => ⟨((Only.refl (fun k => k = b) w).drewN n).setCell _ _ rfl, by have := (M.drewN n).set i hi y lo.1 lo.2; rwa [hs] at this, by simp⟩
  have hz : (y == 0) = false := by rw [beq_eq_false_iff_ne]; exact h
  have hz' : decide (y = 0) = false := decide_eq_false h
  clear hy hv M lo ho hs h
  go_enter Try.func27, Try.ntmps27
  go_wp2_with (go_at_call 61; refine hC.mono ?_; rintro e w' ⟨rfl, nd, rfl⟩)
  go_ret
  exact ⟨rfl, fin nd⟩
end inside
end Go.Proofs.Ytfakgemifbgafaa

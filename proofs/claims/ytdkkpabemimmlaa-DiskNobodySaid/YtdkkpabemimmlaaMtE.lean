/- The calls of a meter on a counter that there is. -/
import Derived.Test.YtdkkpabemimmlaaMtD
namespace Go.Proofs.Ytdkkpabemimmlaa
open Go.RowKit

theorem nat_of {i : Int} (h : 0 ≤ i) : ∃ k : Nat, i = (k : Int) := ⟨i.toNat, by omega⟩

theorem below_drew {B : Nat} {a w : World} (h : Below B a w) (n : Nat) : Below B a (w.drewN n) := h.trans ⟨rfl, rfl, rfl, Nat.le_refl _, fun _ _ => rfl⟩

section inside
variable (b : Nat) (vs : List Int) (i : Nat) (x y : Int) (w : World) (M : Met b vs w) (hi : i < vs.length) (hy : vs.getD i 0 = y)
include M hi hy

set_option maxRecDepth 100000 in
theorem get_in : Calls Try.prog 68 #[.pointer (some ⟨b, 0, none⟩), .int .i64 (i : Int)] w fun e w' => e = .returned (.int .u64 y) ∧ w = w' := by
  have hl := load_u64 ⟨b, 1 + i, none⟩ _ w (M.v i hi)
  rw [hy] at hl
  have hf := M.few
  have hh := has_yes b vs i w M hi
  have i0 : (0 : Int) ≤ (i : Int) := by omega
  have i16 : (i : Int) < 16 := by omega
  clear hy
  go_enter Try.func68, Try.ntmps68
  go_wp2_with (first
    | (go_at_call 108; refine hh.mono ?_; rintro e w' ⟨rfl, rfl⟩)
    | (go_at_call 109; refine hl.mono ?_; rintro e w' ⟨rfl, rfl⟩))
  go_ret
  exact ⟨rfl, rfl⟩

set_option maxRecDepth 100000 in
theorem add_ok (h0 : 0 ≤ x) (h1 : y + x ≤ TOP) : Calls Try.prog 111 #[.pointer (some ⟨b, 0, none⟩), .int .i64 (i : Int), .int .u64 x] w fun e w' => e = .returned (.tuple #[.int .u64 (y + x), .int .i64 0]) ∧ (Only (· = b) w w' ∧ Met b (vs.set i (y + x)) w' ∧ w'.heap.size = w.heap.size + 1) := by
  have hmf : ∀ (fn : Fn) (first cap : Array Value) (w : World), (Instr.makeFunc fn first cap).run Try.prog w = .ok (.func fn first cap) w := fun _ _ _ _ => rfl
  have lo := M.at_low i hi
  rw [hy] at lo
  have M1 := M.kept (alloc_b w (.cells #[.int .u64 x] 28))
  have hC := change_ok b vs i 146 #[.pointer (some ⟨w.heap.size, 0, none⟩)] y (y + x) _ M1 (by rw [M1.v i hi, hy]) hi (fun _ => by first | rfl | kernel_rfl | simp [go_sem])
    ((add1_ok ⟨w.heap.size, 0, none⟩ y x _ (by simp) lo.1 h0 h1).mono fun e w' h => ⟨h.1, 0, h.2.symm⟩)
  have fin : ∀ n, Only (· = b) w (((w.alloc (.cells #[.int .u64 x] 28)).drewN n).setCell ⟨b, 1 + i, none⟩ (.int .u64 (y + x))) ∧ Met b (vs.set i (y + x)) (((w.alloc (.cells #[.int .u64 x] 28)).drewN n).setCell ⟨b, 1 + i, none⟩ (.int .u64 (y + x))) ∧
      (((w.alloc (.cells #[.int .u64 x] 28)).drewN n).setCell ⟨b, 1 + i, none⟩ (.int .u64 (y + x))).heap.size = w.heap.size + 1 :=
    fun n => ⟨((Only.below (alloc_b _ _)).drewN n).setCell _ _ rfl, (M1.drewN n).set i hi _ (by omega) h1, by simp⟩
  clear hy lo M1 M
  go_enter Try.func111, Try.ntmps111
  go_wp2_with (go_at_call 145; refine hC.mono ?_; rintro e w' ⟨rfl, nd, rfl⟩)
  go_ret2
  exact ⟨rfl, fin nd⟩
set_option maxRecDepth 100000 in
theorem add_big (h0 : 0 ≤ x) (h1 : TOP < y + x) : Calls Try.prog 111 #[.pointer (some ⟨b, 0, none⟩), .int .i64 (i : Int), .int .u64 x] w fun e w' => e = .returned (.tuple #[.int .u64 0, .int .i64 10]) ∧ Below w.heap.size w w' := by
  have hmf : ∀ (fn : Fn) (first cap : Array Value) (w : World), (Instr.makeFunc fn first cap).run Try.prog w = .ok (.func fn first cap) w := fun _ _ _ _ => rfl
  have lo := M.at_low i hi
  rw [hy] at lo
  have M1 := M.kept (alloc_b w (.cells #[.int .u64 x] 28))
  have hC := change_no b vs i 146 #[.pointer (some ⟨w.heap.size, 0, none⟩)] 10 y 0 _ M1 (by rw [M1.v i hi, hy]) hi (fun _ => by first | rfl | kernel_rfl | simp [go_sem])
    ((add1_no ⟨w.heap.size, 0, none⟩ y x _ (by simp) lo.1 lo.2 h1).mono fun e w' h => ⟨h.1, 0, h.2.symm⟩) (by decide)
  have fin : ∀ n, Below w.heap.size w ((w.alloc (.cells #[.int .u64 x] 28)).drewN n) := fun n => below_drew (alloc_b _ _) n
  clear hy lo M1 M
  go_enter Try.func111, Try.ntmps111
  go_wp2_with (go_at_call 145; refine hC.mono ?_; rintro e w' ⟨rfl, nd, rfl⟩)
  go_ret2
  exact ⟨rfl, fin nd⟩
end inside
end Go.Proofs.Ytdkkpabemimmlaa

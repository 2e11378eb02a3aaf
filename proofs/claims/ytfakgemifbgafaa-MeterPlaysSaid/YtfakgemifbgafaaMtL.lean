/- One call both ways. -/
import Derived.Test.YtfakgemifbgafaaMtK
namespace Go.Proofs.Ytfakgemifbgafaa
open Go.RowKit

/-- Behind one call both ways. -/
def Did (S : Value → World → Prop) (e : Ending) (w' : World) : Prop := ∃ v', e = .returned (.tuple #[v', .bool true]) ∧ S v' w'

/-- The world with the call's own cells. -/
def boxed (k i x : Int) (w : World) : World := w.alloc (.cells #[.int .i64 k, .int .i64 i, .int .u64 x] 44)
theorem boxed_cells (k i x : Int) (w w1 : World) (h : Below (boxed k i x w).heap.size (boxed k i x w) w1) :
    w1.cell? ⟨w.heap.size, 0, none⟩ = some (.int .i64 k) ∧ w1.cell? ⟨w.heap.size, 1, none⟩ = some (.int .i64 i) ∧ w1.cell? ⟨w.heap.size, 2, none⟩ = some (.int .u64 x) := by
  have hs : w.heap.size < (boxed k i x w).heap.size := by simp [boxed]
  refine ⟨(h.cell (p := ⟨w.heap.size, 0, none⟩) hs).trans ?_, (h.cell (p := ⟨w.heap.size, 1, none⟩) hs).trans ?_, (h.cell (p := ⟨w.heap.size, 2, none⟩) hs).trans ?_⟩ <;> simp [boxed]

section dos
variable (mv v : Value) (i x f r : Int) (w : World) (R S : Value → World → Prop)
set_option maxRecDepth 100000 in
set_option maxHeartbeats 1600000 in
theorem do_raise (hR : Calls Try.prog 55 #[v, .int .i64 i, .int .u64 x] (boxed 1 i x w) fun e w' => ∃ v', e = .returned (.tuple #[v', .int .i64 f]) ∧ Below (boxed 1 i x w).heap.size (boxed 1 i x w) w' ∧ R v' w')
    (hM : ∀ v' w1, R v' w1 → Calls Try.prog 31 #[mv, .int .i64 i, .int .u64 x] w1 fun e w' => e = .returned (.int .i64 f) ∧ S v' w') :
    Calls Try.prog 23 #[mv, v, .agg #[.int .i64 1, .int .i64 i, .int .u64 x]] w (Did S) := by
  have bx := boxed_cells 1 i x w
  obtain ⟨b0, b1, b2⟩ := bx _ (Below.refl _ _)
  unfold boxed at b0 b1 b2 bx hR
  go_enter Try.func23, Try.ntmps23
  go_wp2_with fail
  refine hR.mono ?_
  rintro e w1 ⟨v', rfl, hB, hS⟩
  obtain ⟨c0, c1, c2⟩ := bx w1 hB
  clear b0 b1 b2 bx hB hR
  go_wp2_with fail
  refine (hM v' w1 hS).mono ?_
  rintro e w2 ⟨rfl, hS2⟩
  go_wp2_with fail
  go_ret2
  exact ⟨v', rfl, hS2⟩
set_option maxRecDepth 100000 in
set_option maxHeartbeats 1600000 in
theorem do_swap (hR : Calls Try.prog 56 #[v, .int .i64 i, .int .u64 x] (boxed 2 i x w) fun e w' => ∃ v', e = .returned (.tuple #[v', .int .u64 r, .int .i64 f]) ∧ Below (boxed 2 i x w).heap.size (boxed 2 i x w) w' ∧ R v' w')
    (hM : ∀ v' w1, R v' w1 → Calls Try.prog 28 #[mv, .int .i64 i, .int .u64 x] w1 fun e w' => e = .returned (.tuple #[.int .u64 r, .int .i64 f]) ∧ S v' w') :
    Calls Try.prog 23 #[mv, v, .agg #[.int .i64 2, .int .i64 i, .int .u64 x]] w (Did S) := by
  have bx := boxed_cells 2 i x w
  obtain ⟨b0, b1, b2⟩ := bx _ (Below.refl _ _)
  unfold boxed at b0 b1 b2 bx hR
  go_enter Try.func23, Try.ntmps23
  go_wp2_with fail
  refine hR.mono ?_
  rintro e w1 ⟨v', rfl, hB, hS⟩
  obtain ⟨c0, c1, c2⟩ := bx w1 hB
  clear b0 b1 b2 bx hB hR
  go_wp2_with fail
  refine (hM v' w1 hS).mono ?_
  rintro e w2 ⟨rfl, hS2⟩
  go_wp2_with fail
  go_ret2
  exact ⟨v', rfl, hS2⟩
set_option maxRecDepth 100000 in
set_option maxHeartbeats 1600000 in
theorem do_once (q : Bool) (hR : Calls Try.prog 57 #[v, .int .i64 i] (boxed 3 i x w) fun e w' => ∃ v', e = .returned (.tuple #[v', .bool q]) ∧ Below (boxed 3 i x w).heap.size (boxed 3 i x w) w' ∧ R v' w')
    (hM : ∀ v' w1, R v' w1 → Calls Try.prog 27 #[mv, .int .i64 i] w1 fun e w' => e = .returned (.bool q) ∧ S v' w') :
    Calls Try.prog 23 #[mv, v, .agg #[.int .i64 3, .int .i64 i, .int .u64 x]] w (Did S) := by
  have bx := boxed_cells 3 i x w
  obtain ⟨b0, b1, b2⟩ := bx _ (Below.refl _ _)
  unfold boxed at b0 b1 b2 bx hR
  go_enter Try.func23, Try.ntmps23
  go_wp2_with fail
  refine hR.mono ?_
  rintro e w1 ⟨v', rfl, hB, hS⟩
  obtain ⟨c0, c1, c2⟩ := bx w1 hB
  clear b0 b1 b2 bx hB hR
  go_wp2_with fail
  refine (hM v' w1 hS).mono ?_
  rintro e w2 ⟨rfl, hS2⟩
  go_wp2_with fail
  go_ret2
  exact ⟨v', rfl, hS2⟩
set_option maxRecDepth 100000 in
set_option maxHeartbeats 1600000 in
theorem do_add (k : Int) (hk : ¬ k = 1 ∧ ¬ k = 2 ∧ ¬ k = 3 ∧ ¬ k = 4) (hR : Calls Try.prog 59 #[v, .int .i64 i, .int .u64 x] (boxed k i x w) fun e w' => ∃ v', e = .returned (.tuple #[v', .int .u64 r, .int .i64 f]) ∧ Below (boxed k i x w).heap.size (boxed k i x w) w' ∧ R v' w')
    (hM : ∀ v' w1, R v' w1 → Calls Try.prog 29 #[mv, .int .i64 i, .int .u64 x] w1 fun e w' => e = .returned (.tuple #[.int .u64 r, .int .i64 f]) ∧ S v' w') :
    Calls Try.prog 23 #[mv, v, .agg #[.int .i64 k, .int .i64 i, .int .u64 x]] w (Did S) := by
  have bx := boxed_cells k i x w
  obtain ⟨b0, b1, b2⟩ := bx _ (Below.refl _ _)
  unfold boxed at b0 b1 b2 bx hR
  have k1 : (k == 1) = false := by rw [beq_eq_false_iff_ne]; omega
  have k2 : (k == 2) = false := by rw [beq_eq_false_iff_ne]; omega
  have k3 : (k == 3) = false := by rw [beq_eq_false_iff_ne]; omega
  have k4 : (k == 4) = false := by rw [beq_eq_false_iff_ne]; omega
  have m1 : decide (k = 1) = false := decide_eq_false (by omega)
  have m2 : decide (k = 2) = false := decide_eq_false (by omega)
  have m3 : decide (k = 3) = false := decide_eq_false (by omega)
  have m4 : decide (k = 4) = false := decide_eq_false (by omega)
  go_enter Try.func23, Try.ntmps23
  go_wp2_with fail
  refine hR.mono ?_
  rintro e w1 ⟨v', rfl, hB, hS⟩
  obtain ⟨c0, c1, c2⟩ := bx w1 hB
  clear b0 b1 b2 bx hB hR
  go_wp2_with fail
  refine (hM v' w1 hS).mono ?_
  rintro e w2 ⟨rfl, hS2⟩
  go_wp2_with fail
  go_ret2
  exact ⟨v', rfl, hS2⟩
set_option maxRecDepth 100000 in
set_option maxHeartbeats 1600000 in
theorem do_get (hR : ∀ q, Calls Try.prog 58 #[v, .int .i64 i] ((boxed 4 i x w).drewN q) fun e w' => e = .returned (.int .u64 r) ∧ (boxed 4 i x w).drewN q = w')
    (hM : ∀ q, Calls Try.prog 30 #[mv, .int .i64 i] ((boxed 4 i x w).drewN q) fun e w' => e = .returned (.int .u64 r) ∧ (boxed 4 i x w).drewN q = w') :
    Calls Try.prog 23 #[mv, v, .agg #[.int .i64 4, .int .i64 i, .int .u64 x]] w (Did fun v' w' => v' = v ∧ Below w.heap.size w w') := by
  have bx := boxed_cells 4 i x w
  obtain ⟨b0, b1, b2⟩ := bx _ (Below.refl _ _)
  unfold boxed at b0 b1 b2 bx hR hM
  clear bx
  have fin : ∀ n, Below w.heap.size w ((w.alloc (.cells #[.int .i64 4, .int .i64 i, .int .u64 x] 44)).drewN n) := fun n => below_drew (alloc_b _ _) n
  go_enter Try.func23, Try.ntmps23
  go_wp2_with fail
  go_quiet (first
    | (go_at_call 58; exact Calls.quiet_of_same ((hR _).mono fun e w' h => ⟨h.1, h.2.symm⟩))
    | (go_at_call 30; exact Calls.quiet_of_same ((hM _).mono fun e w' h => ⟨h.1, h.2.symm⟩)))
  go_wp2_with fail
  go_ret2
  exact ⟨v, rfl, rfl, fin _⟩
end dos
end Go.Proofs.Ytfakgemifbgafaa

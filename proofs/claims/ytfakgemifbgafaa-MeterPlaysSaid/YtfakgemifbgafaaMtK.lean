/- The reference's calls of layer 5. -/
import Derived.Test.YtfakgemifbgafaaMtJ
namespace Go.Proofs.Ytfakgemifbgafaa
open Go.RowKit

section out
variable (N : Nat) (v : Value) (vs : List Int) (i x : Int) (w : World) (W : Wds N v vs w) (h : i < 0 ∨ (vs.length : Int) ≤ i)
include W h
theorem rget_out : Calls Try.prog 58 #[v, .int .i64 i] w fun e w' => e = .returned (.int .u64 0) ∧ w = w' := by
  obtain ⟨g, c, rfl, hne, hf, hc⟩ := W
  go_enter Try.func58, Try.ntmps58
  go_wp2_with (go_at_call 82; refine (is_no _ _ _ _ _ h).mono ?_; rintro e w' ⟨rfl, rfl⟩)
  go_ret
  exact ⟨rfl, rfl⟩
theorem radd_out : Calls Try.prog 59 #[v, .int .i64 i, .int .u64 x] w fun e w' => e = .returned (.tuple #[v, .int .u64 0, .int .i64 2]) ∧ w = w' := by
  obtain ⟨g, c, rfl, hne, hf, hc⟩ := W
  go_enter Try.func59, Try.ntmps59
  go_wp2_with (go_at_call 82; refine (is_no _ _ _ _ _ h).mono ?_; rintro e w' ⟨rfl, rfl⟩)
  go_ret3
  exact ⟨rfl, rfl⟩
theorem rswap_out : Calls Try.prog 56 #[v, .int .i64 i, .int .u64 x] w fun e w' => e = .returned (.tuple #[v, .int .u64 0, .int .i64 2]) ∧ w = w' := by
  obtain ⟨g, c, rfl, hne, hf, hc⟩ := W
  go_enter Try.func56, Try.ntmps56
  go_wp2_with (go_at_call 82; refine (is_no _ _ _ _ _ h).mono ?_; rintro e w' ⟨rfl, rfl⟩)
  go_ret3
  exact ⟨rfl, rfl⟩
theorem rraise_out : Calls Try.prog 55 #[v, .int .i64 i, .int .u64 x] w fun e w' => e = .returned (.tuple #[v, .int .i64 2]) ∧ w = w' := by
  obtain ⟨g, c, rfl, hne, hf, hc⟩ := W
  go_enter Try.func55, Try.ntmps55
  go_wp2_with (go_at_call 82; refine (is_no _ _ _ _ _ h).mono ?_; rintro e w' ⟨rfl, rfl⟩)
  go_ret2
  exact ⟨rfl, rfl⟩
theorem ronce_out : Calls Try.prog 57 #[v, .int .i64 i] w fun e w' => e = .returned (.tuple #[v, .bool false]) ∧ w = w' := by
  obtain ⟨g, c, rfl, hne, hf, hc⟩ := W
  go_enter Try.func57, Try.ntmps57
  go_wp2_with (go_at_call 82; refine (is_no _ _ _ _ _ h).mono ?_; rintro e w' ⟨rfl, rfl⟩)
  go_ret2
  exact ⟨rfl, rfl⟩
end out

/-- What a call of the reference that turns count i leaves. -/
def Turned (N : Nat) (vs : List Int) (w : World) (f : Value → Value) (e : Ending) (w' : World) : Prop := ∃ v', e = .returned (f v') ∧ Below w.heap.size w w' ∧ Wds N v' vs w'

section inside
variable (N : Nat) (v : Value) (vs : List Int) (i : Nat) (x y : Int) (w : World) (W : Wds N v vs w) (hi : i < vs.length) (hy : vs.getD i 0 = y)
include W hi hy
theorem rget_in : Calls Try.prog 58 #[v, .int .i64 (i : Int)] w fun e w' => e = .returned (.int .u64 y) ∧ w = w' := by
  obtain ⟨g, c, rfl, hne, hf, hc⟩ := W
  have h0 := hc i hi
  rw [hy] at h0
  have n0 : (0 : Int) ≤ (i : Int) := by omega
  have n1 : (i : Int) < (vs.length : Int) := by omega
  clear hy hc
  go_enter Try.func58, Try.ntmps58
  go_wp2_with (go_at_call 82; refine (is_yes _ _ _ _ _ hi).mono ?_; rintro e w' ⟨rfl, rfl⟩)
  go_ret
  exact ⟨rfl, rfl⟩
theorem ronce_no (h : ¬ y = 0) : Calls Try.prog 57 #[v, .int .i64 (i : Int)] w fun e w' => e = .returned (.tuple #[v, .bool false]) ∧ w = w' := by
  obtain ⟨g, c, rfl, hne, hf, hc⟩ := W
  have h0 := hc i hi
  rw [hy] at h0
  have n0 : (0 : Int) ≤ (i : Int) := by omega
  have n1 : (i : Int) < (vs.length : Int) := by omega
  have z1 : (y != 0) = true := by simp [h]
  clear hy hc
  go_enter Try.func57, Try.ntmps57
  go_wp2_with (go_at_call 82; refine (is_yes _ _ _ _ _ hi).mono ?_; rintro e w' ⟨rfl, rfl⟩)
  go_ret2
  exact ⟨rfl, rfl⟩
theorem ronce_yes (h : y = 0) (hN : N < w.heap.size) : Calls Try.prog 57 #[v, .int .i64 (i : Int)] w (Turned N (vs.set i 1) w fun v' => .tuple #[v', .bool true]) := by
  subst h
  have hW := with_in N v vs i 1 w W hi hN
  obtain ⟨g, c, rfl, hne, hf, hc⟩ := W
  have h0 := hc i hi
  rw [hy] at h0
  have n0 : (0 : Int) ≤ (i : Int) := by omega
  have n1 : (i : Int) < (vs.length : Int) := by omega
  clear hy hc
  go_enter Try.func57, Try.ntmps57
  go_wp2_with (first
    | (go_at_call 82; refine (is_yes _ _ _ _ _ hi).mono ?_; rintro e w' ⟨rfl, rfl⟩)
    | (go_at_call 83; refine hW.mono ?_; rintro e w' ⟨v', rfl, hB, hT⟩))
  go_ret2
  exact ⟨_, rfl, hB, hT⟩
omit hy in
theorem rraise_big (h : TOP < x) : Calls Try.prog 55 #[v, .int .i64 (i : Int), .int .u64 x] w fun e w' => e = .returned (.tuple #[v, .int .i64 10]) ∧ w = w' := by
  obtain ⟨g, c, rfl, hne, hf, hc⟩ := W
  have d1 : decide (4611686018427387904 < x) = true := by unfold TOP at h; simp; omega
  clear h hc
  go_enter Try.func55, Try.ntmps55
  go_wp2_with (go_at_call 82; refine (is_yes _ _ _ _ _ hi).mono ?_; rintro e w' ⟨rfl, rfl⟩)
  go_ret2
  exact ⟨rfl, rfl⟩
omit hy in
theorem rswap_big (h : TOP < x) : Calls Try.prog 56 #[v, .int .i64 (i : Int), .int .u64 x] w fun e w' => e = .returned (.tuple #[v, .int .u64 0, .int .i64 10]) ∧ w = w' := by
  obtain ⟨g, c, rfl, hne, hf, hc⟩ := W
  have d1 : decide (4611686018427387904 < x) = true := by unfold TOP at h; simp; omega
  clear h hc
  go_enter Try.func56, Try.ntmps56
  go_wp2_with (go_at_call 82; refine (is_yes _ _ _ _ _ hi).mono ?_; rintro e w' ⟨rfl, rfl⟩)
  go_ret3
  exact ⟨rfl, rfl⟩
theorem rraise_keep (h : x ≤ TOP) (h' : x ≤ y) : Calls Try.prog 55 #[v, .int .i64 (i : Int), .int .u64 x] w fun e w' => e = .returned (.tuple #[v, .int .i64 0]) ∧ w = w' := by
  obtain ⟨g, c, rfl, hne, hf, hc⟩ := W
  have h0 := hc i hi
  rw [hy] at h0
  have n0 : (0 : Int) ≤ (i : Int) := by omega
  have n1 : (i : Int) < (vs.length : Int) := by omega
  have d1 : decide (4611686018427387904 < x) = false := by unfold TOP at h; simp; omega
  have d2 : decide (x ≤ y) = true := by simp [h']
  clear h hc hy
  go_enter Try.func55, Try.ntmps55
  go_wp2_with (go_at_call 82; refine (is_yes _ _ _ _ _ hi).mono ?_; rintro e w' ⟨rfl, rfl⟩)
  go_ret2
  exact ⟨rfl, rfl⟩
theorem rraise_up (h : x ≤ TOP) (h' : y < x) (hN : N < w.heap.size) : Calls Try.prog 55 #[v, .int .i64 (i : Int), .int .u64 x] w (Turned N (vs.set i x) w fun v' => .tuple #[v', .int .i64 0]) := by
  have hW := with_in N v vs i x w W hi hN
  obtain ⟨g, c, rfl, hne, hf, hc⟩ := W
  have h0 := hc i hi
  rw [hy] at h0
  have n0 : (0 : Int) ≤ (i : Int) := by omega
  have n1 : (i : Int) < (vs.length : Int) := by omega
  have d1 : decide (4611686018427387904 < x) = false := by unfold TOP at h; simp; omega
  have d2 : decide (x ≤ y) = false := by simp; omega
  clear h hc hy
  go_enter Try.func55, Try.ntmps55
  go_wp2_with (first
    | (go_at_call 82; refine (is_yes _ _ _ _ _ hi).mono ?_; rintro e w' ⟨rfl, rfl⟩)
    | (go_at_call 83; refine hW.mono ?_; rintro e w' ⟨v', rfl, hB, hT⟩))
  go_ret2
  exact ⟨_, rfl, hB, hT⟩
set_option maxRecDepth 100000 in
set_option maxHeartbeats 1600000 in
theorem rswap_ok (h : x ≤ TOP) (hN : N < w.heap.size) : Calls Try.prog 56 #[v, .int .i64 (i : Int), .int .u64 x] w (Turned N (vs.set i x) w fun v' => .tuple #[v', .int .u64 y, .int .i64 0]) := by
  have hW := with_in N v vs i x w.drew W hi hN
  obtain ⟨g, c, rfl, hne, hf, hc⟩ := W
  have h0 := hc i hi
  rw [hy] at h0
  have hg := (cell_spot h0).2
  have n0 : (0 : Int) ≤ (i : Int) := by omega
  have n1 : (i : Int) < (vs.length : Int) := by omega
  have d1 : decide (4611686018427387904 < x) = false := by unfold TOP at h; simp; omega
  clear h hc hy
  have hW2 := hW.mono (R' := fun e w' => ∃ v', e = .returned v' ∧ (w'.cell? ⟨g, i, none⟩ = some (.int .u64 y)) ∧ Below w.heap.size w w' ∧ Wds N v' (vs.set i x) w') (fun e w' ⟨v', h1, h2, h3⟩ => ⟨v', h1, (h2.cell (p := ⟨g, i, none⟩) hg).trans h0, (Below.refl w.heap.size w).drew.trans h2, h3⟩)
  clear hW
  go_enter Try.func56, Try.ntmps56
  go_wp2_with (first
    | (go_at_call 82; refine (is_yes _ _ _ _ _ hi).mono ?_; rintro e w' ⟨rfl, rfl⟩))
  go_region_held3 (fun w' => w'.cell? ⟨g, i, none⟩ = some (.int .u64 y)) (first | exact h0 | assumption | go_keep)
    (first | (go_at_call 83; refine hW2.mono ?_; rintro e w' ⟨v', rfl, hK, hB, hT⟩))
  go_wp2_with fail
  go_ret3
  exact ⟨_, rfl, hB, hT⟩
theorem radd_big (hx : 0 ≤ x) (h0 : 0 ≤ y) (h1 : y ≤ TOP) (h : TOP < y + x) : Calls Try.prog 59 #[v, .int .i64 (i : Int), .int .u64 x] w fun e w' => e = .returned (.tuple #[v, .int .u64 0, .int .i64 10]) ∧ w = w' := by
  obtain ⟨g, c, rfl, hne, hf, hc⟩ := W
  have hc0 := hc i hi
  rw [hy] at hc0
  have n0 : (0 : Int) ≤ (i : Int) := by omega
  have n1 : (i : Int) < (vs.length : Int) := by omega
  have e1 : IntKind.u64.wrap (4611686018427387904 - y) = 4611686018427387904 - y := by unfold TOP at h1; rw [IntKind.wrap_u64]; omega
  have d1 : decide (4611686018427387904 - y < x) = true := by unfold TOP at h; simp; omega
  clear h h1 hc hy
  go_enter Try.func59, Try.ntmps59
  go_wp2_with (go_at_call 82; refine (is_yes _ _ _ _ _ hi).mono ?_; rintro e w' ⟨rfl, rfl⟩)
  go_ret3
  exact ⟨rfl, rfl⟩
set_option maxRecDepth 100000 in
set_option maxHeartbeats 1600000 in
theorem radd_ok (hx : 0 ≤ x) (h0 : 0 ≤ y) (h1 : y ≤ TOP) (h : y + x ≤ TOP) (hN : N < w.heap.size) : Calls Try.prog 59 #[v, .int .i64 (i : Int), .int .u64 x] w (Turned N (vs.set i (y + x)) w fun v' => .tuple #[v', .int .u64 (y + x), .int .i64 0]) := by
  have hW := with_in N v vs i (y + x) w.drew W hi hN
  obtain ⟨g, c, rfl, hne, hf, hc⟩ := W
  have hc0 := hc i hi
  rw [hy] at hc0
  have hg := (cell_spot hc0).2
  have n0 : (0 : Int) ≤ (i : Int) := by omega
  have n1 : (i : Int) < (vs.length : Int) := by omega
  have e1 : IntKind.u64.wrap (4611686018427387904 - y) = 4611686018427387904 - y := by unfold TOP at h1; rw [IntKind.wrap_u64]; omega
  have e2 : IntKind.u64.wrap (y + x) = y + x := by unfold TOP at h; rw [IntKind.wrap_u64]; omega
  have d1 : decide (4611686018427387904 - y < x) = false := by unfold TOP at h; simp; omega
  clear h h1 hc hy
  have hW2 := hW.mono (R' := fun e w' => ∃ v', e = .returned v' ∧ (w'.cell? ⟨g, i, none⟩ = some (.int .u64 y)) ∧ Below w.heap.size w w' ∧ Wds N v' (vs.set i (y + x)) w') (fun e w' ⟨v', h1, h2, h3⟩ => ⟨v', h1, (h2.cell (p := ⟨g, i, none⟩) hg).trans hc0, (Below.refl w.heap.size w).drew.trans h2, h3⟩)
  clear hW
  go_enter Try.func59, Try.ntmps59
  go_wp2_with (first
    | (go_at_call 82; refine (is_yes _ _ _ _ _ hi).mono ?_; rintro e w' ⟨rfl, rfl⟩))
  go_region_held3 (fun w' => w'.cell? ⟨g, i, none⟩ = some (.int .u64 y)) (first | exact hc0 | assumption | go_keep)
    (first | (go_at_call 83; refine hW2.mono ?_; rintro e w' ⟨v', rfl, hK, hB, hT⟩))
  go_wp2_with fail
  go_ret3
  exact ⟨_, rfl, hB, hT⟩
end inside
end Go.Proofs.Ytfakgemifbgafaa

/- change: a counter by a function. -/
import Derived.Test.YtdkkpabemimmlaaMtB
namespace Go.Proofs.Ytdkkpabemimmlaa
open Go.RowKit

theorem change_nob (v : Value) (i : Int) (fv : Value) (w : World) (h : Nob v w) :
    Calls Try.prog 145 #[v, .int .i64 i, fv] w fun e w' => e = .returned (.tuple #[.int .u64 0, .int .u64 0, .int .i64 1]) ∧ w = w' := by
  go_enter Try.func145, Try.ntmps145
  go_wp2_with fail
  go_step3
  go_wp2_with (go_at_call 142; refine (len_nob v _ h).mono ?_; rintro e w' ⟨rfl, rfl⟩)
  rw [Exit.noGoto_ret]
  go_ret3
  exact ⟨rfl, rfl⟩
theorem change_out (b : Nat) (vs : List Int) (i : Int) (fv : Value) (w : World) (M : Met b vs w) (h0 : 0 < vs.length) (h : i < 0 ∨ (vs.length : Int) ≤ i) :
    Calls Try.prog 145 #[.pointer (some ⟨b, 0, none⟩), .int .i64 i, fv] w fun e w' => e = .returned (.tuple #[.int .u64 0, .int .u64 0, .int .i64 2]) ∧ w = w' := by
  have d1 : ((vs.length : Int) == 0) = false := by rw [beq_eq_false_iff_ne]; omega
  have d2 : decide ((vs.length : Int) = 0) = false := decide_eq_false (by omega)
  have hh := has_no (.pointer (some ⟨b, 0, none⟩)) vs.length i w (len_met b _ w M.n) h
  go_enter Try.func145, Try.ntmps145
  go_wp2_with fail
  go_step3
  go_wp2_with (first
    | (go_at_call 142; refine (len_met b _ _ M.n).mono ?_; rintro e w' ⟨rfl, rfl⟩)
    | (go_at_call 108; refine hh.mono ?_; rintro e w' ⟨rfl, rfl⟩))
  rw [Exit.noGoto_ret]
  go_ret3
  exact ⟨rfl, rfl⟩
set_option maxRecDepth 100000 in
set_option maxHeartbeats 1600000 in
theorem change_no (b : Nat) (vs : List Int) (i : Nat) (G : Nat) (cap : Array Value) (er x y : Int) (w : World) (M : Met b vs w) (hv : w.cell? ⟨b, 1 + i, none⟩ = some (.int .u64 x)) (hi : i < vs.length) (he : ∀ w : World, (callFunc G (#[.int .u64 x] ++ cap)).run Try.prog w = .ok (.enter G (#[.int .u64 x] ++ cap)) w)
    (hG : Calls Try.prog G (#[.int .u64 x] ++ cap) w fun e w' => e = .returned (.tuple #[.int .u64 y, .int .i64 er]) ∧ ∃ n, w' = w.drewN n) (hz : ¬ er = 0) :
    Calls Try.prog 145 #[.pointer (some ⟨b, 0, none⟩), .int .i64 (i : Int), .func (.func G) #[] cap] w fun e w' => e = .returned (.tuple #[.int .u64 0, .int .u64 0, .int .i64 er]) ∧ ∃ n, w' = w.drewN n := by
  have d1 : ((vs.length : Int) == 0) = false := by rw [beq_eq_false_iff_ne]; omega
  have d2 : decide ((vs.length : Int) = 0) = false := decide_eq_false (by omega)
  have hh := has_yes b vs i w M hi
  have hl := load_u64 ⟨b, 1 + i, none⟩ _ w hv
  have hf := M.few
  have i0 : (0 : Int) ≤ (i : Int) := by omega
  have i16 : (i : Int) < 16 := by omega
  have z1 : (er != 0) = true := by simp [hz]
  go_enter Try.func145, Try.ntmps145
  go_wp2_with fail
  go_step3
  go_wp2_with (first
    | (go_at_call 142; refine (len_met b _ _ M.n).mono ?_; rintro e w' ⟨rfl, rfl⟩)
    | (go_at_call 108; refine hh.mono ?_; rintro e w' ⟨rfl, rfl⟩)
    | (go_at_call 109; refine hl.mono ?_; rintro e w' ⟨rfl, rfl⟩))
  go_step3
  go_wp2_with (first
    | (go_at_call 109; refine hl.mono ?_; rintro e w' ⟨rfl, rfl⟩)
    | (refine Calls.mono hG ?_; rintro e w' ⟨rfl, nd, rfl⟩))
  rw [Exit.noGoto_ret]
  go_ret3
  exact ⟨rfl, nd, rfl⟩
set_option maxRecDepth 100000 in
set_option maxHeartbeats 1600000 in
theorem change_ok (b : Nat) (vs : List Int) (i : Nat) (G : Nat) (cap : Array Value) (x y : Int) (w : World) (M : Met b vs w) (hv : w.cell? ⟨b, 1 + i, none⟩ = some (.int .u64 x)) (hi : i < vs.length) (he : ∀ w : World, (callFunc G (#[.int .u64 x] ++ cap)).run Try.prog w = .ok (.enter G (#[.int .u64 x] ++ cap)) w)
    (hG : Calls Try.prog G (#[.int .u64 x] ++ cap) w fun e w' => e = .returned (.tuple #[.int .u64 y, .int .i64 0]) ∧ ∃ n, w' = w.drewN n) :
    Calls Try.prog 145 #[.pointer (some ⟨b, 0, none⟩), .int .i64 (i : Int), .func (.func G) #[] cap] w fun e w' => e = .returned (.tuple #[.int .u64 x, .int .u64 y, .int .i64 0]) ∧ ∃ n, w' = (w.drewN n).setCell ⟨b, 1 + i, none⟩ (.int .u64 y) := by
  have d1 : ((vs.length : Int) == 0) = false := by rw [beq_eq_false_iff_ne]; omega
  have d2 : decide ((vs.length : Int) = 0) = false := decide_eq_false (by omega)
  have hh := has_yes b vs i w M hi
  have hl := load_u64 ⟨b, 1 + i, none⟩ _ w hv
  have hc : ∀ n, Calls Try.prog 163 #[.pointer (some ⟨b, 1 + i, none⟩), .int .u64 x, .int .u64 y] (w.drewN n) fun e w' => e = .returned (.bool true) ∧ (w.drewN n).setCell ⟨b, 1 + i, none⟩ (.int .u64 y) = w' := fun n => cas_u64 _ _ _ _ (by simpa using hv) (by simpa using M.free (1 + i))
  have hf := M.few
  have i0 : (0 : Int) ≤ (i : Int) := by omega
  have i16 : (i : Int) < 16 := by omega
  go_enter Try.func145, Try.ntmps145
  go_wp2_with fail
  go_step3
  go_wp2_with (first
    | (go_at_call 142; refine (len_met b _ _ M.n).mono ?_; rintro e w' ⟨rfl, rfl⟩)
    | (go_at_call 108; refine hh.mono ?_; rintro e w' ⟨rfl, rfl⟩))
  go_step3
  go_wp2_with (first
    | (go_at_call 109; refine hl.mono ?_; rintro e w' ⟨rfl, rfl⟩)
    | (go_at_call 163; refine (hc _).mono ?_; rintro e w' ⟨rfl, rfl⟩)
    | (refine Calls.mono hG ?_; rintro e w' ⟨rfl, nd, rfl⟩))
  rw [Exit.noGoto_ret]
  go_ret3
  exact ⟨rfl, nd, rfl⟩
end Go.Proofs.Ytdkkpabemimmlaa

/- The calls of a meter: New, Add, Raise, Swap, Once, Get. -/
import Derived.Test.YtdkkpabemimmlaaMtC
namespace Go.Proofs.Ytdkkpabemimmlaa
open Go.RowKit

theorem Only.drewN {X : Nat → Prop} {w w' : World} (h : Only X w w') (n : Nat) : Only X w (w'.drewN n) := ⟨h.os, h.tape, h.output, h.size, h.block⟩
theorem Nob.kept {v : Value} {w w' : World} (h : Nob v w) (hb : Below w.heap.size w w') : Nob v w' := by
  rcases h with rfl | ⟨b, rfl, h⟩
  · exact .inl rfl
  · exact .inr ⟨b, rfl, (hb.cell (p := ⟨b, 0, none⟩) (cell_spot h).2).trans h⟩
theorem Met.kept {b : Nat} {vs : List Int} {w w' : World} (M : Met b vs w) (hb : Below w.heap.size w w') : Met b vs w' := M.of_block (hb.block b M.lt)
theorem Met.drewN {b : Nat} {vs : List Int} {w : World} (M : Met b vs w) (n : Nat) : Met b vs (w.drewN n) := M.of_block rfl
theorem alloc_b (w : World) (o : Obj) : Below w.heap.size w (w.alloc o) := (Below.refl _ _).alloc (Nat.le_refl _) _

theorem new_none (n : Int) (w : World) (h : n < 1 ∨ 16 < n) : Calls Try.prog 54 #[.int .i64 n] w fun e w' => e = .returned (.pointer none) ∧ w = w' := by
  by_cases h1 : n < 1
  · have d1 : decide (n < 1) = true := by simp [h1]
    go_enter Try.func54, Try.ntmps54
    go_wp2_with fail
    go_ret
    exact ⟨rfl, rfl⟩
  · have d1 : decide (n < 1) = false := by simp; omega
    have d2 : decide (16 < n) = true := by simp; omega
    go_enter Try.func54, Try.ntmps54
    go_wp2_with fail
    go_ret
    exact ⟨rfl, rfl⟩
theorem new_met (n : Nat) (w : World) (h : 1 ≤ n) (h' : n ≤ 16) : Calls Try.prog 54 #[.int .i64 (n : Int)] w fun e w' => e = .returned (.pointer (some ⟨w.heap.size, 0, none⟩)) ∧ (Below w.heap.size w w' ∧ Met w.heap.size (List.replicate n 0) w' ∧ w'.heap.size = w.heap.size + 1) := by
  have d1 : decide ((n : Int) < 1) = false := by simp; omega
  have d2 : decide (16 < (n : Int)) = false := by simp; omega
  go_enter Try.func54, Try.ntmps54
  go_wp2_with fail
  go_ret
  refine ⟨rfl, alloc_b _ _, ⟨?_, ?_, ?_, by simp [h'], ?_⟩, by simp⟩
  · rw [List.length_replicate]; rw [World.cell?_alloc_at _ _ _ _ rfl]; rfl
  · intro i hi
    rw [List.length_replicate] at hi
    rw [World.cell?_alloc_at _ _ _ _ rfl]
    have hi' : i < 16 := by omega
    have e0 : (List.replicate n (0 : Int)).getD i 0 = 0 := by simp [hi]
    rw [e0]
    clear e0 hi
    iterate 16 (rcases i with _ | i; · rfl)
    omega
  · intro j; simp
  · intro x hx
    rw [List.mem_replicate] at hx
    unfold TOP
    omega

theorem add_nob (v : Value) (i x : Int) (w : World) (h : Nob v w) : Calls Try.prog 111 #[v, .int .i64 i, .int .u64 x] w fun e w' => e = .returned (.tuple #[.int .u64 0, .int .i64 1]) ∧ Below w.heap.size w w' := by
  have hmf : ∀ (fn : Fn) (first cap : Array Value) (w : World), (Instr.makeFunc fn first cap).run Try.prog w = .ok (.func fn first cap) w := fun _ _ _ _ => rfl
  go_enter Try.func111, Try.ntmps111
  go_wp2_with (go_at_call 145; refine (change_nob v _ _ _ (h.kept (alloc_b _ _))).mono ?_; rintro e w' ⟨rfl, rfl⟩)
  go_ret2
  exact ⟨rfl, alloc_b _ _⟩
theorem get_nob (v : Value) (i : Int) (w : World) (h : Nob v w) : Calls Try.prog 68 #[v, .int .i64 i] w fun e w' => e = .returned (.int .u64 0) ∧ w = w' := by
  have hh := has_no v 0 i w (len_nob v w h) (by omega)
  go_enter Try.func68, Try.ntmps68
  go_wp2_with (go_at_call 108; refine hh.mono ?_; rintro e w' ⟨rfl, rfl⟩)
  go_ret
  exact ⟨rfl, rfl⟩

section out
variable (b : Nat) (vs : List Int) (i x : Int) (w : World) (M : Met b vs w) (h0 : 0 < vs.length) (h : i < 0 ∨ (vs.length : Int) ≤ i)
include M h0 h
theorem add_out : Calls Try.prog 111 #[.pointer (some ⟨b, 0, none⟩), .int .i64 i, .int .u64 x] w fun e w' => e = .returned (.tuple #[.int .u64 0, .int .i64 2]) ∧ Below w.heap.size w w' := by
  have hmf : ∀ (fn : Fn) (first cap : Array Value) (w : World), (Instr.makeFunc fn first cap).run Try.prog w = .ok (.func fn first cap) w := fun _ _ _ _ => rfl
  have hC := fun fv o => change_out b vs i fv _ (M.kept (alloc_b _ o)) h0 h
  go_enter Try.func111, Try.ntmps111
  go_wp2_with (go_at_call 145; refine (hC _ _).mono ?_; rintro e w' ⟨rfl, rfl⟩)
  go_ret2
  exact ⟨rfl, alloc_b _ _⟩
omit x in
omit x h0 in
theorem get_out : Calls Try.prog 68 #[.pointer (some ⟨b, 0, none⟩), .int .i64 i] w fun e w' => e = .returned (.int .u64 0) ∧ w = w' := by
  have hh := has_no _ vs.length i w (len_met b _ w M.n) h
  go_enter Try.func68, Try.ntmps68
  go_wp2_with (go_at_call 108; refine hh.mono ?_; rintro e w' ⟨rfl, rfl⟩)
  go_ret
  exact ⟨rfl, rfl⟩
end out
end Go.Proofs.Ytdkkpabemimmlaa

/- Walks of crc24: the sum of several parts, and the examples. -/
import Derived.Test.YtkeloeppploiaaaCrcB
import Derived.Below
import Derived.Lib.SlBytesConst
namespace Go.Proofs.Ytkeloeppploiaaa
open Go.RowKit

/-- A slice of slices of bytes that can be read. -/
def RBB (w : World) (a : Option Addr) (n : Nat) (ps : List (List Nat)) : Prop :=
  ps.length = n ∧ n ≤ 140737488351232 ∧ ∀ i, i < n → ∃ b off v, a = some ⟨b, off, none⟩ ∧ w.cell? ⟨b, off + i, none⟩ = some v ∧ RB w v (ps.getD i [])

theorem flat_take {α : Type} (l : List (List α)) (k : Nat) (h : k < l.length) : (l.take (k + 1)).flatten = (l.take k).flatten ++ l.getD k [] := by
  rw [List.take_succ_eq_append_getElem h, List.flatten_append]
  simp only [List.flatten_cons, List.flatten_nil, List.append_nil]
  simp [h]

set_option maxHeartbeats 400000 in
theorem sum_any (a : Option Addr) (len cap : Nat) (ps : List (List Nat)) (w : World) (hb : RBB w a len ps) :
    Calls Try.prog 35 #[.slice a len cap] w fun e w' => e = .returned (.int .u32 ((onN 11994318 ps.flatten : Nat) : Int)) ∧ w = w' := by
  obtain ⟨hl, hm, hcase⟩ := hb
  have HL := Lib.hid hl
  have HS := Lib.hid hcase
  clear hl hcase
  go_enter Try.func35, Try.ntmps35
  go_wp2
  go_loop [3, 8] (fun s i => ∃ k : Nat, k ≤ len ∧ i = .int .i64 k ∧ s = .int .u32 ((onN 11994318 (ps.take k).flatten : Nat) : Int) ∧ onN 11994318 (ps.take k).flatten < 16777216) (fun _ i => len - (intOf i).toNat)
  case atStart => exact ⟨0, Nat.zero_le _, rfl, rfl, by simp [onN]⟩
  case round =>
    obtain ⟨k, hk, rfl, rfl, hx0⟩ := hrel
    by_cases hlt : k < len
    · obtain ⟨b, off, v, rfl, hcell, hrb⟩ := HS.out k hlt
      have hlb : k < ps.length := by rw [HL.out]; exact hlt
      have HN := Lib.hid (by rw [flat_take ps k hlb, onN_append] : onN 11994318 (ps.take (k + 1)).flatten = onN (onN 11994318 (ps.take k).flatten) (ps.getD k []))
      obtain ⟨x, hxx⟩ : ∃ x, x = onN 11994318 (ps.take k).flatten := ⟨_, rfl⟩
      obtain ⟨m, hmm⟩ : ∃ m, m = ps.getD k [] := ⟨_, rfl⟩
      rw [← hxx] at hx0 HN ⊢
      rw [← hmm] at hrb HN
      have HX := Lib.hid hxx
      clear hxx hlb hmm
      have hmod : x % 16777216 = x := by omega
      have hy := onN_lt m x hx0 hrb.1
      obtain ⟨ai, ci, rfl, _, _⟩ := hrb.shape
      have HRB := Lib.hid hrb
      have HM := Lib.hid hmod
      clear hrb hmod
      go_wp2_with (go_at_call 33; refine (on_any _ _ _ _ (by omega) HRB.out).mono ?_; rintro e w' ⟨rfl, rfl⟩)
      go_round
      case rel => exact ⟨k + 1, by omega, by go_num, by rw [HN.out, HM.out], by rw [HN.out]; exact hy⟩
      case measure => simp [intOf]; omega
    · go_wp2
      go_ret
      exact ⟨ret_int (by rw [List.take_of_length_le (by rw [HL.out]; omega)]), rfl⟩

theorem ex9 : onN 11994318 [49, 50, 51, 52, 53, 54, 55, 56, 57] = 2215682 := by decide +kernel
theorem sum_ex (a : Option Addr) (cap : Nat) (w : World) (hb : RBB w a 1 [[49, 50, 51, 52, 53, 54, 55, 56, 57]]) :
    Calls Try.prog 35 #[.slice a 1 cap] w fun e w' => e = .returned (.int .u32 2215682) ∧ w = w' :=
  (sum_any a 1 cap _ w hb).mono fun e w' ⟨h1, h2⟩ => ⟨by rw [h1]; exact ret_int (by rw [show [[49, 50, 51, 52, 53, 54, 55, 56, 57]].flatten = [49, 50, 51, 52, 53, 54, 55, 56, 57] from rfl, ex9]; rfl), h2⟩
theorem sum_none (w : World) : Calls Try.prog 35 #[.slice none 0 0] w fun e w' => e = .returned (.int .u32 11994318) ∧ w = w' :=
  (sum_any none 0 0 [] w ⟨rfl, by omega, fun i hi => by omega⟩).mono fun e w' ⟨h1, h2⟩ => ⟨by rw [h1]; rfl, h2⟩
theorem ex_rbb (w : World) : RBB ((w.alloc (.cells #[.int .u8 49, .int .u8 50, .int .u8 51, .int .u8 52, .int .u8 53, .int .u8 54, .int .u8 55, .int .u8 56, .int .u8 57] 5 (9, 10))).alloc
    (.cells #[.slice (some ⟨w.heap.size, 0, none⟩) 9 9] 27)) (some ⟨w.heap.size + 1, 0, none⟩) 1 [[49, 50, 51, 52, 53, 54, 55, 56, 57]] := by
  refine ⟨rfl, by omega, ?_⟩
  intro i hi
  obtain rfl : i = 0 := by omega
  refine ⟨_, _, .slice (some ⟨w.heap.size, 0, none⟩) 9 9, rfl, by simp [go_sem], by decide, by simp, .inr ⟨_, _, rfl, by simp, by simp [maxLen], ?_⟩⟩
  intro j hj
  have : j = 0 ∨ j = 1 ∨ j = 2 ∨ j = 3 ∨ j = 4 ∨ j = 5 ∨ j = 6 ∨ j = 7 ∨ j = 8 := by simp at hj; omega
  rcases this with rfl | rfl | rfl | rfl | rfl | rfl | rfl | rfl | rfl <;> (rw [add_at, World.cell?_alloc_lt _ _ _ (by simp), World.cell?_alloc_mark]; rfl)
set_option maxHeartbeats 400000 in
theorem lives2 (w : World) : Calls Try.prog 32 #[] w fun e w' => e = .returned (.bool true) ∧ Below w.heap.size w w' := by
  have kc := fun (w : World) (C : Array Value) (n c : Nat) => Lib.run_convert_bytes_const (P := Try.prog) w 27 5 C n c Try.underlying27 Try.underlying5
  go_enter Try.func32, Try.ntmps32
  go_wp2_with fail
  refine (sum_ex _ 1 _ (ex_rbb w)).mono ?_
  rintro e w' ⟨rfl, rfl⟩
  go_wp2_with (go_at_call 35; refine (sum_none _).mono ?_; rintro e w' ⟨rfl, rfl⟩)
  go_ret
  exact ⟨rfl, ((Below.refl _ _).alloc (Nat.le_refl _) _).alloc (by simp) _⟩
end Go.Proofs.Ytkeloeppploiaaa

/- Walks of quill's writer: one, two and three numbers at once. -/
import Derived.Test.YthefnakbpalecaaMaD
import Derived.Test.YthefnakbpalecaaNbX
import Derived.Deep.RegionHeld3
namespace Go.Proofs.Ythefnakbpalecaa
open Go.RowKit
theorem num_oneG (b base : Nat) (v : Value) (n : Nat) (bs : List Nat) (g : Nat) (w : World) (hg : g = w.heap.size) (hw : WR w b base v bs) (hbl : bs.length ≤ 10000000) (hn : n < 18446744073709551616) :
    Calls Try.prog 62 #[.pointer (some ⟨b, 0, none⟩), .slice (some ⟨g, 0, none⟩) 1 1] (w.alloc (.cells #[.int .u64 ((n : Nat) : Int)] 22)) fun e w' => e = .returned (.tuple #[]) ∧ Wrote b base v w (bs ++ num 0 n) w' := hg ▸ num_one b base v n bs w hw hbl hn
theorem rv_two (w : World) (b : Nat) (t : TypeId) (x1 x2 : Value) (hb : b = w.heap.size) : RV (w.alloc (.cells #[x1, x2] t)) (.slice (some ⟨b, 0, none⟩) 2 2) [x1, x2] := by
  subst hb
  refine ⟨by simp, _, _, rfl, fun i hi => ⟨_, _, rfl, ?_⟩⟩
  rw [World.cell?_alloc_at _ _ _ _ rfl]
  simp only [List.length_cons, List.length_nil] at hi
  have : i = 0 ∨ i = 1 := by omega
  rcases this with rfl | rfl <;> rfl
theorem num_two (b base : Nat) (v : Value) (f t : Nat) (bs : List Nat) (w : World) (hw : WR w b base v bs) (hbl : bs.length ≤ 10000000) (hf : f < 18446744073709551616) (ht : t < 18446744073709551616) :
    Calls Try.prog 62 #[.pointer (some ⟨b, 0, none⟩), .slice (some ⟨w.heap.size, 0, none⟩) 2 2] (w.alloc (.cells #[.int .u64 (f : Int), .int .u64 (t : Int)] 22)) fun e w' => e = .returned (.tuple #[]) ∧ Wrote b base v w (bs ++ (num 0 f ++ num 0 t)) w' := by
  have b1 : Below w.heap.size w (w.alloc (.cells #[.int .u64 (f : Int), .int .u64 (t : Int)] 22)) := (Below.refl _ _).alloc (Nat.le_refl _) _
  have hrv : RV (w.alloc (.cells #[.int .u64 (f : Int), .int .u64 (t : Int)] 22)) (.slice (some ⟨w.heap.size, 0, none⟩) 2 2) (List.map (fun n : Nat => Value.int .u64 ((n : Nat) : Int)) [f, t]) := by
    simp only [List.map_cons, List.map_nil]
    exact rv_two w _ _ _ _ rfl
  refine (num_wr b base v bs [f, t] _ _ (hw.kept b1) hbl hrv (by intro n hn; simp only [List.mem_cons, List.not_mem_nil, or_false] at hn; omega)).mono ?_
  rintro e w' ⟨rfl, hwr⟩
  have e2 : nums [f, t] = num 0 f ++ num 0 t := by unfold nums; simp
  rw [e2] at hwr
  exact ⟨rfl, hwr.after b1⟩
theorem rv_three (w : World) (N : Nat) (t : TypeId) (x y z : Value) (hN : N = w.heap.size) : RV (w.alloc (.cells #[x, y, z] t)) (.slice (some ⟨N, 0, none⟩) 3 3) [x, y, z] := by
  subst hN
  refine ⟨by simp, _, _, rfl, fun i hi => ⟨_, _, rfl, ?_⟩⟩
  rw [World.cell?_alloc_at _ _ _ _ rfl]
  simp only [List.length_cons, List.length_nil] at hi
  have : i = 0 ∨ i = 1 ∨ i = 2 := by omega
  rcases this with rfl | rfl | rfl <;> rfl
theorem num_three (b base : Nat) (v : Value) (f t u : Nat) (bs : List Nat) (w : World) (hw : WR w b base v bs) (hbl : bs.length ≤ 10000000) (hf : f < 18446744073709551616) (ht : t < 18446744073709551616) (hu : u < 18446744073709551616) :
    Calls Try.prog 62 #[.pointer (some ⟨b, 0, none⟩), .slice (some ⟨w.heap.size, 0, none⟩) 3 3] (w.alloc (.cells #[.int .u64 (f : Int), .int .u64 (t : Int), .int .u64 (u : Int)] 22)) fun e w' => e = .returned (.tuple #[]) ∧ Wrote b base v w (bs ++ (num 0 f ++ (num 0 t ++ num 0 u))) w' := by
  have b1 : Below w.heap.size w (w.alloc (.cells #[.int .u64 (f : Int), .int .u64 (t : Int), .int .u64 (u : Int)] 22)) := (Below.refl _ _).alloc (Nat.le_refl _) _
  have hrv : RV (w.alloc (.cells #[.int .u64 (f : Int), .int .u64 (t : Int), .int .u64 (u : Int)] 22)) (.slice (some ⟨w.heap.size, 0, none⟩) 3 3) (List.map (fun n : Nat => Value.int .u64 ((n : Nat) : Int)) [f, t, u]) := by
    simp only [List.map_cons, List.map_nil]
    exact rv_three w _ _ _ _ _ rfl
  refine (num_wr b base v bs [f, t, u] _ _ (hw.kept b1) hbl hrv (by intro n hn; simp only [List.mem_cons, List.not_mem_nil, or_false] at hn; omega)).mono ?_
  rintro e w' ⟨rfl, hwr⟩
  have e2 : nums [f, t, u] = num 0 f ++ (num 0 t ++ num 0 u) := by unfold nums; simp
  rw [e2] at hwr
  exact ⟨rfl, hwr.after b1⟩
end Go.Proofs.Ythefnakbpalecaa

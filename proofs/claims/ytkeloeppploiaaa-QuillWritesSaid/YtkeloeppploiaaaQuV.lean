/- A row of items, and whether it is light. -/
import Derived.Test.YtkeloeppploiaaaQuT
import Derived.Deep.Slices
namespace Go.Proofs.Ytkeloeppploiaaa
open Go.RowKit

/-- An item's cells. -/
def It.cells (x : It) : List Value := [.int .i64 x.kind, .int .u64 ((x.num : Nat) : Int), .int .i64 x.int, .bool x.flag, .string x.text]
/-- Its numbers fit. -/
def It.fits (x : It) : Prop := x.num < 18446744073709551616 ∧ -9223372036854775808 ≤ x.int ∧ x.int ≤ 9223372036854775807 ∧ x.text.size ≤ maxLen
/-- A row of items that can be read. -/
def Items (w : World) (a : Option Addr) (n cap : Nat) (xs : List It) : Prop :=
  xs.length = n ∧ n ≤ maxLen ∧ (∀ x ∈ xs, x.fits) ∧ ∀ i x, xs[i]? = some x → ∃ b off, a = some ⟨b, off, none⟩ ∧ ∀ j c, x.cells[j]? = some c → w.cell? ⟨b, off + i * 5 + j, none⟩ = some c
theorem Items.kept {w w' : World} {a : Option Addr} {n cap : Nat} {xs : List It} (h : Items w a n cap xs) (hb : Below w.heap.size w w') : Items w' a n cap xs := by
  refine ⟨h.1, h.2.1, h.2.2.1, fun i x hx => ?_⟩
  obtain ⟨b, off, ha, hc⟩ := h.2.2.2 i x hx
  refine ⟨b, off, ha, fun j c hj => ?_⟩
  have h1 := hc j c hj
  exact (hb.cell (p := ⟨b, off + i * 5 + j, none⟩) (cell_spot h1).2).trans h1

def isLight (xs : List It) : Prop := xs.length ≤ 200 ∧ ∀ x ∈ xs, x.text.size ≤ 1000

set_option maxHeartbeats 1000000 in
theorem light_any (a : Option Addr) (n cap : Nat) (xs : List It) (w : World) (h : Items w a n cap xs) :
    Calls Try.prog 12 #[.slice a n cap] w fun e w' => (∃ b, e = .returned (.bool b) ∧ (b = true → isLight xs)) ∧ Below w.heap.size w w' := by
  have HI := Lib.hid h
  have hm := h.2.1
  unfold maxLen at hm
  clear h
  go_enter Try.func12, Try.ntmps12
  go_wp2_with fail
  · go_ret
    exact ⟨⟨false, rfl, fun h => by cases h⟩, Below.refl _ _⟩
  go_loopw [10] (fun i wr => ∃ k : Nat, k ≤ n ∧ i = .int .i64 k ∧ Below w.heap.size w wr ∧ ∀ x ∈ xs.take k, x.text.size ≤ 1000) (fun i _ => n - (intOf i).toNat)
  case atStart => exact ⟨0, Nat.zero_le _, rfl, Below.refl _ _, by simp⟩
  case round =>
    obtain ⟨k, hk, rfl, hW, hT⟩ := hrel
    by_cases hlt : k < n
    · have hxk : xs[k]? = some (xs[k]'(by rw [HI.out.1]; exact hlt)) := List.getElem?_eq_getElem _
      obtain ⟨x, hx⟩ : ∃ x, xs[k]? = some x := ⟨_, hxk⟩
      obtain ⟨b, off, rfl, hc⟩ := (HI.out.kept hW).2.2.2 k x hx
      have c0 : wr.cell? ⟨b, off + k * 5, none⟩ = some (.int .i64 x.kind) := hc 0 _ rfl
      have c1 : wr.cell? ⟨b, off + k * 5 + 1, none⟩ = some (.int .u64 ((x.num : Nat) : Int)) := hc 1 _ rfl
      have c2 : wr.cell? ⟨b, off + k * 5 + 2, none⟩ = some (.int .i64 x.int) := hc 2 _ rfl
      have c3 : wr.cell? ⟨b, off + k * 5 + 3, none⟩ = some (.bool x.flag) := hc 3 _ rfl
      have c4 : wr.cell? ⟨b, off + k * 5 + 4, none⟩ = some (.string x.text) := hc 4 _ rfl
      have hmx : x.text.size ≤ maxLen := (HI.out.2.2.1 x (List.mem_of_getElem? hx)).2.2.2
      have HX := Lib.hid hx
      clear hc hxk hx
      go_wp2_with fail
      · go_ret
        exact ⟨⟨false, rfl, fun h => by cases h⟩, hW.alloc hW.size _⟩
      go_roundw
      case rel =>
        refine ⟨k + 1, by omega, by go_num, hW.alloc hW.size _, fun y hy => ?_⟩
        rw [List.take_add_one, HX.out] at hy
        rcases List.mem_append.1 hy with hy | hy
        · exact hT y hy
        · simp at hy; subst hy; omega
      case measure => simp [intOf]; omega
    · obtain rfl : k = n := by omega
      have ht : xs.take k = xs := List.take_of_length_le (by rw [HI.out.1]; omega)
      rw [ht] at hT
      go_wp2_with fail
      go_ret
      exact ⟨⟨true, rfl, fun _ => ⟨by rw [HI.out.1]; omega, hT⟩⟩, hW⟩
end Go.Proofs.Ytkeloeppploiaaa

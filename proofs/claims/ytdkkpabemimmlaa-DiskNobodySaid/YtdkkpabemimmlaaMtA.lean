/- A meter: its counters in memory, and what its small calls do. -/
import Derived.Test.YtdkkpabemimmlaaLzA
import Derived.WalkMore
import Derived.Deep.QuietTactic
import Derived.BigQuiet
namespace Go.Proofs.Ytdkkpabemimmlaa
open Go.RowKit

/-- The greatest value of a counter. -/
def TOP : Int := 4611686018427387904

/-- A meter with the values vs lies in block b. -/
structure Met (b : Nat) (vs : List Int) (w : World) : Prop where
  n : w.cell? ⟨b, 0, none⟩ = some (.int .i64 (vs.length : Int))
  v : ∀ i, i < vs.length → w.cell? ⟨b, 1 + i, none⟩ = some (.int .u64 (vs.getD i 0))
  free : ∀ j, w.frozen? ⟨b, j, none⟩ = false
  few : vs.length ≤ 16
  low : ∀ x ∈ vs, 0 ≤ x ∧ x ≤ TOP

theorem Met.of_block {b : Nat} {vs : List Int} {w w' : World} (M : Met b vs w) (h : w'.heap[b]? = w.heap[b]?) : Met b vs w' :=
  ⟨(World.cell?_of_block (a := ⟨b, 0, none⟩) h).trans M.n, fun i hi => (World.cell?_of_block (a := ⟨b, 1 + i, none⟩) h).trans (M.v i hi), fun j => (World.frozen?_of_block (a := ⟨b, j, none⟩) h).trans (M.free j), M.few, M.low⟩
theorem Met.lt {b : Nat} {vs : List Int} {w : World} (M : Met b vs w) : b < w.heap.size := (cell_spot M.n).2
theorem Met.at_low {b : Nat} {vs : List Int} {w : World} (M : Met b vs w) (i : Nat) (hi : i < vs.length) : 0 ≤ vs.getD i 0 ∧ vs.getD i 0 ≤ TOP := M.low _ (by simp [hi])
theorem Met.set {b : Nat} {vs : List Int} {w : World} (M : Met b vs w) (i : Nat) (hi : i < vs.length) (x : Int) (h0 : 0 ≤ x) (h1 : x ≤ TOP) : Met b (vs.set i x) (w.setCell ⟨b, 1 + i, none⟩ (.int .u64 x)) := by
  refine ⟨?_, ?_, ?_, by simpa using M.few, ?_⟩
  · rw [List.length_set]
    exact (World.cell?_setCell_other _ ⟨b, 1 + i, none⟩ ⟨b, 0, none⟩ _ (fun e => by injection e with e1 e2; omega)).trans M.n
  · intro j hj
    rw [List.length_set] at hj
    by_cases h : j = i
    · subst h
      rw [World.cell?_setCell_same _ _ _ (M.v j hi)]
      simp [hj]
    · refine (World.cell?_setCell_other _ ⟨b, 1 + i, none⟩ ⟨b, 1 + j, none⟩ _ (fun e => by injection e with e1 e2; omega)).trans ?_
      rw [M.v j hj]
      simp [List.getElem?_set, Ne.symm h]
  · intro j; simpa using M.free j
  · intro y hy
    rcases List.mem_or_eq_of_mem_set hy with h | rfl
    · exact M.low y h
    · exact ⟨h0, h1⟩

/-- No meter: nil, or one that no call made. -/
def Nob (v : Value) (w : World) : Prop := v = .pointer none ∨ ∃ b, v = .pointer (some ⟨b, 0, none⟩) ∧ w.cell? ⟨b, 0, none⟩ = some (.int .i64 0)

theorem len_met (b : Nat) (x : Int) (w : World) (h : w.cell? ⟨b, 0, none⟩ = some (.int .i64 x)) :
    Calls Try.prog 142 #[.pointer (some ⟨b, 0, none⟩)] w fun e w' => e = .returned (.int .i64 x) ∧ w = w' := by
  go_enter Try.func142, Try.ntmps142
  go_wp2
  go_ret
  exact ⟨rfl, rfl⟩
theorem len_nob (v : Value) (w : World) (h : Nob v w) :
    Calls Try.prog 142 #[v] w fun e w' => e = .returned (.int .i64 0) ∧ w = w' := by
  rcases h with rfl | ⟨b, rfl, h⟩
  · go_enter Try.func142, Try.ntmps142
    go_wp2
    go_ret
    exact ⟨rfl, rfl⟩
  · exact len_met b 0 w h

theorem load_u64 (a : Addr) (d : Int) (w : World) (hc : w.cell? a = some (.int .u64 d)) :
    Calls Try.prog 109 #[.pointer (some a)] w fun e w' => e = .returned (.int .u64 d) ∧ w = w' := by
  have hl := run_call_load (P := Try.prog) Try.func143 (by kernel_rfl) (by kernel_rfl) (by kernel_rfl) .u64 (by kernel_rfl) hc
  go_enter Try.func109, Try.ntmps109
  go_wp2
  go_ret
  exact ⟨rfl, rfl⟩
theorem cas_u64 (a : Addr) (x y : Int) (w : World) (hc : w.cell? a = some (.int .u64 x)) (hz : w.frozen? a = false) :
    Calls Try.prog 163 #[.pointer (some a), .int .u64 x, .int .u64 y] w fun e w' => e = .returned (.bool true) ∧ w.setCell a (.int .u64 y) = w' := by
  have hcas := run_call_cas_hit (P := Try.prog) Try.func169 (by kernel_rfl) (by kernel_rfl) (by kernel_rfl) .u64 (by kernel_rfl) (y := y) hc hz
  go_enter Try.func163, Try.ntmps163
  go_wp2
  go_ret
  exact ⟨rfl, rfl⟩

theorem has_yes (b : Nat) (vs : List Int) (i : Nat) (w : World) (M : Met b vs w) (hi : i < vs.length) :
    Calls Try.prog 108 #[.pointer (some ⟨b, 0, none⟩), .int .i64 (i : Int)] w fun e w' => e = .returned (.bool true) ∧ w = w' := by
  have h1 : decide ((i : Int) ≥ 0) = true := by simp
  have h2 : decide (0 ≤ (i : Int)) = true := by simp
  have h3 : decide (i < vs.length) = true := by simp [hi]
  have h4 : decide ((i : Int) < (vs.length : Int)) = true := by simp; omega
  go_enter Try.func108, Try.ntmps108
  go_wp2_with (go_at_call 142; refine (len_met b _ _ M.n).mono ?_; rintro e w' ⟨rfl, rfl⟩)
  go_ret
  exact ⟨rfl, rfl⟩
theorem has_neg (v : Value) (i : Int) (w : World) (hi : i < 0) :
    Calls Try.prog 108 #[v, .int .i64 i] w fun e w' => e = .returned (.bool false) ∧ w = w' := by
  have h1 : decide (i ≥ 0) = false := by simp; omega
  have h2 : decide (0 ≤ i) = false := by simp; omega
  go_enter Try.func108, Try.ntmps108
  go_wp2_with fail
  go_ret
  exact ⟨rfl, rfl⟩
theorem has_past (v : Value) (n : Int) (i : Int) (w : World) (hl : Calls Try.prog 142 #[v] w fun e w' => e = .returned (.int .i64 n) ∧ w = w') (h0 : 0 ≤ i) (hi : n ≤ i) :
    Calls Try.prog 108 #[v, .int .i64 i] w fun e w' => e = .returned (.bool false) ∧ w = w' := by
  have h1 : decide (i ≥ 0) = true := by simp [h0]
  have h2 : decide (0 ≤ i) = true := by simp [h0]
  have h3 : decide (i < n) = false := by simp [hi]
  go_enter Try.func108, Try.ntmps108
  go_wp2_with (go_at_call 142; refine hl.mono ?_; rintro e w' ⟨rfl, rfl⟩)
  go_ret
  exact ⟨rfl, rfl⟩
theorem has_no (v : Value) (n : Int) (i : Int) (w : World) (hl : Calls Try.prog 142 #[v] w fun e w' => e = .returned (.int .i64 n) ∧ w = w') (h : i < 0 ∨ n ≤ i) :
    Calls Try.prog 108 #[v, .int .i64 i] w fun e w' => e = .returned (.bool false) ∧ w = w' := by
  by_cases h0 : i < 0
  · exact has_neg v i w h0
  · exact has_past v n i w hl (by omega) (by omega)
end Go.Proofs.Ytdkkpabemimmlaa

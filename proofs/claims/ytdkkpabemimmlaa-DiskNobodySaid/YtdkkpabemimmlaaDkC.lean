/- The disk's small calls: whether it was made, has power, what a step does, where a file is. -/
import Derived.Test.YtdkkpabemimmlaaDkB
import Derived.Laws.ResultCell
import Derived.Laws.Cover3
namespace Go.Proofs.Ytdkkpabemimmlaa
open Go.RowKit Go.Maps
theorem neq_fmap (m : Option Nat) (w : World) : (binOp .neq 62 (.map m) (.map none)).run Try.prog w = .ok (.bool (!m.isNone)) w := run_neq_map_nil w _ _ _ m Try.underlying62
theorem fm_und : Try.prog.underlying 62 = some (.map 9 114) := Try.underlying62
theorem fl_zero (w : World) : (zeroValue 114).run Try.prog w = .ok (.agg #[.slice none 0 0, .int .i64 0]) w := by go_simp
/-- What a disk is that no call made. -/
def NoD (w : World) (v : Value) : Prop := v = .pointer none ∨ ∃ b, v = .pointer (some ⟨b, 0, none⟩) ∧ w.cell? ⟨b, 1, none⟩ = some (.map none)
theorem NoD.below {w w' : World} {v : Value} (h : NoD w v) (hb : Below w.heap.size w w') : NoD w' v := by
  rcases h with rfl | ⟨b, rfl, h⟩
  · exact .inl rfl
  · exact .inr ⟨b, rfl, (hb.cell (p := ⟨b, 1, none⟩) (cell_spot h).2).trans h⟩
theorem dcreated_no (v : Value) (w : World) (h : NoD w v) : Calls Try.prog 66 #[v] w fun e w' => e = .returned (.bool false) ∧ w = w' := by
  have hnm := neq_fmap
  rcases h with rfl | ⟨b, rfl, h⟩
  · go_enter Try.func66, Try.ntmps66
    go_wp2_with fail
    go_ret
    exact ⟨rfl, rfl⟩
  · go_enter Try.func66, Try.ntmps66
    go_wp2_with fail
    go_ret
    exact ⟨rfl, rfl⟩
theorem dpower_no (v : Value) (w : World) (h : NoD w v) : Calls Try.prog 74 #[v] w fun e w' => e = .returned (.int .i64 1) ∧ w = w' := by
  go_enter Try.func74, Try.ntmps74
  go_wp2_with fail
  refine (dcreated_no v w h).mono ?_
  rintro e w1 ⟨rfl, rfl⟩
  go_wp2_with fail
  go_ret
  exact ⟨rfl, rfl⟩
section
variable {S : Nat → Prop} {w : World} {B m mt : Nat} {D : Dd} {M : Lit → Option Value} {V : Nm → Value}
theorem dcreated_yes (h : DKx S w B m mt D M V) : Calls Try.prog 66 #[.pointer (some ⟨B, 0, none⟩)] w fun e w' => e = .returned (.bool true) ∧ w = w' := by
  have hnm := neq_fmap
  obtain ⟨-, c1, -⟩ := h.at
  clear h
  go_enter Try.func66, Try.ntmps66
  go_wp2_with fail
  go_ret
  exact ⟨rfl, rfl⟩
def pw (d : Bool) : Int := if d then 50 else 0
theorem dpower_any (h : DKx S w B m mt D M V) : Calls Try.prog 74 #[.pointer (some ⟨B, 0, none⟩)] w fun e w' => e = .returned (.int .i64 (pw D.down)) ∧ w = w' := by
  have H := Lib.hid h
  obtain ⟨-, -, -, c3, -⟩ := h.at
  clear h
  cases hd : D.down with
  | true =>
    rw [hd] at c3
    clear hd
    go_enter Try.func74, Try.ntmps74
    go_wp2_with fail
    refine (dcreated_yes H.out).mono ?_
    rintro e w1 ⟨rfl, rfl⟩
    go_wp2_with fail
    go_ret
    exact ⟨rfl, rfl⟩
  | false =>
    rw [hd] at c3
    clear hd
    go_enter Try.func74, Try.ntmps74
    go_wp2_with fail
    refine (dcreated_yes H.out).mono ?_
    rintro e w1 ⟨rfl, rfl⟩
    go_wp2_with fail
    go_ret
    exact ⟨rfl, rfl⟩
end
theorem possible_any (r : Int) (w : World) : Calls Try.prog 53 #[.int .i64 r] w fun e w' => e = .returned (.bool (decide (0 ≤ r) && decide (r ≤ 1048576))) ∧ w = w' := by
  by_cases h0 : 0 ≤ r
  · have d0 : decide (0 ≤ r) = true := decide_eq_true h0
    have d0' : decide (r ≥ 0) = true := decide_eq_true h0
    by_cases h1 : r ≤ 1048576
    · have d1 : decide (r ≤ 1048576) = true := decide_eq_true h1
      rw [d0, d1]
      clear h0 h1
      go_enter Try.func53, Try.ntmps53
      go_wp2_with fail
      go_ret
      exact ⟨rfl, rfl⟩
    · have d1 : decide (r ≤ 1048576) = false := decide_eq_false h1
      rw [d0, d1]
      clear h0 h1
      go_enter Try.func53, Try.ntmps53
      go_wp2_with fail
      go_ret
      exact ⟨rfl, rfl⟩
  · have d0 : decide (0 ≤ r) = false := decide_eq_false h0
    have d0' : decide (r ≥ 0) = false := decide_eq_false h0
    rw [d0]
    clear h0
    go_enter Try.func53, Try.ntmps53
    go_wp2_with fail
    go_ret
    exact ⟨rfl, rfl⟩
def validN (n : Nm) : Bool := decide (1 ≤ n.length ∧ n.length ≤ 16)
theorem valid_any (n : Nm) (w : World) : Calls Try.prog 75 #[encStr n] w fun e w' => e = .returned (.bool (validN n)) ∧ w = w' := by
  have hs : ((⟨n.toArray⟩ : ByteArray).size : Int) = (n.length : Int) := by show ((n.toArray.size : Nat) : Int) = _; simp
  by_cases h0 : 1 ≤ n.length
  · have d0 : decide (1 ≤ n.length) = true := decide_eq_true h0
    have d0' : decide ((n.length : Int) ≥ 1) = true := decide_eq_true (by omega)
    have d0'' : decide (1 ≤ (n.length : Int)) = true := decide_eq_true (by omega)
    by_cases h1 : n.length ≤ 16
    · have d1 : decide (n.length ≤ 16) = true := decide_eq_true h1
      have d1' : decide ((n.length : Int) ≤ 16) = true := decide_eq_true (by omega)
      have hv : validN n = true := decide_eq_true ⟨h0, h1⟩
      rw [hv]
      clear h0 h1 hv
      go_enter Try.func75, Try.ntmps75
      go_wp2_with fail
      go_ret
      exact ⟨rfl, rfl⟩
    · have d1 : decide (n.length ≤ 16) = false := decide_eq_false h1
      have d1' : decide ((n.length : Int) ≤ 16) = false := decide_eq_false (by omega)
      have hv : validN n = false := decide_eq_false (fun h => h1 h.2)
      rw [hv]
      clear h0 h1 hv
      go_enter Try.func75, Try.ntmps75
      go_wp2_with fail
      go_ret
      exact ⟨rfl, rfl⟩
  · have d0 : decide (1 ≤ n.length) = false := decide_eq_false h0
    have d0' : decide ((n.length : Int) ≥ 1) = false := decide_eq_false (by omega)
    have d0'' : decide (1 ≤ (n.length : Int)) = false := decide_eq_false (by omega)
    have hv : validN n = false := decide_eq_false (fun h => h0 h.1)
    rw [hv]
    clear h0 hv
    go_enter Try.func75, Try.ntmps75
    go_wp2_with fail
    go_ret
    exact ⟨rfl, rfl⟩
end Go.Proofs.Ytdkkpabemimmlaa

/- Nil dice, same, and the chapter's example. -/
import Derived.Test.YtfakgemifbgafaaDcE
import Derived.Deep.QuietTactic
import Derived.BigQuiet
namespace Go.Proofs.Ytfakgemifbgafaa
open Go.RowKit

theorem take_nil (k : Nat) (w : World) : Calls Try.prog 73 #[.pointer none, .int .i64 (k : Int)] w fun e w' => e = .returned (.slice none 0 0) ∧ w = w' := by
  by_cases h : k = 0
  · subst h
    go_enter Try.func73, Try.ntmps73
    go_wp2_with (go_at_call 43; refine (left_nil _).mono ?_; rintro e w' ⟨rfl, rfl⟩)
    go_ret
    exact ⟨rfl, rfl⟩
  · have d1 : decide ((k : Int) < 0) = false := by simp
    have d2 : decide (0 < (k : Int)) = true := by simp; omega
    have d3 : decide (0 < k) = true := by simp; omega
    go_enter Try.func73, Try.ntmps73
    go_wp2_with (go_at_call 43; refine (left_nil _).mono ?_; rintro e w' ⟨rfl, rfl⟩)
    go_ret
    exact ⟨rfl, rfl⟩
theorem number_nil (k : Nat) (w : World) : Calls Try.prog 69 #[.pointer none, .int .i64 (k : Int)] w fun e w' => e = .returned (.int .u64 0) ∧ w = w' := by
  have hT := take_nil k w
  go_enter Try.func69, Try.ntmps69
  go_wp2_with (go_at_call 73; refine hT.mono ?_; rintro e w' ⟨rfl, rfl⟩)
  go_loop [5, 12] (fun s i => i = .int .i64 0 ∧ s = .int .u64 0) (fun _ _ => 0)
  case atStart => exact ⟨rfl, rfl⟩
  case round =>
    obtain ⟨rfl, rfl⟩ := hrel
    go_wp2_with fail
    go_ret
    exact ⟨rfl, rfl⟩
theorem below_nil (n : Nat) (w : World) (hn : n < 18446744073709551616) : Calls Try.prog 44 #[.pointer none, .int .u64 (n : Int)] w fun e w' => e = .returned (.int .u64 0) ∧ w = w' := by
  by_cases h : n < 2
  · have d1 : decide ((n : Int) < 2) = true := by simp; omega
    have d2 : decide (n < 2) = true := by simp [h]
    go_enter Try.func44, Try.ntmps44
    go_wp2_with fail
    go_ret
    exact ⟨rfl, rfl⟩
  · obtain ⟨m, rfl⟩ : ∃ m, n = m + 1 := ⟨n - 1, by omega⟩
    have d1 : decide (((m + 1 : Nat) : Int) < 2) = false := by simp; omega
    have d2 : decide (m + 1 < 2) = false := by simp; omega
    have e1 : IntKind.u64.wrap (((m + 1 : Nat) : Int) - 1) = (m : Int) := by rw [IntKind.wrap_u64]; omega
    have hL := len64_int (m : Int) w (by omega) (by omega)
    rw [Int.toNat_natCast] at hL
    have hb := bitLen_le m (by omega)
    have hN := number_nil (sz m) w
    have hsz : (((bitLen m : Nat) : Int) + 7) / 8 = ((sz m : Nat) : Int) := by unfold sz; omega
    obtain ⟨l, hl⟩ : ∃ l, bitLen m = l := ⟨_, rfl⟩
    obtain ⟨s, hs⟩ : ∃ s, sz m = s := ⟨_, rfl⟩
    rw [hl] at hL hb hsz
    rw [hs] at hsz hN
    have l0 : (0 : Int) ≤ (l : Int) := by omega
    have l1 : (l : Int) ≤ 64 := by omega
    clear hl hs
    go_enter Try.func44, Try.ntmps44
    go_wp2_with fail
    refine hL.mono ?_
    rintro e w' ⟨rfl, rfl⟩
    go_wp2_with fail
    refine hN.mono ?_
    rintro e w' ⟨rfl, rfl⟩
    go_wp2_with fail
    go_ret
    exact ⟨ret_int (by simp), rfl⟩
theorem chance_nil (n : Nat) (k : Int) (w : World) (hn : n < 18446744073709551616) : Calls Try.prog 36 #[.pointer none, .int .u64 k, .int .u64 (n : Int)] w fun e w' => e = .returned (.bool (decide (0 < k))) ∧ w = w' := by
  have hB := below_nil n w hn
  go_enter Try.func36, Try.ntmps36
  go_wp2_with (go_at_call 44; refine hB.mono ?_; rintro e w' ⟨rfl, rfl⟩)
  go_ret
  exact ⟨rfl, rfl⟩
theorem wrap_low (low : Int) (h0 : -9223372036854775808 ≤ low) (h1 : low ≤ 9223372036854775807) : wrap64 low = low := IntWalk.wrap64_in _ ⟨by omega, by omega⟩
theorem between_nil (low high : Int) (w : World) (l0 : -9223372036854775808 ≤ low) (l1 : low ≤ 9223372036854775807) (h1 : high ≤ 9223372036854775807) : Calls Try.prog 34 #[.pointer none, .int .i64 low, .int .i64 high] w fun e w' => e = .returned (.int .i64 low) ∧ w = w' := by
  by_cases h : high < low
  · have d1 : decide (high < low) = true := by simp [h]
    go_enter Try.func34, Try.ntmps34
    go_wp2_with fail
    go_ret
    exact ⟨rfl, rfl⟩
  · have d1 : decide (high < low) = false := by simp; omega
    obtain ⟨a, ha⟩ : ∃ a, IntKind.u64.wrap high = a := ⟨_, rfl⟩
    obtain ⟨c, hc⟩ : ∃ c, IntKind.u64.wrap low = c := ⟨_, rfl⟩
    obtain ⟨d, hd⟩ : ∃ d, IntKind.u64.wrap (a - c) = d := ⟨_, rfl⟩
    have hwl := Lib.hid (wrap_low low l0 l1)
    by_cases h' : high - low = 18446744073709551615
    · have he : IntKind.u64.wrap (d + 1) = 0 := by rw [← hd, ← ha, ← hc]; simp only [IntKind.wrap_u64]; omega
      have hN := number_nil 8 w
      clear h h' l0 l1 h1
      go_enter Try.func34, Try.ntmps34
      go_wp2_with (go_at_call 69; refine hN.mono ?_; rintro e w' ⟨rfl, rfl⟩)
      go_ret
      exact ⟨ret_int (by first | rfl | exact hwl.out | (rw [Int.add_zero]; exact hwl.out)), rfl⟩
    · obtain ⟨N, hN0⟩ : ∃ N : Nat, high - low + 1 = (N : Int) := ⟨(high - low + 1).toNat, by omega⟩
      have he : IntKind.u64.wrap (d + 1) = (N : Int) := by rw [← hd, ← ha, ← hc]; simp only [IntKind.wrap_u64]; omega
      have hz : ((N : Int) == 0) = false := by rw [beq_eq_false_iff_ne]; omega
      have hz' : decide ((N : Int) = 0) = false := decide_eq_false (by omega)
      have hB := below_nil N w (by omega)
      clear h h' l0 l1 h1 hN0
      go_enter Try.func34, Try.ntmps34
      go_wp2_with (go_at_call 44; refine hB.mono ?_; rintro e w' ⟨rfl, rfl⟩)
      go_ret
      exact ⟨ret_int (by first | rfl | exact hwl.out | (rw [Int.add_zero]; exact hwl.out)), rfl⟩

/-- A row of numbers, or none, that can be read. -/
def Rdi (v : Value) (l : List Int) (w : World) : Prop := ∃ a c, v = .slice a l.length c ∧ (0 < l.length → ∃ g, a = some ⟨g, 0, none⟩ ∧ ∀ i, i < l.length → w.cell? ⟨g, i, none⟩ = some (.int .i64 (l.getD i 0)))
theorem RowI.rdi {B : Nat} {v : Value} {l : List Int} {w : World} (h : RowI B v l w) : Rdi v l w := by
  obtain ⟨g, c, h1, _, h2⟩ := h
  exact ⟨_, c, h1, fun _ => ⟨g, rfl, h2⟩⟩
theorem RowI.only {Y : Nat → Prop} {B : Nat} {v : Value} {l : List Int} {w w' : World} (h : RowI B v l w) (hY : ∀ k, Y k → k < B) (o : Only Y w w') : RowI B v l w' := by
  obtain ⟨g, c, h1, hg, h2⟩ := h
  exact ⟨g, c, h1, hg, fun i hi => (o.cell (p := ⟨g, i, none⟩) (cell_spot (h2 i hi)).2 (fun h => by have := hY _ h; simp at this; omega)).trans (h2 i hi)⟩
theorem rdi_nil (w : World) : Rdi (.slice none 0 0) [] w := ⟨none, 0, rfl, fun h => by simp at h⟩

set_option maxRecDepth 100000 in
set_option maxHeartbeats 1600000 in
theorem same_yes (a b : Value) (l : List Int) (w : World) (ha : Rdi a l w) (hb : Rdi b l w) (hl : l.length ≤ 65536) : Calls Try.prog 38 #[a, b] w fun e w' => e = .returned (.bool true) ∧ ∃ n, w' = w.drewN n := by
  obtain ⟨a0, c0, rfl, h1⟩ := ha
  obtain ⟨b0, c1, rfl, h2⟩ := hb
  go_enter Try.func38, Try.ntmps38
  go_wp2_with fail
  go_loopw [5, 13] (fun _ i wr => ∃ k : Nat, k ≤ l.length ∧ i = .int .i64 k ∧ ∃ n, wr = w.drewN n) (fun _ i _ => l.length - (intOf i).toNat)
  case atStart => exact ⟨0, Nat.zero_le _, rfl, 0, rfl⟩
  case round =>
    obtain ⟨k, hk, rfl, q, rfl⟩ := hrel
    by_cases hlt : k < l.length
    · obtain ⟨g, rfl, hg⟩ := h1 (by omega)
      obtain ⟨g', rfl, hg'⟩ := h2 (by omega)
      have e1 := hg k hlt
      have e2 := hg' k hlt
      obtain ⟨x, hx⟩ : ∃ x, l.getD k 0 = x := ⟨_, rfl⟩
      rw [hx] at e1 e2
      have k0 : (0 : Int) ≤ (k : Int) := by omega
      have kl : (k : Int) < (l.length : Int) := by omega
      have d1 : decide ((k : Int) < (l.length : Int)) = true := by simp [hlt]
      clear hg hg' hx h1 h2
      go_wp2_with fail
      go_quiet (fail)
      go_wp2_with fail
      go_roundw
      case rel => exact ⟨k + 1, by omega, by go_num, _, rfl⟩
      case measure => simp [intOf]; omega
    · obtain rfl : k = l.length := by omega
      have d1 : decide (((l.length : Nat) : Int) < (l.length : Int)) = false := by simp
      clear h1 h2
      go_wp2_with fail
      go_ret
      exact ⟨rfl, q, rfl⟩

/-- Dice out of New. -/
theorem fresh_dic {w w' : World} {bs : List Nat} {b : Nat} {v : Value} (X : Nat → Prop) (hX : X b) (hX' : ∀ k, w.heap.size ≤ k → k < b → ¬ X k) (hb : b < w'.heap.size) (c0 : w'.cell? ⟨b, 0, none⟩ = some (.bool true)) (c1 : w'.cell? ⟨b, 1, none⟩ = some v) (r : RB w' v bs)
    (ho : ∀ k, v.ownBlock = some k → w.heap.size ≤ k ∧ k < b) (f : ∀ j, w'.frozen? ⟨b, j, none⟩ = false) : Dic X b bs w' :=
  ⟨hX, c0, ⟨v, c1, r, fun k hk => hX' k (ho k hk).1 (ho k hk).2, fun k hk => by have := (ho k hk).2; omega⟩, f⟩
theorem below4 : below 4 [5, 1, 2] = (1, [1, 2]) := by decide +kernel
theorem below1000 : below 1000 [1, 2] = (513, []) := by decide +kernel

set_option maxRecDepth 100000 in
set_option maxHeartbeats 1600000 in
theorem lives6 (w : World) : Calls Try.prog 32 #[] w fun e w' => e = .returned (.bool true) ∧ Below w.heap.size w w' := by
  go_enter Try.func32, Try.ntmps32
  go_wp2_with fail
  obtain ⟨w0, hw0⟩ : ∃ w0, w.alloc (.cells #[.int .u8 5, .int .u8 1, .int .u8 2] 5) = w0 := ⟨_, rfl⟩
  have B0 : Below w.heap.size w w0 := by rw [← hw0]; exact (Below.refl _ _).alloc (Nat.le_refl _) _
  have R0 : RB w0 (.slice (some ⟨w.heap.size, 0, none⟩) 3 3) [5, 1, 2] := by
    refine ⟨by decide, by decide, .inr ⟨_, 3, rfl, by decide, by decide, fun i hi => ?_⟩⟩
    rw [← hw0, add_at, Nat.zero_add, World.cell?_alloc_at _ _ _ _ rfl]
    have hi' : i < 3 := hi
    iterate 3 (rcases i with _ | i; · rfl)
    omega
  rw [hw0]
  clear hw0
  refine (new_dice _ _ w0 R0).mono ?_
  rintro e w1 ⟨b, v, rfl, hb0, hb1, B1, c0, c1, r, ho, f⟩
  have D1 : Dic (· = b) b [5, 1, 2] w1 := fresh_dic (· = b) rfl (fun k _ h => by omega) hb1 c0 c1 r ho f
  have O1 : Below w.heap.size w w1 := B0.trans (B1.mono B0.size)
  have hbw : w.heap.size ≤ b := Nat.le_trans B0.size hb0
  clear B0 B1 R0 c0 c1 r ho f hb0 hb1
  have hB := below_any b 4 _ w1 D1 (by decide)
  rw [below4] at hB
  go_wp2_with fail
  refine hB.mono ?_
  rintro e w2 ⟨rfl, D2, O2⟩
  have hB2 := below_any b 1000 _ w2 D2 (by decide)
  rw [below1000] at hB2
  clear hB D1
  go_wp2_with fail
  refine hB2.mono ?_
  rintro e w3 ⟨rfl, D3, O3⟩
  clear hB2 D2
  go_wp2_with fail
  refine (left_dic b _ w3 D3).mono ?_
  rintro e w4 ⟨rfl, rfl⟩
  go_wp2_with fail
  go_ret
  exact ⟨rfl, O1.trans ((O2.trans O3).toBelow O1.size fun k hk => by omega)⟩
end Go.Proofs.Ytfakgemifbgafaa

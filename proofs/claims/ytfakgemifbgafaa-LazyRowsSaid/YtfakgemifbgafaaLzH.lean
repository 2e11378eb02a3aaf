/- A row of a table, asked for the first time; At; and the walk of LazySizes. -/
import Derived.Test.YtfakgemifbgafaaLzG
namespace Go.Proofs.Ytfakgemifbgafaa
open Go.RowKit

set_option maxRecDepth 100000 in
theorem add_deferred (a : Addr) (x y s : Int) (u : FrameMode) (hs : wrap64 (x + y) = s) (w : World) (hc : w.cell? a = some (.int .i64 x)) (hz : w.frozen? a = false) :
    CallsD Try.prog 48 #[.pointer (some a), .int .i64 y] u w fun e u' w' => u' = u ∧ (e = .returned (.int .i64 s) ∧ w.setCell a (.int .i64 s) = w') := by
  have hadd := run_call_add (P := Try.prog) Try.func76 (by kernel_rfl) (by kernel_rfl) (by kernel_rfl) .i64 (by kernel_rfl) (y := y) (s := s) hc hz (by simp [go_sem, IntKind.wrap_i64, ← hs, wrap64])
  go_enter_d Try.func48, Try.ntmps48
  go_wp2
  go_ret
  exact ⟨rfl, rfl⟩

theorem row_zero (i : Int) (w : World) : Calls Try.prog 52 #[.int .i64 i] w fun e w' => e = .returned (.int .i64 0) ∧ w = w' := by
  go_enter Try.func52, Try.ntmps52
  go_wp2
  go_ret
  exact ⟨rfl, rfl⟩

set_option maxRecDepth 100000 in
set_option maxHeartbeats 1600000 in
theorem row2_zero (tb vt vr vi : Nat) (i m m1 : Int) (w : World) (hs : wrap64 (m + 1) = m1) (ht : w.cell? ⟨vt, 0, none⟩ = some (.pointer (some ⟨tb, 0, none⟩))) (hr : w.cell? ⟨vr, 0, none⟩ = some (.func (.func 52) #[] #[]))
    (hi : w.cell? ⟨vi, 0, none⟩ = some (.int .i64 i)) (hm : w.cell? ⟨tb, 1, none⟩ = some (.int .i64 m)) (hz : w.frozen? ⟨tb, 1, none⟩ = false) :
    Calls Try.prog 53 #[.pointer (some ⟨vt, 0, none⟩), .pointer (some ⟨vr, 0, none⟩), .pointer (some ⟨vi, 0, none⟩)] w fun e w' => e = .returned (.int .i64 0) ∧ w.setCell ⟨tb, 1, none⟩ (.int .i64 m1) = w' := by
  go_enter_defers Try.func53, Try.ntmps53
  go_wp2_with (go_at_call 52; refine (row_zero _ _).mono ?_; rintro e w' ⟨rfl, rfl⟩)
  refine leaves_cons (f := 48) (args := #[.pointer (some ⟨tb, 1, none⟩), .int .i64 1]) (by simp) (by simp [go_sem]) ?_
  refine (add_deferred ⟨tb, 1, none⟩ m 1 m1 .returning hs _ hm hz).mono ?_
  rintro e u' w'' ⟨rfl, rfl, rfl⟩
  simp only [Leaves, settle]
  exact ⟨_, results_tmp rfl _ _ _, rfl, trivial⟩

set_option maxRecDepth 100000 in
theorem len_some (tb : Nat) (a : Option Addr) (n c : Nat) (w : World) (hr : w.cell? ⟨tb, 0, none⟩ = some (.slice a n c)) : Calls Try.prog 20 #[.pointer (some ⟨tb, 0, none⟩)] w fun e w' => e = .returned (.int .i64 n) ∧ w = w' := by
  go_enter Try.func20, Try.ntmps20
  go_wp2
  go_ret
  exact ⟨rfl, rfl⟩
set_option maxRecDepth 100000 in
theorem at_none (tb : Nat) (a : Option Addr) (n c : Nat) (i : Int) (w : World) (hr : w.cell? ⟨tb, 0, none⟩ = some (.slice a n c)) (h : i < 0 ∨ (n : Int) ≤ i) :
    Calls Try.prog 18 #[.pointer (some ⟨tb, 0, none⟩), .int .i64 i] w fun e w' => e = .returned (.tuple #[.int .i64 0, .bool false]) ∧ w = w' := by
  by_cases h0 : i < 0
  · have h1 : decide (i < 0) = true := by simp [h0]
    go_enter Try.func18, Try.ntmps18
    go_wp2_with (go_at_call 20; refine (len_some tb a n c w hr).mono ?_; rintro e w' ⟨rfl, rfl⟩)
    go_ret2
    exact ⟨rfl, rfl⟩
  · have h1 : decide (i < 0) = false := by simp [h0]
    have h2 : decide ((n : Int) ≤ i) = true := by simp; omega
    have h3 : decide (i ≥ (n : Int)) = true := by simp; omega
    go_enter Try.func18, Try.ntmps18
    go_wp2_with (go_at_call 20; refine (len_some tb a n c w hr).mono ?_; rintro e w' ⟨rfl, rfl⟩)
    go_ret2
    exact ⟨rfl, rfl⟩
set_option maxRecDepth 100000 in
set_option maxHeartbeats 1600000 in
theorem at_some (tb rb cb : Nat) (n c i : Nat) (v : Int) (w : World) (R : World → Prop) (hr : w.cell? ⟨tb, 0, none⟩ = some (.slice (some ⟨rb, 0, none⟩) n c)) (hi : i < n) (hc : w.cell? ⟨rb, i, none⟩ = some (.pointer (some ⟨cb, 0, none⟩)))
    (hG : Calls Try.prog 14 #[.pointer (some ⟨cb, 0, none⟩)] w fun e w' => e = .returned (.int .i64 v) ∧ R w') :
    Calls Try.prog 18 #[.pointer (some ⟨tb, 0, none⟩), .int .i64 i] w fun e w' => e = .returned (.tuple #[.int .i64 v, .bool true]) ∧ R w' := by
  have h1 : decide ((i : Int) < 0) = false := by simp
  have h2 : decide ((n : Int) ≤ (i : Int)) = false := by simp; omega
  have h3 : decide ((i : Int) ≥ (n : Int)) = false := by simp; omega
  have hk0 : (0 : Int) ≤ (i : Int) := by omega
  have hkn : (i : Int) < (n : Int) := by omega
  go_enter Try.func18, Try.ntmps18
  go_wp2_with (first
    | (go_at_call 20; refine (len_some tb _ n c w hr).mono ?_; rintro e w' ⟨rfl, rfl⟩)
    | (go_at_call 14; refine hG.mono ?_; rintro e w' ⟨rfl, hR⟩))
  go_ret2
  exact ⟨rfl, hR⟩

set_option maxRecDepth 100000 in
/-- A row of a table without a function, asked for the first time. -/
theorem get_row_zero (N n i : Nat) (w : World) (T : Tab N n n (.func (.func 52) #[] #[]) w) (hi : i < n) :
    Calls Try.prog 14 #[.pointer (some ⟨N + 5 + 2 * i, 0, none⟩)] w fun e w' => e = .returned (.int .i64 0) ∧ (Only (fun k => N ≤ k) w w' ∧ w'.cell? ⟨N + 1, 0, none⟩ = some (.slice (some ⟨N + 3, 0, none⟩) n n)) := by
  have hs := T.size
  have O := atBuild_only (N + 5 + 2 * i) 1 w
  have old : ∀ b o x, ¬ b = N + 5 + 2 * i → w.cell? ⟨b, o, none⟩ = some x → (atBuild (N + 5 + 2 * i) 1 w).cell? ⟨b, o, none⟩ = some x := fun b o x hne hx => (O.cell (lt_of_cell hx) hne).trans hx
  have hz : (atBuild (N + 5 + 2 * i) 1 w).frozen? ⟨N + 1, 1, none⟩ = false := (World.frozen?_of_block (a := ⟨N + 1, 1, none⟩) (O.block (N + 1) (by omega) (by omega))).trans (T.free _ (by simp))
  have r := row2_zero (N + 1) (N + 2) N (N + 4 + 2 * i) i 0 1 (atBuild (N + 5 + 2 * i) 1 w) (by simp [wrap64]) (old _ _ _ (by omega) T.t) (old _ _ _ (by omega) T.row) (old _ _ _ (by omega) (T.ix i hi)) (old _ _ _ (by omega) T.made) hz
  have g := get_fn 53 _ (N + 5 + 2 * i) 0 0 0 0 1 w (fun w2 => Only (fun k => N ≤ k) w w2 ∧ w2.cell? ⟨N + 1, 0, none⟩ = some (.slice (some ⟨N + 3, 0, none⟩) n n)) (by simp [wrap64]) (fun _ => by first | rfl | kernel_rfl | simp [go_sem]) (T.cel i hi)
    (r.mono (by
      rintro e w' ⟨rfl, rfl⟩
      refine ⟨rfl, Below.heap_setCell _ _ _ _ (by simp <;> omega), (O.more fun k hk => by omega).setCell _ _ (by simp), ?_⟩
      exact (World.cell?_setCell_other _ ⟨N + 1, 1, none⟩ ⟨N + 1, 0, none⟩ _ (by simp)).trans (old _ _ _ (by omega) T.rows)))
  refine g.mono ?_
  rintro e w' ⟨rfl, _, w2, ⟨h1, h2⟩, P, _⟩
  exact ⟨rfl, h1.trans (P.more fun k hk => by omega), (P.cell (lt_of_cell h2) (by simp <;> omega)).trans h2⟩
end Go.Proofs.Ytfakgemifbgafaa

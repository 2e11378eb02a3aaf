/- The function that LazyRows hands to Rows, and a row made by it. -/
import Derived.Test.YtfakgemifbgafaaLzI
namespace Go.Proofs.Ytfakgemifbgafaa
open Go.RowKit

set_option maxRecDepth 100000 in
set_option maxHeartbeats 1600000 in
theorem lrow_in (pl pc lb lo cb n c c' i : Nat) (x y v : Int) (w : World) (hi : i < n) (hl : w.cell? ⟨pl, 0, none⟩ = some (.slice (some ⟨lb, lo, none⟩) n c)) (hc : w.cell? ⟨pc, 0, none⟩ = some (.slice (some ⟨cb, 0, none⟩) n c'))
    (hx : w.cell? ⟨cb, i, none⟩ = some (.int .i64 x)) (hv : w.cell? ⟨lb, lo + i, none⟩ = some (.int .i64 v)) (hz : w.frozen? ⟨cb, i, none⟩ = false) (hy : wrap64 (x + 1) = y) (h1 : ¬ cb = lb) (h2 : ¬ cb = pl) (h3 : ¬ cb = pc) :
    Calls Try.prog 17 #[.int .i64 i, .pointer (some ⟨pl, 0, none⟩), .pointer (some ⟨pc, 0, none⟩)] w fun e w' => e = .returned (.int .i64 v) ∧ w.setCell ⟨cb, i, none⟩ (.int .i64 y) = w' := by
  have d1 : decide ((i : Int) < 0) = false := by simp
  have d2 : decide ((n : Int) ≤ (i : Int)) = false := by simp; omega
  have d3 : decide ((i : Int) ≥ (n : Int)) = false := by simp; omega
  have d4 : decide (n ≤ i) = false := by simp; omega
  have hk0 : (0 : Int) ≤ (i : Int) := by omega
  have hkn : (i : Int) < (n : Int) := by omega
  have hl' : (w.setCell ⟨cb, i, none⟩ (.int .i64 y)).cell? ⟨pl, 0, none⟩ = some (.slice (some ⟨lb, lo, none⟩) n c) := (World.cell?_setCell_other _ ⟨cb, i, none⟩ ⟨pl, 0, none⟩ _ (fun e => h2 (by injection e))).trans hl
  have hv' : (w.setCell ⟨cb, i, none⟩ (.int .i64 y)).cell? ⟨lb, lo + i, none⟩ = some (.int .i64 v) := (World.cell?_setCell_other _ ⟨cb, i, none⟩ ⟨lb, lo + i, none⟩ _ (fun e => h1 (by injection e))).trans hv
  go_enter Try.func17, Try.ntmps17
  go_wp2_with fail
  go_ret
  exact ⟨rfl, rfl⟩

set_option maxRecDepth 100000 in
set_option maxHeartbeats 1600000 in
/-- The closure that makes row i, over a function whose contract is given. -/
theorem row2_fn (tb vt vr vi : Nat) (a b : Addr) (i v m m1 : Int) (w : World) (R : World → Prop) (hs : wrap64 (m + 1) = m1) (ht : w.cell? ⟨vt, 0, none⟩ = some (.pointer (some ⟨tb, 0, none⟩))) (hr : w.cell? ⟨vr, 0, none⟩ = some (.func (.func 17) #[] #[.pointer (some a), .pointer (some b)]))
    (hi : w.cell? ⟨vi, 0, none⟩ = some (.int .i64 i))
    (hF : Calls Try.prog 17 #[.int .i64 i, .pointer (some a), .pointer (some b)] w fun e w' => e = .returned (.int .i64 v) ∧ w'.cell? ⟨tb, 1, none⟩ = some (.int .i64 m) ∧ w'.frozen? ⟨tb, 1, none⟩ = false ∧ R w') :
    Calls Try.prog 53 #[.pointer (some ⟨vt, 0, none⟩), .pointer (some ⟨vr, 0, none⟩), .pointer (some ⟨vi, 0, none⟩)] w fun e w' => e = .returned (.int .i64 v) ∧ ∃ w2, R w2 ∧ w2.setCell ⟨tb, 1, none⟩ (.int .i64 m1) = w' := by
  go_enter_defers Try.func53, Try.ntmps53
  go_wp2_with (go_at_call 17; refine hF.mono ?_; rintro e w2 ⟨rfl, hm, hz, hR⟩)
  refine leaves_cons (f := 48) (args := #[.pointer (some ⟨tb, 1, none⟩), .int .i64 1]) (by simp) (by simp [go_sem]) ?_
  refine (add_deferred ⟨tb, 1, none⟩ m 1 m1 .returning hs _ hm hz).mono ?_
  rintro e u' w'' ⟨rfl, rfl, rfl⟩
  simp only [Leaves, settle]
  exact ⟨_, results_tmp rfl _ _ _, rfl, _, hR, rfl⟩
end Go.Proofs.Ytfakgemifbgafaa

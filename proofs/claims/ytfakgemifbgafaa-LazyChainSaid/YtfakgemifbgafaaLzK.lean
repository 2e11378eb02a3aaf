/- The function of a cell in a chain, and a chain asked for the first time. -/
import Derived.Test.YtfakgemifbgafaaLzH
namespace Go.Proofs.Ytfakgemifbgafaa
open Go.RowKit

set_option maxRecDepth 100000 in
set_option maxHeartbeats 1600000 in
theorem chain_zero (pc pi pl ps lb lo ab n c c' : Nat) (x y v : Int) (w : World) (hn : 0 < n) (hl : w.cell? ⟨pl, 0, none⟩ = some (.slice (some ⟨lb, lo, none⟩) n c)) (hc : w.cell? ⟨pc, 0, none⟩ = some (.slice (some ⟨ab, 0, none⟩) n c'))
    (hi : w.cell? ⟨pi, 0, none⟩ = some (.int .i64 0)) (hx : w.cell? ⟨ab, 0, none⟩ = some (.int .i64 x)) (hv : w.cell? ⟨lb, lo, none⟩ = some (.int .i64 v)) (hz : w.frozen? ⟨ab, 0, none⟩ = false) (hy : wrap64 (x + 1) = y)
    (h1 : ¬ ab = lb) (h2 : ¬ ab = pl) (h3 : ¬ ab = pi) :
    Calls Try.prog 13 #[.pointer (some ⟨pc, 0, none⟩), .pointer (some ⟨pi, 0, none⟩), .pointer (some ⟨pl, 0, none⟩), .pointer (some ⟨ps, 0, none⟩)] w fun e w' => e = .returned (.int .i64 v) ∧ w.setCell ⟨ab, 0, none⟩ (.int .i64 y) = w' := by
  have hkn : (0 : Int) < (n : Int) := by omega
  have hl' : (w.setCell ⟨ab, 0, none⟩ (.int .i64 y)).cell? ⟨pl, 0, none⟩ = some (.slice (some ⟨lb, lo, none⟩) n c) := (World.cell?_setCell_other _ ⟨ab, 0, none⟩ ⟨pl, 0, none⟩ _ (fun e => h2 (by injection e))).trans hl
  have hi' : (w.setCell ⟨ab, 0, none⟩ (.int .i64 y)).cell? ⟨pi, 0, none⟩ = some (.int .i64 0) := (World.cell?_setCell_other _ ⟨ab, 0, none⟩ ⟨pi, 0, none⟩ _ (fun e => h3 (by injection e))).trans hi
  have hv' : (w.setCell ⟨ab, 0, none⟩ (.int .i64 y)).cell? ⟨lb, lo, none⟩ = some (.int .i64 v) := (World.cell?_setCell_other _ ⟨ab, 0, none⟩ ⟨lb, lo, none⟩ _ (fun e => h1 (by injection e))).trans hv
  go_enter Try.func13, Try.ntmps13
  go_wp2_with fail
  go_ret
  exact ⟨rfl, rfl⟩

set_option maxRecDepth 100000 in
set_option maxHeartbeats 1600000 in
theorem chain_succ (pc pi pl ps lb lo ab sb cb n c c' c'' i : Nat) (x y v u : Int) (w : World) (R : World → Prop) (hn : i + 1 < n) (hn' : n ≤ 100) (hl : w.cell? ⟨pl, 0, none⟩ = some (.slice (some ⟨lb, lo, none⟩) n c)) (hc : w.cell? ⟨pc, 0, none⟩ = some (.slice (some ⟨ab, 0, none⟩) n c'))
    (hs : w.cell? ⟨ps, 0, none⟩ = some (.slice (some ⟨sb, 0, none⟩) n c'')) (hp : w.cell? ⟨sb, i, none⟩ = some (.pointer (some ⟨cb, 0, none⟩)))
    (hi : w.cell? ⟨pi, 0, none⟩ = some (.int .i64 (((i + 1 : Nat) : Int)))) (hx : w.cell? ⟨ab, i + 1, none⟩ = some (.int .i64 x)) (hv : w.cell? ⟨lb, lo + (i + 1), none⟩ = some (.int .i64 v)) (hz : w.frozen? ⟨ab, i + 1, none⟩ = false) (hy : wrap64 (x + 1) = y)
    (h1 : ¬ ab = lb) (h2 : ¬ ab = pl) (h3 : ¬ ab = pi) (h4 : ¬ ab = ps) (h5 : ¬ ab = sb)
    (hG : Calls Try.prog 14 #[.pointer (some ⟨cb, 0, none⟩)] (w.setCell ⟨ab, i + 1, none⟩ (.int .i64 y)).drew fun e w' => e = .returned (.int .i64 u) ∧
      (w'.cell? ⟨pl, 0, none⟩ = some (.slice (some ⟨lb, lo, none⟩) n c) ∧ w'.cell? ⟨pi, 0, none⟩ = some (.int .i64 ((i : Int) + 1)) ∧ w'.cell? ⟨lb, lo + (i + 1), none⟩ = some (.int .i64 v) ∧ w'.cell? ⟨ps, 0, none⟩ = some (.slice (some ⟨sb, 0, none⟩) n c'') ∧ w'.cell? ⟨sb, i, none⟩ = some (.pointer (some ⟨cb, 0, none⟩))) ∧ R w') :
    Calls Try.prog 13 #[.pointer (some ⟨pc, 0, none⟩), .pointer (some ⟨pi, 0, none⟩), .pointer (some ⟨pl, 0, none⟩), .pointer (some ⟨ps, 0, none⟩)] w fun e w' => e = .returned (.int .i64 (bits .xor .i64 v u)) ∧ R w' := by
  have hk0 : (0 : Int) ≤ ((i + 1 : Nat) : Int) := by omega
  have hkn : ((i + 1 : Nat) : Int) < (n : Int) := by omega
  have he : decide (((i + 1 : Nat) : Int) = 0) = false := by simp; omega
  have he' : (((i + 1 : Nat) : Int) == 0) = false := by simp; omega
  obtain ⟨w1, hw1⟩ : ∃ w1, w.setCell ⟨ab, i + 1, none⟩ (.int .i64 y) = w1 := ⟨_, rfl⟩
  have other : ∀ b o, ¬ ab = b → w1.cell? ⟨b, o, none⟩ = w.cell? ⟨b, o, none⟩ := by
    intro b o hb
    rw [← hw1]
    exact World.cell?_setCell_other _ ⟨ab, i + 1, none⟩ ⟨b, o, none⟩ _ (fun e => hb (by injection e))
  have hl' := (other _ _ h2).trans hl
  have hi' := (other _ _ h3).trans hi
  have hv' := (other _ _ h1).trans hv
  have hs' := (other _ _ h4).trans hs
  have hp' := (other _ _ h5).trans hp
  have hi'' : w1.cell? ⟨pi, 0, none⟩ = some (.int .i64 ((i : Int) + 1)) := by rw [hi']; rfl
  have hsb : wrap64 ((i : Int) + 1 - 1) = (i : Int) := by unfold wrap64; omega
  have hsb' : wrap64 (i : Int) = (i : Int) := by unfold wrap64; omega
  have hwa : IntKind.i64.wrap ((i : Int) + 1 - 1) = (i : Int) := by rw [IntKind.wrap_i64]; omega
  have hwb : IntKind.i64.wrap (i : Int) = (i : Int) := by rw [IntKind.wrap_i64]; omega
  have k1 : (0 : Int) ≤ (i : Int) + 1 := by omega
  have k2 : (i : Int) + 1 < (n : Int) := by omega
  have k3 : (0 : Int) ≤ (i : Int) := by omega
  have k4 : (i : Int) < (n : Int) := by omega
  rw [hw1] at hG
  clear other
  go_enter Try.func13, Try.ntmps13
  go_wp2_with fail
  go_region_held3 (fun w' => w'.cell? ⟨pl, 0, none⟩ = some (.slice (some ⟨lb, lo, none⟩) n c) ∧ w'.cell? ⟨pi, 0, none⟩ = some (.int .i64 ((i : Int) + 1)) ∧ w'.cell? ⟨lb, lo + (i + 1), none⟩ = some (.int .i64 v) ∧ w'.cell? ⟨ps, 0, none⟩ = some (.slice (some ⟨sb, 0, none⟩) n c'') ∧ w'.cell? ⟨sb, i, none⟩ = some (.pointer (some ⟨cb, 0, none⟩)))
    (first | exact ⟨hl', hi'', hv', hs', hp'⟩ | assumption | go_keep)
    (first | (go_at_call 14; refine hG.mono ?_; rintro e w2 ⟨rfl, hK, hR⟩))
  go_wp2_with fail
  go_ret
  exact ⟨rfl, hR⟩
end Go.Proofs.Ytfakgemifbgafaa

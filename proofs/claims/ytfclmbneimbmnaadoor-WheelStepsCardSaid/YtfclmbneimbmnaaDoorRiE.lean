/- A ring's Look. -/
import Derived.Test.YtfclmbneimbmnaaDoorRiD
namespace Go.Proofs.YtfclmbneimbmnaaDoor
open Go.RowKit

set_option maxRecDepth 100000 in
set_option maxHeartbeats 4000000 in
theorem look_any {r b s : Nat} {V : Nat → Value} {S : Nat → List Th} {M : Int → Option (Nat × Nat)} (w : World) (h : Rn w r b V S M) (hs : s < 64) :
    Calls Tryd.prog 73 #[.pointer (some ⟨r, 0, none⟩), .int .i64 s] w fun e w' => ∃ v, e = .returned v ∧ OT w' w.heap.size v (srt ltT zT (S s)) ∧ Below w.heap.size w w' := by
  obtain ⟨n, hn⟩ : ∃ n, (S s).length = n := ⟨_, rfl⟩
  have hn6 : n < 1000000 := by rw [← hn]; exact Nat.lt_of_le_of_lt (tot_ge S 64 hs) h.few
  have hrow := h.rw.row s hs
  obtain ⟨va, vc, hV⟩ := hrow.shape
  rw [hn] at hV
  have hc := created_yes r b w h.rg.map
  have hh := has_yes s hs w
  have c0 := h.rg.slot s hs
  rw [hV] at c0
  obtain ⟨i, hi, hz0, hz1, hz2⟩ := info_parts th_info
  obtain ⟨w1, hmk, hown1, hg1⟩ := run_makeSlice_full (P := Tryd.prog) (w := w) w.heap.size 22 27 i _ 3 Tryd.underlying22 hi hz0 hz1 .i64 .i64 n (by omega) (by rw [hz2]; omega) (by unfold maxLen; omega) (Nat.le_refl _)
  have b1 : Below w.heap.size w w1 := (grown_only hg1 (fun _ => False) (fun k hk => by cases hk)).toBelow (Nat.le_refl _) (fun k hk => hk.elim)
  have h1 := h.below b1
  have hrow1 := h1.rw.row s hs
  have c1 := h1.rg.slot s hs
  rw [hV] at c1
  obtain ⟨w2, hcp, hO2, ho2⟩ := run_copy_th w1 3 w.heap.size w.heap.size n va vc n _ (S s) hn hown1 rfl (fun h0 => by
    obtain ⟨a', c', ev, hT⟩ := hrow1.reads
    rw [hV] at ev
    injection ev with e1 _ _
    subst e1
    obtain ⟨B, o, e, _⟩ := hT 0 (by omega)
    subst e
    exact ⟨_, rfl, hT.news⟩)
  have b2 : Below w.heap.size w w2 := b1.trans (ho2.toBelow b1.size (fun k hk => by omega))
  have hso := sort_any w2 hO2 (by omega)
  have HB2 := Lib.hid b2
  have HO2 := Lib.hid hO2
  have hs0 : (0 : Int) ≤ (s : Int) := by omega
  have hs64 : (s : Int) < 64 := by omega
  clear b1 h1 hrow1 hrow h hown1 hg1 hO2 ho2 b2
  go_enter Tryd.func73, Tryd.ntmps73
  go_wp2_with (first
    | (go_at_call 77; with_reducible refine hc.mono ?_; rintro e w3 ⟨rfl, rfl⟩)
    | (go_at_call 109; with_reducible refine hh.mono ?_; rintro e w3 ⟨rfl, rfl⟩)
    | (go_at_call 19; with_reducible refine hso.mono ?_; rintro e w3 ⟨rfl, hO3, ho3⟩; have HO3 := Lib.hid (And.intro hO3 ho3); clear hO3 ho3))
  go_ret
  exact ⟨_, rfl, HO3.out.1, HB2.out.trans (HO3.out.2.toBelow HB2.out.size (fun k hk => (World.ownsRow.lt HO2.out k hk).1))⟩
end Go.Proofs.YtfclmbneimbmnaaDoor

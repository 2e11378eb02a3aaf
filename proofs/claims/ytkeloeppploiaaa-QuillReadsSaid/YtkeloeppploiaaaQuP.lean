/- The walk of the chapter's example. -/
import Derived.Test.YtkeloeppploiaaaQuO
namespace Go.Proofs.Ytkeloeppploiaaa
open Go.RowKit

theorem rb_ex (w : World) (b : Nat) (hb : b = w.heap.size) : RB (w.alloc (.cells #[.int .u8 2, .int .u8 1, .int .u8 44] 5)) (.slice (some ⟨b, 0, none⟩) 3 3) [2, 1, 44] := by
  subst hb
  refine ⟨by decide, by simp, .inr ⟨_, _, rfl, by simp, by simp [maxLen], ?_⟩⟩
  intro i hi
  have : i = 0 ∨ i = 1 ∨ i = 2 := by simp at hi; omega
  rcases this with rfl | rfl | rfl <;> (rw [add_at]; simp)
theorem wr_new (w : World) (b : Nat) (hb : b = w.heap.size) : WR (w.alloc (.cells #[.slice none 0 0] 29)) b (b + 1) (.slice none 0 0) [] := by
  subst hb
  exact ⟨heap_alloc_new w _, by omega, by simp, World.ownsRow_nil _ _ _ _, by simp⟩
theorem ex_str : str (([] ++ num 0 300) ++ intB (-300)) = { data := #[2, 1, 44, 130, 1, 43] } := by decide +kernel
theorem ex_num : rNum 300 [2, 1, 44] = some (300, []) := by decide +kernel

set_option maxHeartbeats 1000000 in
theorem lives1 (w : World) : Calls Try.prog 13 #[] w fun e w' => e = .returned (.bool true) ∧ Below w.heap.size w w' := by
  have H1 := Lib.hid (num_one w.heap.size (w.heap.size + 1) _ 300 [] _ (wr_new w _ rfl) (by simp) (by omega))
  rw [World.size_alloc] at H1
  go_enter Try.func13, Try.ntmps13
  go_wp2_with fail
  refine (H1.out).mono ?_
  rintro e w1 ⟨rfl, v1, hw1, ht1, hm1⟩
  clear H1
  have H2 := Lib.hid (int_one w.heap.size (w.heap.size + 1) v1 (-300) _ w1 hw1 (by decide) (by omega) (by omega))
  go_wp2_with fail
  refine (H2.out).mono ?_
  rintro e w2 ⟨rfl, v2, hw2, ht2, hm2⟩
  clear H2
  have hb3 : Below w2.heap.size w2 (w2.alloc (.cells #[.int .u8 2, .int .u8 1, .int .u8 44] 5)) := (Below.refl _ _).alloc (Nat.le_refl _) _
  have H3 := Lib.hid (open_any _ _ _ (rb_ex w2 _ rfl) (by simp))
  go_wp2_with fail
  refine (H3.out).mono ?_
  rintro e w4 ⟨br, rfl, hbr, hr4, hb4⟩
  clear H3
  have hw4 := (hw2.kept hb3).kept hb4
  have H4 := Lib.hid (bytes_wr _ _ _ _ w4 hw4 (by decide +kernel))
  go_wp2_with fail
  refine (H4.out).mono ?_
  rintro e w5 ⟨v5, rfl, ho5, hb5⟩
  clear H4
  have hcv := rb_string (P := Try.prog) (ho5.rb hw4.2.2.2.2 (by decide +kernel)) 27 9 5 Try.underlying27 Try.underlying5 Try.underlying9
  rw [ex_str] at hcv
  have hr5 := hr4.kept hb5
  have hn := num_rd br 300 [2, 1, 44] false w5 hr5
  rw [ex_num] at hn
  have H5 := Lib.hid hn
  clear hn
  have hB1 : Below w.heap.size w (w.alloc (.cells #[.slice none 0 0] 29)) := (Below.refl _ _).alloc (Nat.le_refl _) _
  have hB2 := ht1.outside hB1 hB1.size (Nat.le_refl _) (by simp [Value.ownBlock])
  have hB3 := ht2.outside hB2 hB2.size (Nat.le_refl _) (fun k hk => by have := hw1.base_le k hk; omega)
  have hB4 := hB3.trans (hb3.mono hB3.size)
  have hB5 := hB4.trans (hb4.mono hB4.size)
  have hB6 := hB5.trans (hb5.mono hB5.size)
  have hbr6 : w.heap.size ≤ br := Nat.le_trans hB4.size hbr
  clear ht1 ht2 hm1 hm2 hw1 hw2 hb3 hb4 hb5 hB1 hB2 hB3 hB4 hB5 hw4 hr4 hr5 ho5 hbr
  go_wp2_with fail
  refine (H5.out).mono ?_
  rintro e w6 ⟨_, hyes⟩
  obtain ⟨rfl, hr6, ht6⟩ := hyes _ _ rfl
  clear hyes H5
  have hB7 := ht6.outside hB6 hB6.size hbr6
  have H6 := Lib.hid (end_rd br [] false w6 hr6)
  rw [show endOf [] false = 0 from rfl] at H6
  clear hr6 ht6 hB6
  dsimp only
  go_wp2_with fail
  refine (H6.out).mono ?_
  rintro e w7 ⟨rfl, rfl⟩
  go_wp2
  go_ret
  exact ⟨rfl, hB7⟩
end Go.Proofs.Ytkeloeppploiaaa

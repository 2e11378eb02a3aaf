/- Contracts: the loop over the levels, both ways. -/
import Derived.Test.YthnnbmofpmedhaaGreatChA
namespace Go.Proofs.YthnnbmofpmedhaaGreat
open Go.RowKit
def errG (g : Bool) : Int := match g with | true => 0 | false => 2
theorem headC_iff {c : Int} {n : Nat} {r b : Int} : headC c n r b = true ↔ (0 ≤ c ∧ c ≤ 7) ∧ (1 ≤ (n : Int) ∧ (n : Int) ≤ 6) ∧ (1 ≤ r ∧ r ≤ 8) ∧ 1 ≤ b ∧ b ≤ 1048576 := by
  simp only [headC, Bool.and_eq_true, rngB_iff]
set_option maxRecDepth 100000 in
set_option maxHeartbeats 8000000 in
theorem check_loop (c : Int) (a : Option Addr) (n ca : Nat) (r b : Int) (B P : Nat → Int) (w : World) (hS : Sps w a n B P) (h : headC c n r b = true) :
    Calls Tryz.prog 75 #[conV c a n ca r b] w fun e w' => e = .returned (.int .i64 (errG (lvs B P n))) ∧ Below w.heap.size w w' := by
  have B1 : Below w.heap.size w (w.alloc (.cells #[.int .i64 c, .slice a n ca, .int .i64 r, .int .i64 b] 80)) := (Below.refl _ _).alloc (Nat.le_refl _) _
  have HB := Lib.hid B1
  have HS := Lib.hid (hS.kept B1)
  obtain ⟨h1, h2, h3, h4⟩ := headC_iff.1 h
  have H1 := Lib.hid (fun w => within_i c 0 7 true (rngB_iff.2 h1) w)
  have H2 := Lib.hid (fun w => within_i n 1 6 true (rngB_iff.2 h2) w)
  have H3 := Lib.hid (fun w => within_i r 1 8 true (rngB_iff.2 h3) w)
  have H4 := Lib.hid (fun w => within_l b 1 1048576 true (rngB_iff.2 h4) w)
  unfold conV
  clear B1 hS h h1 h3 h4
  go_enter Tryz.func75, Tryz.ntmps75
  go_wp2_with (first
      | (go_at_call 96; (first | (with_reducible refine (H1.out _).mono ?_) | (with_reducible refine (H2.out _).mono ?_) | (with_reducible refine (H3.out _).mono ?_)); rintro e w' ⟨rfl, rfl⟩)
      | (go_at_call 97; (with_reducible refine (H4.out _).mono ?_); rintro e w' ⟨rfl, rfl⟩))
  generalize (w.alloc (.cells #[.int .i64 c, .slice a n ca, .int .i64 r, .int .i64 b] 80)) = W at HB HS ⊢
  clear H1 H2 H3 H4
  go_loopw [31] (fun i wr => ∃ k : Nat, k ≤ n ∧ i = .int .i64 k ∧ lvs B P k = true ∧ Hid (Below W.heap.size W wr)) (fun i _ => n - (intOf i).toNat)
  case atStart => exact ⟨0, Nat.zero_le _, rfl, rfl, Lib.hid (Below.refl _ _)⟩
  case round =>
    obtain ⟨k, hk, rfl, hg, HBR⟩ := hrel
    have HG := Lib.hid hg
    have HBW := Lib.hid (HB.out.trans (HBR.out.mono HB.out.size))
    clear hg
    by_cases hlt : k < n
    · obtain ⟨ab, ao, rfl, hab, c0, c1, b0, b1, b2, b3⟩ := HS.out.at HBR.out k hlt
      obtain ⟨f, hf⟩ : ∃ f, B k = f := ⟨_, rfl⟩
      obtain ⟨u, hu⟩ : ∃ f, P k = f := ⟨_, rfl⟩
      rw [hf] at c0
      rw [hu] at c1
      obtain ⟨x1, hx1⟩ : ∃ x, rngB f 1 1125899906842624 = x := ⟨_, rfl⟩
      obtain ⟨x2, hx2⟩ : ∃ x, rngB u 0 7 = x := ⟨_, rfl⟩
      have HN : Hid (lvs B P (k + 1) = (x1 && x2)) := Lib.hid (by
        show (lvs B P k && lv1 (B k) (P k)) = _
        rw [HG.out, hf, hu]; unfold lv1; rw [hx1, hx2]; rfl)
      have H1 := Lib.hid (fun w => within_l f 1 1125899906842624 x1 hx1 w)
      have H2 := Lib.hid (fun w => within_i u 0 7 x2 hx2 w)
      have HB2 := Lib.hid (HBR.out.alloc HBR.out.size (.cells #[.int .i64 f, .int .i64 u] 121))
      have HB3 := Lib.hid (HB.out.trans (HB2.out.mono HB.out.size))
      have k0 : (0 : Int) ≤ (k : Int) := by omega
      have kl : (k : Int) < (n : Int) := by omega
      clear hf hu hx1 hx2 b0 b1 b2 b3 hab
      cases x1
      · go_wp2_with (first
          | (go_at_call 97; (with_reducible refine (H1.out _).mono ?_); rintro e w' ⟨rfl, rfl⟩))
        go_ret
        exact ⟨by rw [lvs_bad (k := k) HN.out hlt]; rfl, HB3.out⟩
      cases x2
      · go_wp2_with (first
          | (go_at_call 97; (with_reducible refine (H1.out _).mono ?_); rintro e w' ⟨rfl, rfl⟩)
          | (go_at_call 96; (with_reducible refine (H2.out _).mono ?_); rintro e w' ⟨rfl, rfl⟩))
        go_ret
        exact ⟨by rw [lvs_bad (k := k) HN.out hlt]; rfl, HB3.out⟩
      · go_wp2_with (first
          | (go_at_call 97; (with_reducible refine (H1.out _).mono ?_); rintro e w' ⟨rfl, rfl⟩)
          | (go_at_call 96; (with_reducible refine (H2.out _).mono ?_); rintro e w' ⟨rfl, rfl⟩))
        go_roundw
        case rel => exact ⟨k + 1, hlt, by go_num, HN.out, HB2⟩
        case measure => simp [intOf]; omega
    · obtain rfl : k = n := by omega
      have kl : decide ((k : Int) < (k : Int)) = false := decide_eq_false (by omega)
      go_wp2_with fail
      go_ret
      exact ⟨by rw [HG.out]; rfl, HBW.out⟩
theorem check_any (c : Int) (a : Option Addr) (n ca : Nat) (r b : Int) (B P : Nat → Int) (w : World) (hS : Sps w a n B P) :
    Calls Tryz.prog 75 #[conV c a n ca r b] w fun e w' => e = .returned (.int .i64 (errG (goodC c n r b B P))) ∧ Below w.heap.size w w' := by
  cases h : headC c n r b
  · have := check_head c a n ca r b w hS.1 h
    simp only [goodC, h, Bool.false_and]
    exact this
  · have := check_loop c a n ca r b B P w hS h
    simp only [goodC, h, Bool.true_and]
    exact this
end Go.Proofs.YthnnbmofpmedhaaGreat

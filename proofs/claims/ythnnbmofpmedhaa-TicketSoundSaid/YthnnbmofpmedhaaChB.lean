/- Contracts: the loop over the levels, both ways. -/
import Derived.Test.YthnnbmofpmedhaaChA
namespace Go.Proofs.Ythnnbmofpmedhaa
open Go.RowKit
def errG (g : Bool) : Int := match g with | true => 0 | false => 2
theorem headC_iff {c : Int} {n : Nat} {r b : Int} : headC c n r b = true ↔ (0 ≤ c ∧ c ≤ 7) ∧ (1 ≤ (n : Int) ∧ (n : Int) ≤ 6) ∧ (1 ≤ r ∧ r ≤ 8) ∧ 1 ≤ b ∧ b ≤ 1048576 := by
  simp only [headC, Bool.and_eq_true, rngB_iff]
set_option maxRecDepth 100000 in
set_option maxHeartbeats 8000000 in
theorem check_loop (c : Int) (a : Option Addr) (n ca : Nat) (r b : Int) (B P : Nat → Int) (w : World) (hS : Sps w a n B P) (h : headC c n r b = true) :
    Calls Try.prog 41 #[conV c a n ca r b] w fun e w' => e = .returned (.int .i64 (errG (lvs B P n))) ∧ Below w.heap.size w w' := by
  have B1 : Below w.heap.size w (w.alloc (.cells #[.int .i64 c, .slice a n ca, .int .i64 r, .int .i64 b] 27)) := (Below.refl _ _).alloc (Nat.le_refl _) _
  have HB := Lib.hid B1
  have HS := Lib.hid (hS.kept B1)
  obtain ⟨h1, h2, h3, h4⟩ := headC_iff.1 h
  have H1 := Lib.hid (fun w => within_i c 0 7 true (rngB_iff.2 h1) w)
  have H2 := Lib.hid (fun w => within_i n 1 6 true (rngB_iff.2 h2) w)
  have H3 := Lib.hid (fun w => within_i r 1 8 true (rngB_iff.2 h3) w)
  have H4 := Lib.hid (fun w => within_l b 1 1048576 true (rngB_iff.2 h4) w)
  unfold conV
  clear B1 hS h h1 h3 h4
  go_enter Try.func41, Try.ntmps41
  go_wp2_with (first
      | (go_at_call 63; (first | (with_reducible refine (H1.out _).mono ?_) | (with_reducible refine (H2.out _).mono ?_) | (with_reducible refine (H3.out _).mono ?_)); rintro e w' ⟨rfl, rfl⟩)
      | (go_at_call 64; (with_reducible refine (H4.out _).mono ?_); rintro e w' ⟨rfl, rfl⟩))
  generalize (w.alloc (.cells #[.int .i64 c, .slice a n ca, .int .i64 r, .int .i64 b] 27)) = W at HB HS ⊢
  clear H1 H2 H3 H4
  go_loopw [31] (fun i wr => ∃ k : Nat, k ≤ n ∧ i = .int .i64 k ∧ lvs B P k = true ∧ Hid (Below W.heap.size W wr)) (fun i _ => n - (intOf i).toNat)
  case atStart => exact ⟨0, Nat.zero_le _, rfl, rfl, Lib.hid (Below.refl _ _)⟩
  case round =>
    obtain ⟨k, hk, rfl, hg, HBR⟩ := hrel
    have HG := Lib.hid hg
    have HBW := Lib.hid (HB.out.trans (HBR.out.mono HB.out.size))
    clear hg
    by_cases hlt : k < n
    · obtain ⟨ab, ao, rfl, hab, c0, c1, b0, b1, b2, b3⟩ := HS.out.at HBR.out k hlt
      obtain ⟨f, hf⟩ : ∃ f, B k = f := ⟨_, rfl⟩
      obtain ⟨u, hu⟩ : ∃ f, P k = f := ⟨_, rfl⟩
      rw [hf] at c0
      rw [hu] at c1
      obtain ⟨x1, hx1⟩ : ∃ x, rngB f 1 1125899906842624 = x := ⟨_, rfl⟩
      obtain ⟨x2, hx2⟩ : ∃ x, rngB u 0 7 = x := ⟨_, rfl⟩
      have HN : Hid (lvs B P (k + 1) = (x1 && x2)) := Lib.hid (by
        show (lvs B P k && lv1 (B k) (P k)) = _
        rw [HG.out, hf, hu]; unfold lv1; rw [hx1, hx2]; rfl)
      have H1 := Lib.hid (fun w => within_l f 1 1125899906842624 x1 hx1 w)
      have H2 := Lib.hid (fun w => within_i u 0 7 x2 hx2 w)
      have HB2 := Lib.hid (HBR.out.alloc HBR.out.size (.cells #[.int .i64 f, .int .i64 u] 57))
      have HB3 := Lib.hid (HB.out.trans (HB2.out.mono HB.out.size))
      have k0 : (0 : Int) ≤ (k : Int) := by omega
      have kl : (k : Int) < (n : Int) := by omega
      clear hf hu hx1 hx2 b0 b1 b2 b3 hab
      cases x1
      · go_wp2_with (first
          | (go_at_call 64; (with_reducible refine (H1.out _).mono ?_); rintro e w' ⟨rfl, rfl⟩))
        go_ret
        exact ⟨by rw [lvs_bad (k := k) HN.out hlt]; rfl, HB3.out⟩
      cases x2
      · go_wp2_with (first
          | (go_at_call 64; (with_reducible refine (H1.out _).mono ?_); rintro e w' ⟨rfl, rfl⟩)
          | (go_at_call 63; (with_reducible refine (H2.out _).mono ?_); rintro e w' ⟨rfl, rfl⟩))
        go_ret
        exact ⟨by rw [lvs_bad (k := k) HN.out hlt]; rfl, HB3.out⟩
      · go_wp2_with (first
          | (go_at_call 64; (with_reducible refine (H1.out _).mono ?_); rintro e w' ⟨rfl, rfl⟩)
          | (go_at_call 63; (with_reducible refine (H2.out _).mono ?_); rintro e w' ⟨rfl, rfl⟩))
        go_roundw
        case rel => exact ⟨k + 1, hlt, by go_num, HN.out, HB2⟩
        case measure => simp [intOf]; omega
    · obtain rfl : k = n := by omega
      have kl : decide ((k : Int) < (k : Int)) = false := decide_eq_false (by omega)
      go_wp2_with fail
      go_ret
      exact ⟨by rw [HG.out]; rfl, HBW.out⟩
theorem check_any (c : Int) (a : Option Addr) (n ca : Nat) (r b : Int) (B P : Nat → Int) (w : World) (hS : Sps w a n B P) :
    Calls Try.prog 41 #[conV c a n ca r b] w fun e w' => e = .returned (.int .i64 (errG (goodC c n r b B P))) ∧ Below w.heap.size w w' := by
  cases h : headC c n r b
  · have := check_head c a n ca r b w hS.1 h
    simp only [goodC, h, Bool.false_and]
    exact this
  · have := check_loop c a n ca r b B P w hS h
    simp only [goodC, h, Bool.true_and]
    exact this
set_option maxRecDepth 100000 in
set_option maxHeartbeats 8000000 in
theorem rgood_head (c : Int) (a : Option Addr) (n ca : Nat) (r b : Int) (w : World) (hn : n ≤ maxLen) (h : headC c n r b = false) :
    Calls Try.prog 24 #[conV c a n ca r b] w fun e w' => e = .returned (.bool false) ∧ Below w.heap.size w w' := by
  have B1 : Below w.heap.size w (w.alloc (.cells #[.int .i64 c, .slice a n ca, .int .i64 r, .int .i64 b] 27)) := (Below.refl _ _).alloc (Nat.le_refl _) _
  have HB := Lib.hid B1
  have hh : ¬ ((0 ≤ c ∧ c ≤ 7) ∧ (1 ≤ (n : Int) ∧ (n : Int) ≤ 6) ∧ (1 ≤ r ∧ r ≤ 8) ∧ 1 ≤ b ∧ b ≤ 1048576) := fun hc => by rw [headC_iff.2 hc] at h; cases h
  unfold maxLen at hn
  unfold conV
  clear B1 h
  obtain ⟨y0, d0⟩ : ∃ x, decide (c < 0) = x := ⟨_, rfl⟩
  obtain ⟨y1, d1⟩ : ∃ x, decide (7 < c) = x := ⟨_, rfl⟩
  obtain ⟨y2, d2⟩ : ∃ x, decide ((n : Int) < 1) = x := ⟨_, rfl⟩
  obtain ⟨y3, d3⟩ : ∃ x, decide (6 < (n : Int)) = x := ⟨_, rfl⟩
  obtain ⟨y4, d4⟩ : ∃ x, decide (r < 1) = x := ⟨_, rfl⟩
  obtain ⟨y5, d5⟩ : ∃ x, decide (8 < r) = x := ⟨_, rfl⟩
  obtain ⟨y6, d6⟩ : ∃ x, decide (b < 1) = x := ⟨_, rfl⟩
  obtain ⟨y7, d7⟩ : ∃ x, decide (1048576 < b) = x := ⟨_, rfl⟩
  have hor : y0 = true ∨ y1 = true ∨ y2 = true ∨ y3 = true ∨ y4 = true ∨ y5 = true ∨ y6 = true ∨ y7 = true := by
    rw [← d0, ← d1, ← d2, ← d3, ← d4, ← d5, ← d6, ← d7]
    simp only [decide_eq_true_eq]
    omega
  clear hh
  cases y0
  case true =>
    clear hor
    go_enter Try.func24, Try.ntmps24
    go_wp2_with fail
    go_ret
    exact ⟨rfl, HB.out⟩
  replace hor := hor.resolve_left (by decide)
  cases y1
  case true =>
    clear hor
    go_enter Try.func24, Try.ntmps24
    go_wp2_with fail
    go_ret
    exact ⟨rfl, HB.out⟩
  replace hor := hor.resolve_left (by decide)
  cases y2
  case true =>
    clear hor
    go_enter Try.func24, Try.ntmps24
    go_wp2_with fail
    go_ret
    exact ⟨rfl, HB.out⟩
  replace hor := hor.resolve_left (by decide)
  cases y3
  case true =>
    clear hor
    go_enter Try.func24, Try.ntmps24
    go_wp2_with fail
    go_ret
    exact ⟨rfl, HB.out⟩
  replace hor := hor.resolve_left (by decide)
  cases y4
  case true =>
    clear hor
    go_enter Try.func24, Try.ntmps24
    go_wp2_with fail
    go_ret
    exact ⟨rfl, HB.out⟩
  replace hor := hor.resolve_left (by decide)
  cases y5
  case true =>
    clear hor
    go_enter Try.func24, Try.ntmps24
    go_wp2_with fail
    go_ret
    exact ⟨rfl, HB.out⟩
  replace hor := hor.resolve_left (by decide)
  cases y6
  case true =>
    clear hor
    go_enter Try.func24, Try.ntmps24
    go_wp2_with fail
    go_ret
    exact ⟨rfl, HB.out⟩
  replace hor := hor.resolve_left (by decide)
  cases y7
  case true =>
    clear hor
    go_enter Try.func24, Try.ntmps24
    go_wp2_with fail
    go_ret
    exact ⟨rfl, HB.out⟩
  cases hor
set_option maxRecDepth 100000 in
set_option maxHeartbeats 8000000 in
theorem rgood_loop (c : Int) (a : Option Addr) (n ca : Nat) (r b : Int) (B P : Nat → Int) (w : World) (hS : Sps w a n B P) (h : headC c n r b = true) :
    Calls Try.prog 24 #[conV c a n ca r b] w fun e w' => e = .returned (.bool (lvs B P n)) ∧ Below w.heap.size w w' := by
  have B1 : Below w.heap.size w (w.alloc (.cells #[.int .i64 c, .slice a n ca, .int .i64 r, .int .i64 b] 27)) := (Below.refl _ _).alloc (Nat.le_refl _) _
  have HB := Lib.hid B1
  have HS := Lib.hid (hS.kept B1)
  obtain ⟨⟨h1, h2⟩, ⟨h3, h4⟩, ⟨h5, h6⟩, h7, h8⟩ := headC_iff.1 h
  have d0 : decide (c < 0) = false := decide_eq_false (by omega)
  have d1 : decide (7 < c) = false := decide_eq_false (by omega)
  have d2 : decide ((n : Int) < 1) = false := decide_eq_false (by omega)
  have d3 : decide (6 < (n : Int)) = false := decide_eq_false (by omega)
  have d4 : decide (r < 1) = false := decide_eq_false (by omega)
  have d5 : decide (8 < r) = false := decide_eq_false (by omega)
  have d6 : decide (b < 1) = false := decide_eq_false (by omega)
  have d7 : decide (1048576 < b) = false := decide_eq_false (by omega)
  have p1 : (w.alloc (.cells #[.int .i64 c, .slice a n ca, .int .i64 r, .int .i64 b] 27)).cell? ⟨w.heap.size, 1, none⟩ = some (.slice a n ca) := by simp
  have hlt : w.heap.size < (w.alloc (.cells #[.int .i64 c, .slice a n ca, .int .i64 r, .int .i64 b] 27)).heap.size := by simp
  have HP := Lib.hid (And.intro p1 hlt)
  unfold conV
  clear B1 hS h p1 hlt
  go_enter Try.func24, Try.ntmps24
  go_wp2_with fail
  clear d0 d1 d2 d3 d4 d5 d6 d7
  obtain ⟨s0, hs0⟩ : ∃ s, w.heap.size = s := ⟨_, rfl⟩
  rw [hs0] at HP
  generalize (w.alloc (.cells #[.int .i64 c, .slice a n ca, .int .i64 r, .int .i64 b] 27)) = W at HB HS HP ⊢
  go_loopw [3] (fun i wr => ∃ k : Nat, k ≤ n ∧ i = .int .i64 k ∧ lvs B P k = true ∧ Hid (Below W.heap.size W wr)) (fun i _ => n - (intOf i).toNat)
  case atStart => exact ⟨0, Nat.zero_le _, rfl, rfl, Lib.hid (Below.refl _ _)⟩
  case round =>
    obtain ⟨k, hk, rfl, hg, HBR⟩ := hrel
    have HG := Lib.hid hg
    have HBW := Lib.hid (HB.out.trans (HBR.out.mono HB.out.size))
    have p1 := (HBR.out.cell (p := ⟨s0, 1, none⟩) HP.out.2).trans HP.out.1
    clear hg
    subst hs0
    by_cases hlt : k < n
    · obtain ⟨ab, ao, rfl, hab, c0, c1, b0, b1, b2, b3⟩ := HS.out.at HBR.out k hlt
      obtain ⟨f, hf⟩ : ∃ f, B k = f := ⟨_, rfl⟩
      obtain ⟨u, hu⟩ : ∃ f, P k = f := ⟨_, rfl⟩
      rw [hf] at c0
      rw [hu] at c1
      obtain ⟨y0, d0⟩ : ∃ x, decide (f < 1) = x := ⟨_, rfl⟩
      obtain ⟨y1, d1⟩ : ∃ x, decide (1125899906842624 < f) = x := ⟨_, rfl⟩
      obtain ⟨y2, d2⟩ : ∃ x, decide (u < 0) = x := ⟨_, rfl⟩
      obtain ⟨y3, d3⟩ : ∃ x, decide (7 < u) = x := ⟨_, rfl⟩
      have HN : Hid (lvs B P (k + 1) = (!y0 && (!y1 && (!y2 && !y3)))) := Lib.hid (by
        show (lvs B P k && lv1 (B k) (P k)) = _
        rw [HG.out, hf, hu, ← d0, ← d1, ← d2, ← d3, Bool.eq_iff_iff]
        simp only [lv1, rngB, Bool.and_eq_true, Bool.not_eq_true', decide_eq_true_eq, decide_eq_false_iff_not, true_and]
        omega)
      have HB2 := Lib.hid (HBR.out.alloc HBR.out.size (.cells #[.int .i64 f, .int .i64 u] 57))
      have HB3 := Lib.hid (HB.out.trans (HB2.out.mono HB.out.size))
      have k0 : (0 : Int) ≤ (k : Int) := by omega
      have kl : (k : Int) < (n : Int) := by omega
      clear hf hu b0 b1 b2 b3 hab
      cases y0
      case true =>
        go_wp2_with fail
        go_ret
        exact ⟨by rw [lvs_bad (k := k) (by rw [HN.out]; simp) hlt]; rfl, HB3.out⟩
      cases y1
      case true =>
        go_wp2_with fail
        go_ret
        exact ⟨by rw [lvs_bad (k := k) (by rw [HN.out]; simp) hlt]; rfl, HB3.out⟩
      cases y2
      case true =>
        go_wp2_with fail
        go_ret
        exact ⟨by rw [lvs_bad (k := k) (by rw [HN.out]; simp) hlt]; rfl, HB3.out⟩
      cases y3
      case true =>
        go_wp2_with fail
        go_ret
        exact ⟨by rw [lvs_bad (k := k) (by rw [HN.out]; simp) hlt]; rfl, HB3.out⟩
      go_wp2_with fail
      go_roundw
      case rel => exact ⟨k + 1, hlt, by go_num, HN.out, HB2⟩
      case measure => simp [intOf]; omega
    · obtain rfl : k = n := by omega
      have kl : decide ((k : Int) < (k : Int)) = false := decide_eq_false (by omega)
      go_wp2_with fail
      go_ret
      exact ⟨by rw [HG.out]; rfl, HBW.out⟩
theorem rgood_any (c : Int) (a : Option Addr) (n ca : Nat) (r b : Int) (B P : Nat → Int) (w : World) (hS : Sps w a n B P) :
    Calls Try.prog 24 #[conV c a n ca r b] w fun e w' => e = .returned (.bool (goodC c n r b B P)) ∧ Below w.heap.size w w' := by
  cases h : headC c n r b
  · have := rgood_head c a n ca r b w hS.1 h
    simp only [goodC, h, Bool.false_and]
    exact this
  · have := rgood_loop c a n ca r b B P w hS h
    simp only [goodC, h, Bool.true_and]
    exact this
end Go.Proofs.Ythnnbmofpmedhaa

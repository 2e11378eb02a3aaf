import Derived.Test.YtibjboacjobaoaaMgAP
import Derived.Test.YtibjboacjobaoaaMgAN
import Derived.Test.YtibjboacjobaoaaMgAM
import Derived.Test.YtibjboacjobaoaaMgAK
import Derived.Deep.RegionHeld3
namespace Go.Proofs.Ytibjboacjobaoaa
open Go.RowKit
/- Commands compared: the reference. -/
open Go.RowKit
set_option maxRecDepth 100000 in
set_option maxHeartbeats 16000000 in
theorem rcmd_same (kd cl rq id cn tm off : Int) (a : Option Addr) (n ca : Nat) (b : Option Addr) (m cb : Nat) (tc : Int) (d : Option Addr) (l cd : Nat) (tr tb : Int) (F T G U B P : Nat → Int) (kd' cl' rq' id' cn' tm' off' : Int) (a' : Option Addr) (n' ca' : Nat) (b' : Option Addr) (m' cb' : Nat) (tc' : Int) (d' : Option Addr) (l' cd' : Nat) (tr' tb' : Int) (F' T' G' U' B' P' : Nat → Int) (w : World) (hS : Sps w a n F T) (hR : Sps w b m G U) (hD : Sps w d l B P) (hS' : Sps w a' n' F' T') (hR' : Sps w b' m' G' U') (hD' : Sps w d' l' B' P') :
    Calls Try.prog 17 #[cmdV kd cl rq id cn tm off a n ca b m cb tc d l cd tr tb, cmdV kd' cl' rq' id' cn' tm' off' a' n' ca' b' m' cb' tc' d' l' cd' tr' tb'] w fun e w' => e = .returned (.bool (cmdEq kd kd' cl cl' rq rq' id id' cn cn' tm tm' off off' F T F' T' n n' G U G' U' m m' tc tc' B P B' P' l l' tr tr' tb tb')) ∧ Below w.heap.size w w' := by
  have HA := Lib.hid (fun W (hb : Below w.heap.size w W) => And.intro (rsame10_any off off' a n ca b m cb F T G U a' n' ca' b' m' cb' F' T' G' U' W (hS.kept hb) (hR.kept hb) (hS'.kept hb) (hR'.kept hb)) (rcon_same tc tc' d l cd tr tb B P d' l' cd' tr' tb' B' P' W (hD.kept hb) (hD'.kept hb)))
  have HX : Hid (cmdEq kd kd' cl cl' rq rq' id id' cn cn' tm tm' off off' F T F' T' n n' G U G' U' m m' tc tc' B P B' P' l l' tr tr' tb tb' = (decide (kd = kd') && (decide (cl = cl') && (decide (rq = rq') && (decide (id = id') && (decide (cn = cn') && (decide (tm = tm') && (calEq off off' F T F' T' n n' G U G' U' m m' && conEq tc tc' B P B' P' l l' tr tr' tb tb')))))))) := Lib.hid rfl
  obtain ⟨ok, hok⟩ : ∃ x, cmdEq kd kd' cl cl' rq rq' id id' cn cn' tm tm' off off' F T F' T' n n' G U G' U' m m' tc tc' B P B' P' l l' tr tr' tb tb' = x := ⟨_, rfl⟩
  obtain ⟨e1, he1⟩ : ∃ x, calEq off off' F T F' T' n n' G U G' U' m m' = x := ⟨_, rfl⟩
  obtain ⟨e2, he2⟩ : ∃ x, conEq tc tc' B P B' P' l l' tr tr' tb tb' = x := ⟨_, rfl⟩
  rw [hok, he1, he2] at HX
  rw [he1, he2] at HA
  rw [hok]
  unfold calV conV at HA
  obtain ⟨B2, s0, s1, sz⟩ := box2 w #[.int .i64 kd, .int .u64 cl, .int .u64 rq, .int .u64 id, .int .i64 cn, .int .i64 tm, .int .i64 off, .slice a n ca, .slice b m cb, .int .i64 tc, .slice d l cd, .int .i64 tr, .int .i64 tb] #[.int .i64 kd', .int .u64 cl', .int .u64 rq', .int .u64 id', .int .i64 cn', .int .i64 tm', .int .i64 off', .slice a' n' ca', .slice b' m' cb', .int .i64 tc', .slice d' l' cd', .int .i64 tr', .int .i64 tb'] 30 30
  have HT := Lib.hid (And.intro s0 s1)
  obtain ⟨q0, q1, q2, q3, q4, q5, q6, q7, q8, q9, q10, q11, q12⟩ := cmd_at s0
  obtain ⟨r0, r1, r2, r3, r4, r5, r6, r7, r8, r9, r10, r11, r12⟩ := cmd_at s1
  have HB := Lib.hid B2
  clear hS hR hD hS' hR' hD' hok he1 he2 s0 s1 sz B2
  unfold cmdV
  by_cases h0 : kd = kd'
  rotate_left
  · have hd0 : decide (kd = kd') = false := decide_eq_false h0
    go_enter Try.func17, Try.ntmps17
    go_wp2_with fail
    go_ret
    exact ⟨by rw [HX.out]; simp [h0], HB.out⟩
  by_cases h1 : cl = cl'
  rotate_left
  · have hd1 : decide (cl = cl') = false := decide_eq_false h1
    subst h0
    go_enter Try.func17, Try.ntmps17
    go_wp2_with fail
    go_ret
    exact ⟨by rw [HX.out]; simp [h1], HB.out⟩
  by_cases h2 : rq = rq'
  rotate_left
  · have hd2 : decide (rq = rq') = false := decide_eq_false h2
    subst h0 h1
    go_enter Try.func17, Try.ntmps17
    go_wp2_with fail
    go_ret
    exact ⟨by rw [HX.out]; simp [h2], HB.out⟩
  by_cases h3 : id = id'
  rotate_left
  · have hd3 : decide (id = id') = false := decide_eq_false h3
    subst h0 h1 h2
    go_enter Try.func17, Try.ntmps17
    go_wp2_with fail
    go_ret
    exact ⟨by rw [HX.out]; simp [h3], HB.out⟩
  by_cases h4 : cn = cn'
  rotate_left
  · have hd4 : decide (cn = cn') = false := decide_eq_false h4
    subst h0 h1 h2 h3
    go_enter Try.func17, Try.ntmps17
    go_wp2_with fail
    go_ret
    exact ⟨by rw [HX.out]; simp [h4], HB.out⟩
  by_cases h5 : tm = tm'
  rotate_left
  · have hd5 : decide (tm = tm') = false := decide_eq_false h5
    subst h0 h1 h2 h3 h4
    go_enter Try.func17, Try.ntmps17
    go_wp2_with fail
    go_ret
    exact ⟨by rw [HX.out]; simp [h5], HB.out⟩
  subst h0 h1 h2 h3 h4 h5
  have hs1 := (HA.out _ HB.out).1
  go_enter Try.func17, Try.ntmps17
  go_wp2_with fail
  generalize ((w.alloc (.cells #[.int .i64 kd, .int .u64 cl, .int .u64 rq, .int .u64 id, .int .i64 cn, .int .i64 tm, .int .i64 off, .slice a n ca, .slice b m cb, .int .i64 tc, .slice d l cd, .int .i64 tr, .int .i64 tb] 30)).alloc (.cells #[.int .i64 kd, .int .u64 cl, .int .u64 rq, .int .u64 id, .int .i64 cn, .int .i64 tm, .int .i64 off', .slice a' n' ca', .slice b' m' cb', .int .i64 tc', .slice d' l' cd', .int .i64 tr', .int .i64 tb'] 30)) = W at hs1 q0 q1 q2 q3 q4 q5 q6 q7 q8 q9 q10 q11 q12 r0 r1 r2 r3 r4 r5 r6 r7 r8 r9 r10 r11 r12 HB HT ⊢
  refine hs1.mono ?_
  rintro e w3 ⟨rfl, hb3⟩
  have HB3 := Lib.hid (HB.out.trans (hb3.mono HB.out.size))
  have HT3 := Lib.hid (And.intro (ex_below HT.out.1 hb3) (ex_below HT.out.2 hb3))
  clear hs1 hb3 q0 q1 q2 q3 q4 q5 q6 q7 q8 q9 q10 q11 q12 r0 r1 r2 r3 r4 r5 r6 r7 r8 r9 r10 r11 r12 HB HT
  have hs2 := (HA.out _ HB3.out).2
  cases e1
  · go_wp2_with fail
    go_ret
    exact ⟨by rw [HX.out]; simp, HB3.out⟩
  · obtain ⟨-, -, -, -, -, -, -, -, -, q9, q10, q11, q12⟩ := cmd_at HT3.out.1
    obtain ⟨-, -, -, -, -, -, -, -, -, r9, r10, r11, r12⟩ := cmd_at HT3.out.2
    go_wp2_with fail
    refine hs2.mono ?_
    rintro e w4 ⟨rfl, hb4⟩
    have HB4 := Lib.hid (HB3.out.trans (hb4.mono HB3.out.size))
    clear hs2 hb4
    go_wp2_with fail
    go_ret
    exact ⟨by rw [HX.out]; simp, HB4.out⟩
/- Contracts: the loop over the levels, both ways. -/
open Go.RowKit
def errG (g : Bool) : Int := match g with | true => 0 | false => 2
theorem headC_iff {c : Int} {n : Nat} {r b : Int} : headC c n r b = true ↔ (0 ≤ c ∧ c ≤ 7) ∧ (1 ≤ (n : Int) ∧ (n : Int) ≤ 6) ∧ (1 ≤ r ∧ r ≤ 8) ∧ 1 ≤ b ∧ b ≤ 1048576 := by
  simp only [headC, Bool.and_eq_true, rngB_iff]
set_option maxRecDepth 100000 in
set_option maxHeartbeats 8000000 in
theorem check_loop (c : Int) (a : Option Addr) (n ca : Nat) (r b : Int) (B P : Nat → Int) (w : World) (hS : Sps w a n B P) (h : headC c n r b = true) :
    Calls Try.prog 53 #[conV c a n ca r b] w fun e w' => e = .returned (.int .i64 (errG (lvs B P n))) ∧ Below w.heap.size w w' := by
  have B1 : Below w.heap.size w (w.alloc (.cells #[.int .i64 c, .slice a n ca, .int .i64 r, .int .i64 b] 28)) := (Below.refl _ _).alloc (Nat.le_refl _) _
  have HB := Lib.hid B1
  have HS := Lib.hid (hS.kept B1)
  obtain ⟨h1, h2, h3, h4⟩ := headC_iff.1 h
  have H1 := Lib.hid (fun w => within_i c 0 7 true (rngB_iff.2 h1) w)
  have H2 := Lib.hid (fun w => within_i n 1 6 true (rngB_iff.2 h2) w)
  have H3 := Lib.hid (fun w => within_i r 1 8 true (rngB_iff.2 h3) w)
  have H4 := Lib.hid (fun w => within_l b 1 1048576 true (rngB_iff.2 h4) w)
  unfold conV
  clear B1 hS h h1 h3 h4
  go_enter Try.func53, Try.ntmps53
  go_wp2_with (first
      | (go_at_call 110; (first | (with_reducible refine (H1.out _).mono ?_) | (with_reducible refine (H2.out _).mono ?_) | (with_reducible refine (H3.out _).mono ?_)); rintro e w' ⟨rfl, rfl⟩)
      | (go_at_call 111; (with_reducible refine (H4.out _).mono ?_); rintro e w' ⟨rfl, rfl⟩))
  generalize (w.alloc (.cells #[.int .i64 c, .slice a n ca, .int .i64 r, .int .i64 b] 28)) = W at HB HS ⊢
  clear H1 H2 H3 H4
  go_loopw [31] (fun i wr => ∃ k : Nat, k ≤ n ∧ i = .int .i64 k ∧ lvs B P k = true ∧ Hid (Below W.heap.size W wr)) (fun i _ => n - (intOf i).toNat)
  case atStart => exact ⟨0, Nat.zero_le _, rfl, rfl, Lib.hid (Below.refl _ _)⟩
  case round =>
    obtain ⟨k, hk, rfl, hg, HBR⟩ := hrel
    have HG := Lib.hid hg
    have HBW := Lib.hid (HB.out.trans (HBR.out.mono HB.out.size))
    clear hg
    by_cases hlt : k < n
    · obtain ⟨ab, ao, rfl, hab, c0, c1, b0, b1, b2, b3⟩ := HS.out.at HBR.out k hlt
      obtain ⟨f, hf⟩ : ∃ f, B k = f := ⟨_, rfl⟩
      obtain ⟨u, hu⟩ : ∃ f, P k = f := ⟨_, rfl⟩
      rw [hf] at c0
      rw [hu] at c1
      obtain ⟨x1, hx1⟩ : ∃ x, rngB f 1 1125899906842624 = x := ⟨_, rfl⟩
      obtain ⟨x2, hx2⟩ : ∃ x, rngB u 0 7 = x := ⟨_, rfl⟩
      have HN : Hid (lvs B P (k + 1) = (x1 && x2)) := Lib.hid (by
        show (lvs B P k && lv1 (B k) (P k)) = _
        rw [HG.out, hf, hu]; unfold lv1; rw [hx1, hx2]; rfl)
      have H1 := Lib.hid (fun w => within_l f 1 1125899906842624 x1 hx1 w)
      have H2 := Lib.hid (fun w => within_i u 0 7 x2 hx2 w)
      have HB2 := Lib.hid (HBR.out.alloc HBR.out.size (.cells #[.int .i64 f, .int .i64 u] 164))
      have HB3 := Lib.hid (HB.out.trans (HB2.out.mono HB.out.size))
      have k0 : (0 : Int) ≤ (k : Int) := by omega
      have kl : (k : Int) < (n : Int) := by omega
      clear hf hu hx1 hx2 b0 b1 b2 b3 hab
      cases x1
      · go_wp2_with (first
          | (go_at_call 111; (with_reducible refine (H1.out _).mono ?_); rintro e w' ⟨rfl, rfl⟩))
        go_ret
        exact ⟨by rw [lvs_bad (k := k) HN.out hlt]; rfl, HB3.out⟩
      cases x2
      · go_wp2_with (first
          | (go_at_call 111; (with_reducible refine (H1.out _).mono ?_); rintro e w' ⟨rfl, rfl⟩)
          | (go_at_call 110; (with_reducible refine (H2.out _).mono ?_); rintro e w' ⟨rfl, rfl⟩))
        go_ret
        exact ⟨by rw [lvs_bad (k := k) HN.out hlt]; rfl, HB3.out⟩
      · go_wp2_with (first
          | (go_at_call 111; (with_reducible refine (H1.out _).mono ?_); rintro e w' ⟨rfl, rfl⟩)
          | (go_at_call 110; (with_reducible refine (H2.out _).mono ?_); rintro e w' ⟨rfl, rfl⟩))
        go_roundw
        case rel => exact ⟨k + 1, hlt, by go_num, HN.out, HB2⟩
        case measure => simp [intOf]; omega
    · obtain rfl : k = n := by omega
      have kl : decide ((k : Int) < (k : Int)) = false := decide_eq_false (by omega)
      go_wp2_with fail
      go_ret
      exact ⟨by rw [HG.out]; rfl, HBW.out⟩
theorem check_any (c : Int) (a : Option Addr) (n ca : Nat) (r b : Int) (B P : Nat → Int) (w : World) (hS : Sps w a n B P) :
    Calls Try.prog 53 #[conV c a n ca r b] w fun e w' => e = .returned (.int .i64 (errG (goodC c n r b B P))) ∧ Below w.heap.size w w' := by
  cases h : headC c n r b
  · have := check_head c a n ca r b w hS.1 h
    simp only [goodC, h, Bool.false_and]
    exact this
  · have := check_loop c a n ca r b B P w hS h
    simp only [goodC, h, Bool.true_and]
    exact this
set_option maxRecDepth 100000 in
set_option maxHeartbeats 8000000 in
theorem rgood_head (c : Int) (a : Option Addr) (n ca : Nat) (r b : Int) (w : World) (hn : n ≤ maxLen) (h : headC c n r b = false) :
    Calls Try.prog 57 #[conV c a n ca r b] w fun e w' => e = .returned (.bool false) ∧ Below w.heap.size w w' := by
  have B1 : Below w.heap.size w (w.alloc (.cells #[.int .i64 c, .slice a n ca, .int .i64 r, .int .i64 b] 28)) := (Below.refl _ _).alloc (Nat.le_refl _) _
  have HB := Lib.hid B1
  have hh : ¬ ((0 ≤ c ∧ c ≤ 7) ∧ (1 ≤ (n : Int) ∧ (n : Int) ≤ 6) ∧ (1 ≤ r ∧ r ≤ 8) ∧ 1 ≤ b ∧ b ≤ 1048576) := fun hc => by rw [headC_iff.2 hc] at h; cases h
  unfold maxLen at hn
  unfold conV
  clear B1 h
  obtain ⟨y0, d0⟩ : ∃ x, decide (c < 0) = x := ⟨_, rfl⟩
  obtain ⟨y1, d1⟩ : ∃ x, decide (7 < c) = x := ⟨_, rfl⟩
  obtain ⟨y2, d2⟩ : ∃ x, decide ((n : Int) < 1) = x := ⟨_, rfl⟩
  obtain ⟨y3, d3⟩ : ∃ x, decide (6 < (n : Int)) = x := ⟨_, rfl⟩
  obtain ⟨y4, d4⟩ : ∃ x, decide (r < 1) = x := ⟨_, rfl⟩
  obtain ⟨y5, d5⟩ : ∃ x, decide (8 < r) = x := ⟨_, rfl⟩
  obtain ⟨y6, d6⟩ : ∃ x, decide (b < 1) = x := ⟨_, rfl⟩
  obtain ⟨y7, d7⟩ : ∃ x, decide (1048576 < b) = x := ⟨_, rfl⟩
  have hor : y0 = true ∨ y1 = true ∨ y2 = true ∨ y3 = true ∨ y4 = true ∨ y5 = true ∨ y6 = true ∨ y7 = true := by
    rw [← d0, ← d1, ← d2, ← d3, ← d4, ← d5, ← d6, ← d7]
    simp only [decide_eq_true_eq]
    omega
  clear hh
  cases y0
  case true =>
    clear hor
    go_enter Try.func57, Try.ntmps57
    go_wp2_with fail
    go_ret
    exact ⟨rfl, HB.out⟩
  replace hor := hor.resolve_left (by decide)
  cases y1
  case true =>
    clear hor
    go_enter Try.func57, Try.ntmps57
    go_wp2_with fail
    go_ret
    exact ⟨rfl, HB.out⟩
  replace hor := hor.resolve_left (by decide)
  cases y2
  case true =>
    clear hor
    go_enter Try.func57, Try.ntmps57
    go_wp2_with fail
    go_ret
    exact ⟨rfl, HB.out⟩
  replace hor := hor.resolve_left (by decide)
  cases y3
  case true =>
    clear hor
    go_enter Try.func57, Try.ntmps57
    go_wp2_with fail
    go_ret
    exact ⟨rfl, HB.out⟩
  replace hor := hor.resolve_left (by decide)
  cases y4
  case true =>
    clear hor
    go_enter Try.func57, Try.ntmps57
    go_wp2_with fail
    go_ret
    exact ⟨rfl, HB.out⟩
  replace hor := hor.resolve_left (by decide)
  cases y5
  case true =>
    clear hor
    go_enter Try.func57, Try.ntmps57
    go_wp2_with fail
    go_ret
    exact ⟨rfl, HB.out⟩
  replace hor := hor.resolve_left (by decide)
  cases y6
  case true =>
    clear hor
    go_enter Try.func57, Try.ntmps57
    go_wp2_with fail
    go_ret
    exact ⟨rfl, HB.out⟩
  replace hor := hor.resolve_left (by decide)
  cases y7
  case true =>
    clear hor
    go_enter Try.func57, Try.ntmps57
    go_wp2_with fail
    go_ret
    exact ⟨rfl, HB.out⟩
  cases hor
set_option maxRecDepth 100000 in
set_option maxHeartbeats 8000000 in
theorem rgood_loop (c : Int) (a : Option Addr) (n ca : Nat) (r b : Int) (B P : Nat → Int) (w : World) (hS : Sps w a n B P) (h : headC c n r b = true) :
    Calls Try.prog 57 #[conV c a n ca r b] w fun e w' => e = .returned (.bool (lvs B P n)) ∧ Below w.heap.size w w' := by
  have B1 : Below w.heap.size w (w.alloc (.cells #[.int .i64 c, .slice a n ca, .int .i64 r, .int .i64 b] 28)) := (Below.refl _ _).alloc (Nat.le_refl _) _
  have HB := Lib.hid B1
  have HS := Lib.hid (hS.kept B1)
  obtain ⟨⟨h1, h2⟩, ⟨h3, h4⟩, ⟨h5, h6⟩, h7, h8⟩ := headC_iff.1 h
  have d0 : decide (c < 0) = false := decide_eq_false (by omega)
  have d1 : decide (7 < c) = false := decide_eq_false (by omega)
  have d2 : decide ((n : Int) < 1) = false := decide_eq_false (by omega)
  have d3 : decide (6 < (n : Int)) = false := decide_eq_false (by omega)
  have d4 : decide (r < 1) = false := decide_eq_false (by omega)
  have d5 : decide (8 < r) = false := decide_eq_false (by omega)
  have d6 : decide (b < 1) = false := decide_eq_false (by omega)
  have d7 : decide (1048576 < b) = false := decide_eq_false (by omega)
  have p1 : (w.alloc (.cells #[.int .i64 c, .slice a n ca, .int .i64 r, .int .i64 b] 28)).cell? ⟨w.heap.size, 1, none⟩ = some (.slice a n ca) := by simp
  have hlt : w.heap.size < (w.alloc (.cells #[.int .i64 c, .slice a n ca, .int .i64 r, .int .i64 b] 28)).heap.size := by simp
  have HP := Lib.hid (And.intro p1 hlt)
  unfold conV
  clear B1 hS h p1 hlt
  go_enter Try.func57, Try.ntmps57
  go_wp2_with fail
  clear d0 d1 d2 d3 d4 d5 d6 d7
  obtain ⟨s0, hs0⟩ : ∃ s, w.heap.size = s := ⟨_, rfl⟩
  rw [hs0] at HP
  generalize (w.alloc (.cells #[.int .i64 c, .slice a n ca, .int .i64 r, .int .i64 b] 28)) = W at HB HS HP ⊢
  go_loopw [3] (fun i wr => ∃ k : Nat, k ≤ n ∧ i = .int .i64 k ∧ lvs B P k = true ∧ Hid (Below W.heap.size W wr)) (fun i _ => n - (intOf i).toNat)
  case atStart => exact ⟨0, Nat.zero_le _, rfl, rfl, Lib.hid (Below.refl _ _)⟩
  case round =>
    obtain ⟨k, hk, rfl, hg, HBR⟩ := hrel
    have HG := Lib.hid hg
    have HBW := Lib.hid (HB.out.trans (HBR.out.mono HB.out.size))
    have p1 := (HBR.out.cell (p := ⟨s0, 1, none⟩) HP.out.2).trans HP.out.1
    clear hg
    subst hs0
    by_cases hlt : k < n
    · obtain ⟨ab, ao, rfl, hab, c0, c1, b0, b1, b2, b3⟩ := HS.out.at HBR.out k hlt
      obtain ⟨f, hf⟩ : ∃ f, B k = f := ⟨_, rfl⟩
      obtain ⟨u, hu⟩ : ∃ f, P k = f := ⟨_, rfl⟩
      rw [hf] at c0
      rw [hu] at c1
      obtain ⟨y0, d0⟩ : ∃ x, decide (f < 1) = x := ⟨_, rfl⟩
      obtain ⟨y1, d1⟩ : ∃ x, decide (1125899906842624 < f) = x := ⟨_, rfl⟩
      obtain ⟨y2, d2⟩ : ∃ x, decide (u < 0) = x := ⟨_, rfl⟩
      obtain ⟨y3, d3⟩ : ∃ x, decide (7 < u) = x := ⟨_, rfl⟩
      have HN : Hid (lvs B P (k + 1) = (!y0 && (!y1 && (!y2 && !y3)))) := Lib.hid (by
        show (lvs B P k && lv1 (B k) (P k)) = _
        rw [HG.out, hf, hu, ← d0, ← d1, ← d2, ← d3, Bool.eq_iff_iff]
        simp only [lv1, rngB, Bool.and_eq_true, Bool.not_eq_true', decide_eq_true_eq, decide_eq_false_iff_not, true_and]
        omega)
      have HB2 := Lib.hid (HBR.out.alloc HBR.out.size (.cells #[.int .i64 f, .int .i64 u] 164))
      have HB3 := Lib.hid (HB.out.trans (HB2.out.mono HB.out.size))
      have k0 : (0 : Int) ≤ (k : Int) := by omega
      have kl : (k : Int) < (n : Int) := by omega
      clear hf hu b0 b1 b2 b3 hab
      cases y0
      case true =>
        go_wp2_with fail
        go_ret
        exact ⟨by rw [lvs_bad (k := k) (by rw [HN.out]; simp) hlt]; rfl, HB3.out⟩
      cases y1
      case true =>
        go_wp2_with fail
        go_ret
        exact ⟨by rw [lvs_bad (k := k) (by rw [HN.out]; simp) hlt]; rfl, HB3.out⟩
      cases y2
      case true =>
        go_wp2_with fail
        go_ret
        exact ⟨by rw [lvs_bad (k := k) (by rw [HN.out]; simp) hlt]; rfl, HB3.out⟩
      cases y3
      case true =>
        go_wp2_with fail
        go_ret
        exact ⟨by rw [lvs_bad (k := k) (by rw [HN.out]; simp) hlt]; rfl, HB3.out⟩
      go_wp2_with fail
      go_roundw
      case rel => exact ⟨k + 1, hlt, by go_num, HN.out, HB2⟩
      case measure => simp [intOf]; omega
    · obtain rfl : k = n := by omega
      have kl : decide ((k : Int) < (k : Int)) = false := decide_eq_false (by omega)
      go_wp2_with fail
      go_ret
      exact ⟨by rw [HG.out]; rfl, HBW.out⟩
theorem rgood_any (c : Int) (a : Option Addr) (n ca : Nat) (r b : Int) (B P : Nat → Int) (w : World) (hS : Sps w a n B P) :
    Calls Try.prog 57 #[conV c a n ca r b] w fun e w' => e = .returned (.bool (goodC c n r b B P)) ∧ Below w.heap.size w w' := by
  cases h : headC c n r b
  · have := rgood_head c a n ca r b w hS.1 h
    simp only [goodC, h, Bool.false_and]
    exact this
  · have := rgood_loop c a n ca r b B P w hS h
    simp only [goodC, h, Bool.true_and]
    exact this
/- Check, Open, Same, Plain, both ways. -/
open Go.RowKit
set_option maxRecDepth 100000 in
set_option maxHeartbeats 4000000 in
theorem pcheck (off : Int) (a : Option Addr) (n ca : Nat) (F T : Nat → Int) (b : Option Addr) (m cb : Nat) (G U : Nat → Int) (w : World) (hS : Sps w a n F T) (hR : Sps w b m G U) :
    Calls Try.prog 52 #[calV off a n ca b m cb] w fun e w' => e = .returned (.int .i64 (checkE off F T n G U m)) ∧ Below w.heap.size w w' := by
  have B1 : Below w.heap.size w (w.alloc (.cells #[.int .i64 off, .slice a n ca, .slice b m cb] 25)) := (Below.refl _ _).alloc (Nat.le_refl _) _
  have c0 : (w.alloc (.cells #[.int .i64 off, .slice a n ca, .slice b m cb] 25)).cell? ⟨w.heap.size, 0, none⟩ = some (.int .i64 off) := by simp
  have c1 : (w.alloc (.cells #[.int .i64 off, .slice a n ca, .slice b m cb] 25)).cell? ⟨w.heap.size, 1, none⟩ = some (.slice a n ca) := by simp
  have c2 : (w.alloc (.cells #[.int .i64 off, .slice a n ca, .slice b m cb] 25)).cell? ⟨w.heap.size, 2, none⟩ = some (.slice b m cb) := by simp
  have HB1 := Lib.hid B1
  have hnw : Calls Try.prog 109 #[calV off a n ca b m cb] (w.alloc (.cells #[.int .i64 off, .slice a n ca, .slice b m cb] 25)) fun e w' => (∃ p, e = .returned (.tuple #[.pointer p, .int .i64 (checkE off F T n G U m)])) ∧ Below (w.alloc (.cells #[.int .i64 off, .slice a n ca, .slice b m cb] 25)).heap.size (w.alloc (.cells #[.int .i64 off, .slice a n ca, .slice b m cb] 25)) w' := by
    by_cases hz : checkE off F T n G U m = 0
    · rw [hz]
      refine (clock_in off a n ca b m cb F T G U _ (hS.kept B1) (hR.kept B1) hz).mono ?_
      rintro e w' ⟨L, rfl, _, _, hb⟩
      exact ⟨⟨_, rfl⟩, hb⟩
    · refine (clock_bad off a n ca F T b m cb G U _ (hS.kept B1) (hR.kept B1) hz).mono ?_
      rintro e w' ⟨rfl, hb⟩
      exact ⟨⟨_, rfl⟩, hb⟩
  generalize checkE off F T n G U m = z at *
  unfold calV at *
  clear hS hR B1
  go_enter Try.func52, Try.ntmps52
  go_wp2_with fail
  refine hnw.mono ?_
  rintro e w2 ⟨⟨p, rfl⟩, hb⟩
  have HB2 := Lib.hid (HB1.out.trans (hb.mono HB1.out.size))
  clear hnw hb
  go_wp2_with fail
  go_ret
  exact ⟨rfl, HB2.out⟩

/-- The plain calendar of a clock. -/
def PlainOf (L : Loc) (D : Cal) (w : World) (e : Ending) (w' : World) : Prop := ∃ v1 v2, e = .returned (.agg #[.int .i64 D.off, v1, v2]) ∧ OS w' w.heap.size v1 (pairs D.F D.T D.n) ∧ OS w' w.heap.size v2 (pairs D.G D.U D.m) ∧ Ck L D w' ∧ Below w.heap.size w w'
set_option maxRecDepth 100000 in
set_option maxHeartbeats 4000000 in
theorem kept_set3 (W : World) (b : Nat) (v0 v1 v2 : Value) : Kept (fun k => k = b) W (((W.setCell ⟨b, 0, none⟩ v0).setCell ⟨b, 1, none⟩ v1).setCell ⟨b, 2, none⟩ v2) := by
  have h1 : Kept (fun k => k = b) W (W.setCell ⟨b, 0, none⟩ v0) := Kept.setCell _ _ _ rfl
  have h2 : Kept (fun k => k = b) (W.setCell ⟨b, 0, none⟩ v0) ((W.setCell ⟨b, 0, none⟩ v0).setCell ⟨b, 1, none⟩ v1) := Kept.setCell _ _ _ rfl
  have h3 : Kept (fun k => k = b) ((W.setCell ⟨b, 0, none⟩ v0).setCell ⟨b, 1, none⟩ v1) (((W.setCell ⟨b, 0, none⟩ v0).setCell ⟨b, 1, none⟩ v1).setCell ⟨b, 2, none⟩ v2) := Kept.setCell _ _ _ rfl
  exact (h1.trans h2).trans h3
theorem below_set3 (W : World) (b : Nat) (v0 v1 v2 : Value) : Below b W (((W.setCell ⟨b, 0, none⟩ v0).setCell ⟨b, 1, none⟩ v1).setCell ⟨b, 2, none⟩ v2) :=
  (((Below.refl _ _).setCell (p := ⟨b, 0, none⟩) (Nat.le_refl _) _).setCell (p := ⟨b, 1, none⟩) (Nat.le_refl _) _).setCell (p := ⟨b, 2, none⟩) (Nat.le_refl _) _
theorem OS.blocks {w w' : World} {base : Nat} {v : Value} {l : List (Int × Int)} (h : OS w base v l) (hb : ∀ g, base ≤ g → g < w.heap.size → w'.heap[g]? = w.heap[g]?) : OS w' base v l := by
  obtain ⟨h1, h2⟩ := h
  refine ⟨h1, ?_⟩
  rcases h2 with h2 | ⟨g, cap, cur, hv, hg, hh, r⟩
  · exact .inl h2
  · exact .inr ⟨g, cap, cur, hv, hg, by rw [hb g hg (Array.getElem?_eq_some_iff.mp hh).1]; exact hh, r⟩
end Go.Proofs.Ytibjboacjobaoaa

/- Whether there may be a command. -/
import Derived.Test.YtibjboacjobaoaaNkF
import Derived.Test.YtibjboacjobaoaaMgAW
import Derived.Deep.RegionHeld
namespace Go.Proofs.Ytibjboacjobaoaa
open Go.RowKit
set_option maxRecDepth 100000 in
set_option maxHeartbeats 16000000 in
theorem sound_10 (kd cl rq id cn tm off : Int) (a : Option Addr) (n ca : Nat) (b : Option Addr) (m cb : Nat) (tc : Int) (d : Option Addr) (l cd : Nat) (tr tb : Int) (F T G U B P : Nat → Int) (i c t : Bool) (w : World) (hS : Sps w a n F T) (hR : Sps w b m G U) (hD : Sps w d l B P) (nm : Bool) (hnm : (decide (1 ≤ kd) && decide (kd ≤ 12)) = nm)
    (hof : ∀ W, Calls Try.prog 51 #[.int .i64 kd] W fun e w' => e = .returned (ofV i c t true false) ∧ Below W.heap.size W w') (hon : ∀ W, Calls Try.prog 54 #[cmdV kd cl rq id cn tm off a n ca b m cb tc d l cd tr tb, ofV i c t true false] W fun e w' => e = .returned (cmdV kd cl rq (if i = true then id else 0) (if c = true then cn else 0) (if t = true then tm else 0) off a n ca b m cb 0 none 0 0 0 0) ∧ Below W.heap.size W w') :
    Calls Try.prog 14 #[cmdV kd cl rq id cn tm off a n ca b m cb tc d l cd tr tb] w fun e w' => e = .returned (.bool (nm && (!decide (8 < cl) && (!decide (cn < 0) && (!decide (16 ≤ cn) && (decide (checkE off F T n G U m = 0) && cmdEq kd kd cl cl rq rq id (if i = true then id else 0) cn (if c = true then cn else 0) tm (if t = true then tm else 0) off off F T F T n n G U G U m m tc 0 B P B P l 0 tr 0 tb 0)))))) ∧ Below w.heap.size w w' := by
  have HNM := Lib.hid (fun W => named_any kd W)
  rw [hnm] at HNM
  have HOF := Lib.hid hof
  have HON := Lib.hid hon
  have HCK := Lib.hid (fun W (hb : Below w.heap.size w W) => pcheck off a n ca F T b m cb G U W (hS.kept hb) (hR.kept hb))
  unfold calV at HCK
  have HSM := Lib.hid (fun W (hb : Below w.heap.size w W) => cmd_same kd cl rq id cn tm off a n ca b m cb tc d l cd tr tb F T G U B P kd cl rq (if i = true then id else 0) (if c = true then cn else 0) (if t = true then tm else 0) off a n ca b m cb 0 none 0 0 0 0 F T G U B P W (hS.kept hb) (hR.kept hb) (hD.kept hb) (hS.kept hb) (hR.kept hb) ((sps_none W B P)))
  obtain ⟨eq, heq⟩ : ∃ x, cmdEq kd kd cl cl rq rq id (if i = true then id else 0) cn (if c = true then cn else 0) tm (if t = true then tm else 0) off off F T F T n n G U G U m m tc 0 B P B P l 0 tr 0 tb 0 = x := ⟨_, rfl⟩
  rw [heq] at HSM ⊢
  obtain ⟨ce, hce⟩ : ∃ x, checkE off F T n G U m = x := ⟨_, rfl⟩
  rw [hce] at HCK ⊢
  clear hce
  obtain ⟨id2, hid2⟩ : ∃ x : Int, (if i = true then id else 0) = x := ⟨_, rfl⟩
  obtain ⟨cn2, hcn2⟩ : ∃ x : Int, (if c = true then cn else 0) = x := ⟨_, rfl⟩
  obtain ⟨tm2, htm2⟩ : ∃ x : Int, (if t = true then tm else 0) = x := ⟨_, rfl⟩
  rw [hid2, hcn2, htm2] at HON HSM
  obtain ⟨B1, s0, sz⟩ := box1 w #[.int .i64 kd, .int .u64 cl, .int .u64 rq, .int .u64 id, .int .i64 cn, .int .i64 tm, .int .i64 off, .slice a n ca, .slice b m cb, .int .i64 tc, .slice d l cd, .int .i64 tr, .int .i64 tb] 30
  have HB0 := Lib.hid B1
  have HT0 := Lib.hid s0
  obtain ⟨q0, q1, q2, q3, q4, q5, q6, q7, q8, q9, q10, q11, q12⟩ := cmd_at s0
  clear hS hR hD hnm hof hon heq hid2 hcn2 htm2 B1 s0 sz
  unfold cmdV ofV at *
  go_enter Try.func14, Try.ntmps14
  go_wp2_with fail
  generalize w.alloc (.cells #[.int .i64 kd, .int .u64 cl, .int .u64 rq, .int .u64 id, .int .i64 cn, .int .i64 tm, .int .i64 off, .slice a n ca, .slice b m cb, .int .i64 tc, .slice d l cd, .int .i64 tr, .int .i64 tb] 30) = W0 at HB0 HT0 q0 q1 q2 q3 q4 q5 q6 q7 q8 q9 q10 q11 q12 ⊢
  refine (HOF.out W0).mono ?_
  rintro e W1 ⟨rfl, hb⟩
  obtain ⟨B1, s0, sz⟩ := box1 W1 #[.bool i, .bool c, .bool t, .bool true, .bool false] 106
  have HT2 := Lib.hid (ex_below (ex_below HT0.out hb) B1)
  have HB2 := Lib.hid ((HB0.out.trans (hb.mono HB0.out.size)).trans (B1.mono (Nat.le_trans HB0.out.size hb.size)))
  obtain ⟨T3, hT3⟩ : ∃ x, W1.heap.size = x := ⟨_, rfl⟩
  rw [hT3] at s0
  have HF2 := Lib.hid s0
  clear hb B1 s0 sz HB0 HT0 q0 q1 q2 q3 q4 q5 q6 q7 q8 q9 q10 q11 q12
  obtain ⟨q0, q1, q2, q3, q4, q5, q6, q7, q8, q9, q10, q11, q12⟩ := cmd_at HT2.out
  obtain ⟨⟨r0, r1, r2, r3, r4⟩, -⟩ := five_at HF2.out
  go_wp2_with fail
  try rw [hT3]
  generalize W1.alloc (.cells #[.bool i, .bool c, .bool t, .bool true, .bool false] 106) = W2 at HT2 HB2 HF2 q0 q1 q2 q3 q4 q5 q6 q7 q8 q9 q10 q11 q12 r0 r1 r2 r3 r4 ⊢
  clear hT3
  refine (HNM.out W2).mono ?_
  rintro e W3 ⟨rfl, rfl⟩
  clear HNM HOF
  cases nm
  · go_wp2_with fail
    go_ret
    exact ⟨rfl, HB2.out⟩
  by_cases h8 : 8 < cl
  · have e8 : decide (8 < cl) = true := decide_eq_true h8
    go_wp2_with fail
    go_ret
    exact ⟨by simp [h8], HB2.out⟩
  have e8 : decide (8 < cl) = false := decide_eq_false h8
  by_cases h0 : cn < 0
  · have e0 : decide (cn < 0) = true := decide_eq_true h0
    go_wp2_with fail
    go_ret
    exact ⟨by simp [h0], HB2.out⟩
  have e0 : decide (cn < 0) = false := decide_eq_false h0
  by_cases h16 : 16 ≤ cn
  · have e16 : decide (16 ≤ cn) = true := decide_eq_true h16
    go_wp2_with fail
    go_ret
    exact ⟨by simp [h16], HB2.out⟩
  have e16 : decide (16 ≤ cn) = false := decide_eq_false h16
  by_cases hz : ce = 0
  rotate_left
  · have ez : (ce != 0) = true := by simp [hz]
    have ez2 : (!decide (ce = 0)) = true := by simp [hz]
    go_wp2_with (go_at_call 52; refine (HCK.out _ HB2.out).mono ?_; rintro e W4 ⟨rfl, hb⟩; have HB4 := Lib.hid (HB2.out.trans (hb.mono HB2.out.size)); clear hb)
    go_ret
    exact ⟨by simp [hz], HB4.out⟩
  subst hz
  go_wp2_with fail
  refine (HCK.out _ HB2.out).mono ?_
  rintro e W4 ⟨rfl, hb⟩
  have HB4 := Lib.hid (HB2.out.trans (hb.mono HB2.out.size))
  have HT4 := Lib.hid (ex_below HT2.out hb)
  have HF4 := Lib.hid (ex_below HF2.out hb)
  clear hb q0 q1 q2 q3 q4 q5 q6 q7 q8 q9 q10 q11 q12 r0 r1 r2 r3 r4 HT2 HF2 HB2
  obtain ⟨q0, q1, q2, q3, q4, q5, q6, q7, q8, q9, q10, q11, q12⟩ := cmd_at HT4.out
  obtain ⟨⟨r0, r1, r2, r3, r4⟩, -⟩ := five_at HF4.out
  have h0' : (W4.drew.cell? ⟨w.heap.size, 0, none⟩ = some (.int .i64 kd) ∧ W4.drew.cell? ⟨w.heap.size, 1, none⟩ = some (.int .u64 cl) ∧ W4.drew.cell? ⟨w.heap.size, 2, none⟩ = some (.int .u64 rq) ∧ W4.drew.cell? ⟨w.heap.size, 3, none⟩ = some (.int .u64 id) ∧ W4.drew.cell? ⟨w.heap.size, 4, none⟩ = some (.int .i64 cn) ∧ W4.drew.cell? ⟨w.heap.size, 5, none⟩ = some (.int .i64 tm) ∧ W4.drew.cell? ⟨w.heap.size, 6, none⟩ = some (.int .i64 off) ∧ W4.drew.cell? ⟨w.heap.size, 7, none⟩ = some (.slice a n ca) ∧ W4.drew.cell? ⟨w.heap.size, 8, none⟩ = some (.slice b m cb) ∧ W4.drew.cell? ⟨w.heap.size, 9, none⟩ = some (.int .i64 tc) ∧ W4.drew.cell? ⟨w.heap.size, 10, none⟩ = some (.slice d l cd) ∧ W4.drew.cell? ⟨w.heap.size, 11, none⟩ = some (.int .i64 tr) ∧ W4.drew.cell? ⟨w.heap.size, 12, none⟩ = some (.int .i64 tb)) ∧ (W4.drew.cell? ⟨T3, 0, none⟩ = some (.bool i) ∧ W4.drew.cell? ⟨T3, 1, none⟩ = some (.bool c) ∧ W4.drew.cell? ⟨T3, 2, none⟩ = some (.bool t) ∧ W4.drew.cell? ⟨T3, 3, none⟩ = some (.bool true) ∧ W4.drew.cell? ⟨T3, 4, none⟩ = some (.bool false)) := ⟨cmd_at HT4.out, (five_at HF4.out).1⟩
  go_wp2_with fail
  refine wp_region_held_drew (S := fun w1 => (w1.cell? ⟨w.heap.size, 0, none⟩ = some (.int .i64 kd) ∧ w1.cell? ⟨w.heap.size, 1, none⟩ = some (.int .u64 cl) ∧ w1.cell? ⟨w.heap.size, 2, none⟩ = some (.int .u64 rq) ∧ w1.cell? ⟨w.heap.size, 3, none⟩ = some (.int .u64 id) ∧ w1.cell? ⟨w.heap.size, 4, none⟩ = some (.int .i64 cn) ∧ w1.cell? ⟨w.heap.size, 5, none⟩ = some (.int .i64 tm) ∧ w1.cell? ⟨w.heap.size, 6, none⟩ = some (.int .i64 off) ∧ w1.cell? ⟨w.heap.size, 7, none⟩ = some (.slice a n ca) ∧ w1.cell? ⟨w.heap.size, 8, none⟩ = some (.slice b m cb) ∧ w1.cell? ⟨w.heap.size, 9, none⟩ = some (.int .i64 tc) ∧ w1.cell? ⟨w.heap.size, 10, none⟩ = some (.slice d l cd) ∧ w1.cell? ⟨w.heap.size, 11, none⟩ = some (.int .i64 tr) ∧ w1.cell? ⟨w.heap.size, 12, none⟩ = some (.int .i64 tb)) ∧ (w1.cell? ⟨T3, 0, none⟩ = some (.bool i) ∧ w1.cell? ⟨T3, 1, none⟩ = some (.bool c) ∧ w1.cell? ⟨T3, 2, none⟩ = some (.bool t) ∧ w1.cell? ⟨T3, 3, none⟩ = some (.bool true) ∧ w1.cell? ⟨T3, 4, none⟩ = some (.bool false))) (by kernel_rfl) h0' (fun hHeld => ?_)
  refine wpAnyH_take (i := 0) (v := ?_) rfl (by kernel_rfl) (by kernel_rfl) (by kernel_rfl) (fun _ _ _ h => h) (Or.inl ⟨by rfl, ?_⟩) (by assumption) ?_
  case refine_2 => (intro w1 hS1; obtain ⟨⟨a0, a1, a2, a3, a4, a5, a6, a7, a8, a9, a10, a11, a12⟩, b0, b1, b2, b3, b4⟩ := hS1; go_simp; try with_reducible rfl)
  try simp only [List.getElem_toArray, List.getElem_cons_zero, List.getElem_cons_succ, Act.put, List.setIfInBounds_toArray, List.set_cons_zero, List.set_cons_succ]
  refine wpAnyH_take (i := 1) (v := ?_) rfl (by kernel_rfl) (by kernel_rfl) (by kernel_rfl) (fun _ _ _ h => h) (Or.inl ⟨by rfl, ?_⟩) (by assumption) ?_
  case refine_2 => (intro w1 hS1; obtain ⟨⟨a0, a1, a2, a3, a4, a5, a6, a7, a8, a9, a10, a11, a12⟩, b0, b1, b2, b3, b4⟩ := hS1; go_simp; try with_reducible rfl)
  try simp only [List.getElem_toArray, List.getElem_cons_zero, List.getElem_cons_succ, Act.put, List.setIfInBounds_toArray, List.set_cons_zero, List.set_cons_succ]
  refine wpAnyH_take (i := 2) (v := ?_) rfl (by kernel_rfl) (by kernel_rfl) (by kernel_rfl) (fun _ _ _ h => h) (Or.inl ⟨by rfl, ?_⟩) (by assumption) ?_
  case refine_2 => (intro w1 hS1; obtain ⟨⟨a0, a1, a2, a3, a4, a5, a6, a7, a8, a9, a10, a11, a12⟩, b0, b1, b2, b3, b4⟩ := hS1; go_simp; try with_reducible rfl)
  try simp only [List.getElem_toArray, List.getElem_cons_zero, List.getElem_cons_succ, Act.put, List.setIfInBounds_toArray, List.set_cons_zero, List.set_cons_succ]
  refine wpAnyH_ready (rs := [3]) (by kernel_rfl) (by simp) ?_
  refine (AllReadyH.cons rfl (fun K hK => ?_) AllReadyH.nil)
  go_simp
  refine (HON.out _).mono ?_
  rintro e W5 ⟨rfl, hb⟩
  have b5 : Below W4.heap.size W4 W5 := (Below.refl _ _).drew.trans hb
  clear hb
  refine hK.out _ _ ⟨cmd_at (ex_below HT4.out b5), (five_at (ex_below HF4.out b5)).1⟩ (fun hHeld => ?_)
  clear hK K hHeld
  try simp only [List.getElem_toArray, List.getElem_cons_zero, List.getElem_cons_succ, Act.put, List.setIfInBounds_toArray, List.set_cons_zero, List.set_cons_succ]
  refine wpAnyH_ready (rs := [4]) (by kernel_rfl) (by simp) ?_
  refine (AllReadyH.cons rfl (fun K hK => ?_) AllReadyH.nil)
  go_simp
  refine (HSM.out _ (HB4.out.trans (b5.mono HB4.out.size))).mono ?_
  rintro e W6 ⟨rfl, hb⟩
  have b6 : Below W4.heap.size W4 W6 := b5.trans (hb.mono b5.size)
  clear hb
  refine hK.out _ _ ⟨cmd_at (ex_below HT4.out b6), (five_at (ex_below HF4.out b6)).1⟩ (fun hHeld => ?_)
  clear hK K hHeld
  try simp only [List.getElem_toArray, List.getElem_cons_zero, List.getElem_cons_succ, Act.put, List.setIfInBounds_toArray, List.set_cons_zero, List.set_cons_succ]
  refine wpAnyH_take (i := 5) (v := ?_) rfl (by kernel_rfl) (by kernel_rfl) (by kernel_rfl) (fun _ _ _ h => h) (Or.inl ⟨by rfl, ?_⟩) ⟨cmd_at (ex_below HT4.out b6), (five_at (ex_below HF4.out b6)).1⟩ ?_
  case refine_2 => (intro w1 hS1; (try dsimp only at hS1); go_simp; try with_reducible rfl)
  try simp only [List.getElem_toArray, List.getElem_cons_zero, List.getElem_cons_succ, Act.put, List.setIfInBounds_toArray, List.set_cons_zero, List.set_cons_succ]
  refine wpAnyH_done (by kernel_rfl) ?_ _
  go_wp2_with fail
  go_ret
  exact ⟨by simp [e8, e0, e16], HB4.out.trans (b6.mono HB4.out.size)⟩
set_option maxRecDepth 100000 in
set_option maxHeartbeats 16000000 in
theorem sound_01 (kd cl rq id cn tm off : Int) (a : Option Addr) (n ca : Nat) (b : Option Addr) (m cb : Nat) (tc : Int) (d : Option Addr) (l cd : Nat) (tr tb : Int) (F T G U B P : Nat → Int) (i c t : Bool) (w : World) (hS : Sps w a n F T) (hR : Sps w b m G U) (hD : Sps w d l B P) (nm : Bool) (hnm : (decide (1 ≤ kd) && decide (kd ≤ 12)) = nm)
    (hof : ∀ W, Calls Try.prog 51 #[.int .i64 kd] W fun e w' => e = .returned (ofV i c t false true) ∧ Below W.heap.size W w') (hon : ∀ W, Calls Try.prog 54 #[cmdV kd cl rq id cn tm off a n ca b m cb tc d l cd tr tb, ofV i c t false true] W fun e w' => e = .returned (cmdV kd cl rq (if i = true then id else 0) (if c = true then cn else 0) (if t = true then tm else 0) 0 none 0 0 none 0 0 tc d l cd tr tb) ∧ Below W.heap.size W w') :
    Calls Try.prog 14 #[cmdV kd cl rq id cn tm off a n ca b m cb tc d l cd tr tb] w fun e w' => e = .returned (.bool (nm && (!decide (8 < cl) && (!decide (cn < 0) && (!decide (16 ≤ cn) && (goodC tc l tr tb B P && cmdEq kd kd cl cl rq rq id (if i = true then id else 0) cn (if c = true then cn else 0) tm (if t = true then tm else 0) off 0 F T F T n 0 G U G U m 0 tc tc B P B P l l tr tr tb tb)))))) ∧ Below w.heap.size w w' := by
  have HNM := Lib.hid (fun W => named_any kd W)
  rw [hnm] at HNM
  have HOF := Lib.hid hof
  have HON := Lib.hid hon
  have HCT := Lib.hid (fun W (hb : Below w.heap.size w W) => check_any tc d l cd tr tb B P W (hD.kept hb))
  unfold conV at HCT
  have HSM := Lib.hid (fun W (hb : Below w.heap.size w W) => cmd_same kd cl rq id cn tm off a n ca b m cb tc d l cd tr tb F T G U B P kd cl rq (if i = true then id else 0) (if c = true then cn else 0) (if t = true then tm else 0) 0 none 0 0 none 0 0 tc d l cd tr tb F T G U B P W (hS.kept hb) (hR.kept hb) (hD.kept hb) ((sps_none W F T)) ((sps_none W G U)) (hD.kept hb))
  obtain ⟨eq, heq⟩ : ∃ x, cmdEq kd kd cl cl rq rq id (if i = true then id else 0) cn (if c = true then cn else 0) tm (if t = true then tm else 0) off 0 F T F T n 0 G U G U m 0 tc tc B P B P l l tr tr tb tb = x := ⟨_, rfl⟩
  rw [heq] at HSM ⊢
  obtain ⟨gd, hgd⟩ : ∃ x, goodC tc l tr tb B P = x := ⟨_, rfl⟩
  rw [hgd] at HCT ⊢
  clear hgd
  obtain ⟨id2, hid2⟩ : ∃ x : Int, (if i = true then id else 0) = x := ⟨_, rfl⟩
  obtain ⟨cn2, hcn2⟩ : ∃ x : Int, (if c = true then cn else 0) = x := ⟨_, rfl⟩
  obtain ⟨tm2, htm2⟩ : ∃ x : Int, (if t = true then tm else 0) = x := ⟨_, rfl⟩
  rw [hid2, hcn2, htm2] at HON HSM
  obtain ⟨B1, s0, sz⟩ := box1 w #[.int .i64 kd, .int .u64 cl, .int .u64 rq, .int .u64 id, .int .i64 cn, .int .i64 tm, .int .i64 off, .slice a n ca, .slice b m cb, .int .i64 tc, .slice d l cd, .int .i64 tr, .int .i64 tb] 30
  have HB0 := Lib.hid B1
  have HT0 := Lib.hid s0
  obtain ⟨q0, q1, q2, q3, q4, q5, q6, q7, q8, q9, q10, q11, q12⟩ := cmd_at s0
  clear hS hR hD hnm hof hon heq hid2 hcn2 htm2 B1 s0 sz
  unfold cmdV ofV at *
  go_enter Try.func14, Try.ntmps14
  go_wp2_with fail
  generalize w.alloc (.cells #[.int .i64 kd, .int .u64 cl, .int .u64 rq, .int .u64 id, .int .i64 cn, .int .i64 tm, .int .i64 off, .slice a n ca, .slice b m cb, .int .i64 tc, .slice d l cd, .int .i64 tr, .int .i64 tb] 30) = W0 at HB0 HT0 q0 q1 q2 q3 q4 q5 q6 q7 q8 q9 q10 q11 q12 ⊢
  refine (HOF.out W0).mono ?_
  rintro e W1 ⟨rfl, hb⟩
  obtain ⟨B1, s0, sz⟩ := box1 W1 #[.bool i, .bool c, .bool t, .bool false, .bool true] 106
  have HT2 := Lib.hid (ex_below (ex_below HT0.out hb) B1)
  have HB2 := Lib.hid ((HB0.out.trans (hb.mono HB0.out.size)).trans (B1.mono (Nat.le_trans HB0.out.size hb.size)))
  obtain ⟨T3, hT3⟩ : ∃ x, W1.heap.size = x := ⟨_, rfl⟩
  rw [hT3] at s0
  have HF2 := Lib.hid s0
  clear hb B1 s0 sz HB0 HT0 q0 q1 q2 q3 q4 q5 q6 q7 q8 q9 q10 q11 q12
  obtain ⟨q0, q1, q2, q3, q4, q5, q6, q7, q8, q9, q10, q11, q12⟩ := cmd_at HT2.out
  obtain ⟨⟨r0, r1, r2, r3, r4⟩, -⟩ := five_at HF2.out
  go_wp2_with fail
  try rw [hT3]
  generalize W1.alloc (.cells #[.bool i, .bool c, .bool t, .bool false, .bool true] 106) = W2 at HT2 HB2 HF2 q0 q1 q2 q3 q4 q5 q6 q7 q8 q9 q10 q11 q12 r0 r1 r2 r3 r4 ⊢
  clear hT3
  refine (HNM.out W2).mono ?_
  rintro e W3 ⟨rfl, rfl⟩
  clear HNM HOF
  cases nm
  · go_wp2_with fail
    go_ret
    exact ⟨rfl, HB2.out⟩
  by_cases h8 : 8 < cl
  · have e8 : decide (8 < cl) = true := decide_eq_true h8
    go_wp2_with fail
    go_ret
    exact ⟨by simp [h8], HB2.out⟩
  have e8 : decide (8 < cl) = false := decide_eq_false h8
  by_cases h0 : cn < 0
  · have e0 : decide (cn < 0) = true := decide_eq_true h0
    go_wp2_with fail
    go_ret
    exact ⟨by simp [h0], HB2.out⟩
  have e0 : decide (cn < 0) = false := decide_eq_false h0
  by_cases h16 : 16 ≤ cn
  · have e16 : decide (16 ≤ cn) = true := decide_eq_true h16
    go_wp2_with fail
    go_ret
    exact ⟨by simp [h16], HB2.out⟩
  have e16 : decide (16 ≤ cn) = false := decide_eq_false h16
  cases gd
  · go_wp2_with (go_at_call 53; refine (HCT.out _ HB2.out).mono ?_; rintro e W4 ⟨rfl, hb⟩; have HB4 := Lib.hid (HB2.out.trans (hb.mono HB2.out.size)); clear hb)
    go_ret
    exact ⟨by simp, HB4.out⟩
  go_wp2_with fail
  refine (HCT.out _ HB2.out).mono ?_
  rintro e W4 ⟨rfl, hb⟩
  have HB4 := Lib.hid (HB2.out.trans (hb.mono HB2.out.size))
  have HT4 := Lib.hid (ex_below HT2.out hb)
  have HF4 := Lib.hid (ex_below HF2.out hb)
  clear hb q0 q1 q2 q3 q4 q5 q6 q7 q8 q9 q10 q11 q12 r0 r1 r2 r3 r4 HT2 HF2 HB2
  obtain ⟨q0, q1, q2, q3, q4, q5, q6, q7, q8, q9, q10, q11, q12⟩ := cmd_at HT4.out
  obtain ⟨⟨r0, r1, r2, r3, r4⟩, -⟩ := five_at HF4.out
  have h0' : (W4.drew.cell? ⟨w.heap.size, 0, none⟩ = some (.int .i64 kd) ∧ W4.drew.cell? ⟨w.heap.size, 1, none⟩ = some (.int .u64 cl) ∧ W4.drew.cell? ⟨w.heap.size, 2, none⟩ = some (.int .u64 rq) ∧ W4.drew.cell? ⟨w.heap.size, 3, none⟩ = some (.int .u64 id) ∧ W4.drew.cell? ⟨w.heap.size, 4, none⟩ = some (.int .i64 cn) ∧ W4.drew.cell? ⟨w.heap.size, 5, none⟩ = some (.int .i64 tm) ∧ W4.drew.cell? ⟨w.heap.size, 6, none⟩ = some (.int .i64 off) ∧ W4.drew.cell? ⟨w.heap.size, 7, none⟩ = some (.slice a n ca) ∧ W4.drew.cell? ⟨w.heap.size, 8, none⟩ = some (.slice b m cb) ∧ W4.drew.cell? ⟨w.heap.size, 9, none⟩ = some (.int .i64 tc) ∧ W4.drew.cell? ⟨w.heap.size, 10, none⟩ = some (.slice d l cd) ∧ W4.drew.cell? ⟨w.heap.size, 11, none⟩ = some (.int .i64 tr) ∧ W4.drew.cell? ⟨w.heap.size, 12, none⟩ = some (.int .i64 tb)) ∧ (W4.drew.cell? ⟨T3, 0, none⟩ = some (.bool i) ∧ W4.drew.cell? ⟨T3, 1, none⟩ = some (.bool c) ∧ W4.drew.cell? ⟨T3, 2, none⟩ = some (.bool t) ∧ W4.drew.cell? ⟨T3, 3, none⟩ = some (.bool false) ∧ W4.drew.cell? ⟨T3, 4, none⟩ = some (.bool true)) := ⟨cmd_at HT4.out, (five_at HF4.out).1⟩
  go_wp2_with fail
  refine wp_region_held_drew (S := fun w1 => (w1.cell? ⟨w.heap.size, 0, none⟩ = some (.int .i64 kd) ∧ w1.cell? ⟨w.heap.size, 1, none⟩ = some (.int .u64 cl) ∧ w1.cell? ⟨w.heap.size, 2, none⟩ = some (.int .u64 rq) ∧ w1.cell? ⟨w.heap.size, 3, none⟩ = some (.int .u64 id) ∧ w1.cell? ⟨w.heap.size, 4, none⟩ = some (.int .i64 cn) ∧ w1.cell? ⟨w.heap.size, 5, none⟩ = some (.int .i64 tm) ∧ w1.cell? ⟨w.heap.size, 6, none⟩ = some (.int .i64 off) ∧ w1.cell? ⟨w.heap.size, 7, none⟩ = some (.slice a n ca) ∧ w1.cell? ⟨w.heap.size, 8, none⟩ = some (.slice b m cb) ∧ w1.cell? ⟨w.heap.size, 9, none⟩ = some (.int .i64 tc) ∧ w1.cell? ⟨w.heap.size, 10, none⟩ = some (.slice d l cd) ∧ w1.cell? ⟨w.heap.size, 11, none⟩ = some (.int .i64 tr) ∧ w1.cell? ⟨w.heap.size, 12, none⟩ = some (.int .i64 tb)) ∧ (w1.cell? ⟨T3, 0, none⟩ = some (.bool i) ∧ w1.cell? ⟨T3, 1, none⟩ = some (.bool c) ∧ w1.cell? ⟨T3, 2, none⟩ = some (.bool t) ∧ w1.cell? ⟨T3, 3, none⟩ = some (.bool false) ∧ w1.cell? ⟨T3, 4, none⟩ = some (.bool true))) (by kernel_rfl) h0' (fun hHeld => ?_)
  refine wpAnyH_take (i := 0) (v := ?_) rfl (by kernel_rfl) (by kernel_rfl) (by kernel_rfl) (fun _ _ _ h => h) (Or.inl ⟨by rfl, ?_⟩) (by assumption) ?_
  case refine_2 => (intro w1 hS1; obtain ⟨⟨a0, a1, a2, a3, a4, a5, a6, a7, a8, a9, a10, a11, a12⟩, b0, b1, b2, b3, b4⟩ := hS1; go_simp; try with_reducible rfl)
  try simp only [List.getElem_toArray, List.getElem_cons_zero, List.getElem_cons_succ, Act.put, List.setIfInBounds_toArray, List.set_cons_zero, List.set_cons_succ]
  refine wpAnyH_take (i := 1) (v := ?_) rfl (by kernel_rfl) (by kernel_rfl) (by kernel_rfl) (fun _ _ _ h => h) (Or.inl ⟨by rfl, ?_⟩) (by assumption) ?_
  case refine_2 => (intro w1 hS1; obtain ⟨⟨a0, a1, a2, a3, a4, a5, a6, a7, a8, a9, a10, a11, a12⟩, b0, b1, b2, b3, b4⟩ := hS1; go_simp; try with_reducible rfl)
  try simp only [List.getElem_toArray, List.getElem_cons_zero, List.getElem_cons_succ, Act.put, List.setIfInBounds_toArray, List.set_cons_zero, List.set_cons_succ]
  refine wpAnyH_take (i := 2) (v := ?_) rfl (by kernel_rfl) (by kernel_rfl) (by kernel_rfl) (fun _ _ _ h => h) (Or.inl ⟨by rfl, ?_⟩) (by assumption) ?_
  case refine_2 => (intro w1 hS1; obtain ⟨⟨a0, a1, a2, a3, a4, a5, a6, a7, a8, a9, a10, a11, a12⟩, b0, b1, b2, b3, b4⟩ := hS1; go_simp; try with_reducible rfl)
  try simp only [List.getElem_toArray, List.getElem_cons_zero, List.getElem_cons_succ, Act.put, List.setIfInBounds_toArray, List.set_cons_zero, List.set_cons_succ]
  refine wpAnyH_ready (rs := [3]) (by kernel_rfl) (by simp) ?_
  refine (AllReadyH.cons rfl (fun K hK => ?_) AllReadyH.nil)
  go_simp
  refine (HON.out _).mono ?_
  rintro e W5 ⟨rfl, hb⟩
  have b5 : Below W4.heap.size W4 W5 := (Below.refl _ _).drew.trans hb
  clear hb
  refine hK.out _ _ ⟨cmd_at (ex_below HT4.out b5), (five_at (ex_below HF4.out b5)).1⟩ (fun hHeld => ?_)
  clear hK K hHeld
  try simp only [List.getElem_toArray, List.getElem_cons_zero, List.getElem_cons_succ, Act.put, List.setIfInBounds_toArray, List.set_cons_zero, List.set_cons_succ]
  refine wpAnyH_ready (rs := [4]) (by kernel_rfl) (by simp) ?_
  refine (AllReadyH.cons rfl (fun K hK => ?_) AllReadyH.nil)
  go_simp
  refine (HSM.out _ (HB4.out.trans (b5.mono HB4.out.size))).mono ?_
  rintro e W6 ⟨rfl, hb⟩
  have b6 : Below W4.heap.size W4 W6 := b5.trans (hb.mono b5.size)
  clear hb
  refine hK.out _ _ ⟨cmd_at (ex_below HT4.out b6), (five_at (ex_below HF4.out b6)).1⟩ (fun hHeld => ?_)
  clear hK K hHeld
  try simp only [List.getElem_toArray, List.getElem_cons_zero, List.getElem_cons_succ, Act.put, List.setIfInBounds_toArray, List.set_cons_zero, List.set_cons_succ]
  refine wpAnyH_take (i := 5) (v := ?_) rfl (by kernel_rfl) (by kernel_rfl) (by kernel_rfl) (fun _ _ _ h => h) (Or.inl ⟨by rfl, ?_⟩) ⟨cmd_at (ex_below HT4.out b6), (five_at (ex_below HF4.out b6)).1⟩ ?_
  case refine_2 => (intro w1 hS1; (try dsimp only at hS1); go_simp; try with_reducible rfl)
  try simp only [List.getElem_toArray, List.getElem_cons_zero, List.getElem_cons_succ, Act.put, List.setIfInBounds_toArray, List.set_cons_zero, List.set_cons_succ]
  refine wpAnyH_done (by kernel_rfl) ?_ _
  go_wp2_with fail
  go_ret
  exact ⟨by simp [e8, e0, e16], HB4.out.trans (b6.mono HB4.out.size)⟩
end Go.Proofs.Ytibjboacjobaoaa

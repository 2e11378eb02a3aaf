/- Whether there may be a command. -/
import Derived.Test.YtibjboacjobaoaaNkD
import Derived.Test.YtibjboacjobaoaaMgAW
import Derived.Deep.RegionHeld
namespace Go.Proofs.Ytibjboacjobaoaa
open Go.RowKit
theorem sps_none (w : World) (F T : Nat → Int) : Sps w none 0 F T := ⟨Nat.zero_le _, fun h => absurd h (Nat.lt_irrefl 0)⟩
set_option maxRecDepth 100000 in
set_option maxHeartbeats 16000000 in
theorem sound_00 (kd cl rq id cn tm off : Int) (a : Option Addr) (n ca : Nat) (b : Option Addr) (m cb : Nat) (tc : Int) (d : Option Addr) (l cd : Nat) (tr tb : Int) (F T G U B P : Nat → Int) (i c t : Bool) (w : World) (hS : Sps w a n F T) (hR : Sps w b m G U) (hD : Sps w d l B P) (nm : Bool) (hnm : (decide (1 ≤ kd) && decide (kd ≤ 12)) = nm)
    (hof : ∀ W, Calls Try.prog 51 #[.int .i64 kd] W fun e w' => e = .returned (ofV i c t false false) ∧ Below W.heap.size W w') (hon : ∀ W, Calls Try.prog 54 #[cmdV kd cl rq id cn tm off a n ca b m cb tc d l cd tr tb, ofV i c t false false] W fun e w' => e = .returned (cmdV kd cl rq (if i = true then id else 0) (if c = true then cn else 0) (if t = true then tm else 0) 0 none 0 0 none 0 0 0 none 0 0 0 0) ∧ Below W.heap.size W w') :
    Calls Try.prog 14 #[cmdV kd cl rq id cn tm off a n ca b m cb tc d l cd tr tb] w fun e w' => e = .returned (.bool (nm && (!decide (8 < cl) && (!decide (cn < 0) && (!decide (16 ≤ cn) && (cmdEq kd kd cl cl rq rq id (if i = true then id else 0) cn (if c = true then cn else 0) tm (if t = true then tm else 0) off 0 F T F T n 0 G U G U m 0 tc 0 B P B P l 0 tr 0 tb 0)))))) ∧ Below w.heap.size w w' := by
  have HNM := Lib.hid (fun W => named_any kd W)
  rw [hnm] at HNM
  have HOF := Lib.hid hof
  have HON := Lib.hid hon
  have HSM := Lib.hid (fun W (hb : Below w.heap.size w W) => cmd_same kd cl rq id cn tm off a n ca b m cb tc d l cd tr tb F T G U B P kd cl rq (if i = true then id else 0) (if c = true then cn else 0) (if t = true then tm else 0) 0 none 0 0 none 0 0 0 none 0 0 0 0 F T G U B P W (hS.kept hb) (hR.kept hb) (hD.kept hb) ((sps_none W F T)) ((sps_none W G U)) ((sps_none W B P)))
  obtain ⟨eq, heq⟩ : ∃ x, cmdEq kd kd cl cl rq rq id (if i = true then id else 0) cn (if c = true then cn else 0) tm (if t = true then tm else 0) off 0 F T F T n 0 G U G U m 0 tc 0 B P B P l 0 tr 0 tb 0 = x := ⟨_, rfl⟩
  rw [heq] at HSM ⊢
  obtain ⟨id2, hid2⟩ : ∃ x : Int, (if i = true then id else 0) = x := ⟨_, rfl⟩
  obtain ⟨cn2, hcn2⟩ : ∃ x : Int, (if c = true then cn else 0) = x := ⟨_, rfl⟩
  obtain ⟨tm2, htm2⟩ : ∃ x : Int, (if t = true then tm else 0) = x := ⟨_, rfl⟩
  rw [hid2, hcn2, htm2] at HON HSM
  obtain ⟨B1, s0, sz⟩ := box1 w #[.int .i64 kd, .int .u64 cl, .int .u64 rq, .int .u64 id, .int .i64 cn, .int .i64 tm, .int .i64 off, .slice a n ca, .slice b m cb, .int .i64 tc, .slice d l cd, .int .i64 tr, .int .i64 tb] 30
  have HB0 := Lib.hid B1
  have HT0 := Lib.hid s0
  obtain ⟨q0, q1, q2, q3, q4, q5, q6, q7, q8, q9, q10, q11, q12⟩ := cmd_at s0
  clear hS hR hD hnm hof hon heq hid2 hcn2 htm2 B1 s0 sz
  unfold cmdV ofV at *
  go_enter Try.func14, Try.ntmps14
  go_wp2_with fail
  generalize w.alloc (.cells #[.int .i64 kd, .int .u64 cl, .int .u64 rq, .int .u64 id, .int .i64 cn, .int .i64 tm, .int .i64 off, .slice a n ca, .slice b m cb, .int .i64 tc, .slice d l cd, .int .i64 tr, .int .i64 tb] 30) = W0 at HB0 HT0 q0 q1 q2 q3 q4 q5 q6 q7 q8 q9 q10 q11 q12 ⊢
  refine (HOF.out W0).mono ?_
  rintro e W1 ⟨rfl, hb⟩
  obtain ⟨B1, s0, sz⟩ := box1 W1 #[.bool i, .bool c, .bool t, .bool false, .bool false] 106
  have HT2 := Lib.hid (ex_below (ex_below HT0.out hb) B1)
  have HB2 := Lib.hid ((HB0.out.trans (hb.mono HB0.out.size)).trans (B1.mono (Nat.le_trans HB0.out.size hb.size)))
  obtain ⟨T3, hT3⟩ : ∃ x, W1.heap.size = x := ⟨_, rfl⟩
  rw [hT3] at s0
  have HF2 := Lib.hid s0
  clear hb B1 s0 sz HB0 HT0 q0 q1 q2 q3 q4 q5 q6 q7 q8 q9 q10 q11 q12
  obtain ⟨q0, q1, q2, q3, q4, q5, q6, q7, q8, q9, q10, q11, q12⟩ := cmd_at HT2.out
  obtain ⟨⟨r0, r1, r2, r3, r4⟩, -⟩ := five_at HF2.out
  go_wp2_with fail
  try rw [hT3]
  generalize W1.alloc (.cells #[.bool i, .bool c, .bool t, .bool false, .bool false] 106) = W2 at HT2 HB2 HF2 q0 q1 q2 q3 q4 q5 q6 q7 q8 q9 q10 q11 q12 r0 r1 r2 r3 r4 ⊢
  clear hT3
  refine (HNM.out W2).mono ?_
  rintro e W3 ⟨rfl, rfl⟩
  clear HNM HOF
  cases nm
  · go_wp2_with fail
    go_ret
    exact ⟨rfl, HB2.out⟩
  by_cases h8 : 8 < cl
  · have e8 : decide (8 < cl) = true := decide_eq_true h8
    go_wp2_with fail
    go_ret
    exact ⟨by simp [h8], HB2.out⟩
  have e8 : decide (8 < cl) = false := decide_eq_false h8
  by_cases h0 : cn < 0
  · have e0 : decide (cn < 0) = true := decide_eq_true h0
    go_wp2_with fail
    go_ret
    exact ⟨by simp [h0], HB2.out⟩
  have e0 : decide (cn < 0) = false := decide_eq_false h0
  by_cases h16 : 16 ≤ cn
  · have e16 : decide (16 ≤ cn) = true := decide_eq_true h16
    go_wp2_with fail
    go_ret
    exact ⟨by simp [h16], HB2.out⟩
  have e16 : decide (16 ≤ cn) = false := decide_eq_false h16
  have h0' : (W3.drew.cell? ⟨w.heap.size, 0, none⟩ = some (.int .i64 kd) ∧ W3.drew.cell? ⟨w.heap.size, 1, none⟩ = some (.int .u64 cl) ∧ W3.drew.cell? ⟨w.heap.size, 2, none⟩ = some (.int .u64 rq) ∧ W3.drew.cell? ⟨w.heap.size, 3, none⟩ = some (.int .u64 id) ∧ W3.drew.cell? ⟨w.heap.size, 4, none⟩ = some (.int .i64 cn) ∧ W3.drew.cell? ⟨w.heap.size, 5, none⟩ = some (.int .i64 tm) ∧ W3.drew.cell? ⟨w.heap.size, 6, none⟩ = some (.int .i64 off) ∧ W3.drew.cell? ⟨w.heap.size, 7, none⟩ = some (.slice a n ca) ∧ W3.drew.cell? ⟨w.heap.size, 8, none⟩ = some (.slice b m cb) ∧ W3.drew.cell? ⟨w.heap.size, 9, none⟩ = some (.int .i64 tc) ∧ W3.drew.cell? ⟨w.heap.size, 10, none⟩ = some (.slice d l cd) ∧ W3.drew.cell? ⟨w.heap.size, 11, none⟩ = some (.int .i64 tr) ∧ W3.drew.cell? ⟨w.heap.size, 12, none⟩ = some (.int .i64 tb)) ∧ (W3.drew.cell? ⟨T3, 0, none⟩ = some (.bool i) ∧ W3.drew.cell? ⟨T3, 1, none⟩ = some (.bool c) ∧ W3.drew.cell? ⟨T3, 2, none⟩ = some (.bool t) ∧ W3.drew.cell? ⟨T3, 3, none⟩ = some (.bool false) ∧ W3.drew.cell? ⟨T3, 4, none⟩ = some (.bool false)) := ⟨cmd_at HT2.out, (five_at HF2.out).1⟩
  go_wp2_with fail
  refine wp_region_held_drew (S := fun w1 => (w1.cell? ⟨w.heap.size, 0, none⟩ = some (.int .i64 kd) ∧ w1.cell? ⟨w.heap.size, 1, none⟩ = some (.int .u64 cl) ∧ w1.cell? ⟨w.heap.size, 2, none⟩ = some (.int .u64 rq) ∧ w1.cell? ⟨w.heap.size, 3, none⟩ = some (.int .u64 id) ∧ w1.cell? ⟨w.heap.size, 4, none⟩ = some (.int .i64 cn) ∧ w1.cell? ⟨w.heap.size, 5, none⟩ = some (.int .i64 tm) ∧ w1.cell? ⟨w.heap.size, 6, none⟩ = some (.int .i64 off) ∧ w1.cell? ⟨w.heap.size, 7, none⟩ = some (.slice a n ca) ∧ w1.cell? ⟨w.heap.size, 8, none⟩ = some (.slice b m cb) ∧ w1.cell? ⟨w.heap.size, 9, none⟩ = some (.int .i64 tc) ∧ w1.cell? ⟨w.heap.size, 10, none⟩ = some (.slice d l cd) ∧ w1.cell? ⟨w.heap.size, 11, none⟩ = some (.int .i64 tr) ∧ w1.cell? ⟨w.heap.size, 12, none⟩ = some (.int .i64 tb)) ∧ (w1.cell? ⟨T3, 0, none⟩ = some (.bool i) ∧ w1.cell? ⟨T3, 1, none⟩ = some (.bool c) ∧ w1.cell? ⟨T3, 2, none⟩ = some (.bool t) ∧ w1.cell? ⟨T3, 3, none⟩ = some (.bool false) ∧ w1.cell? ⟨T3, 4, none⟩ = some (.bool false))) (by kernel_rfl) h0' (fun hHeld => ?_)
  refine wpAnyH_take (i := 0) (v := ?_) rfl (by kernel_rfl) (by kernel_rfl) (by kernel_rfl) (fun _ _ _ h => h) (Or.inl ⟨by rfl, ?_⟩) (by assumption) ?_
  case refine_2 => (intro w1 hS1; obtain ⟨⟨a0, a1, a2, a3, a4, a5, a6, a7, a8, a9, a10, a11, a12⟩, b0, b1, b2, b3, b4⟩ := hS1; go_simp; try with_reducible rfl)
  try simp only [List.getElem_toArray, List.getElem_cons_zero, List.getElem_cons_succ, Act.put, List.setIfInBounds_toArray, List.set_cons_zero, List.set_cons_succ]
  refine wpAnyH_take (i := 1) (v := ?_) rfl (by kernel_rfl) (by kernel_rfl) (by kernel_rfl) (fun _ _ _ h => h) (Or.inl ⟨by rfl, ?_⟩) (by assumption) ?_
  case refine_2 => (intro w1 hS1; obtain ⟨⟨a0, a1, a2, a3, a4, a5, a6, a7, a8, a9, a10, a11, a12⟩, b0, b1, b2, b3, b4⟩ := hS1; go_simp; try with_reducible rfl)
  try simp only [List.getElem_toArray, List.getElem_cons_zero, List.getElem_cons_succ, Act.put, List.setIfInBounds_toArray, List.set_cons_zero, List.set_cons_succ]
  refine wpAnyH_take (i := 2) (v := ?_) rfl (by kernel_rfl) (by kernel_rfl) (by kernel_rfl) (fun _ _ _ h => h) (Or.inl ⟨by rfl, ?_⟩) (by assumption) ?_
  case refine_2 => (intro w1 hS1; obtain ⟨⟨a0, a1, a2, a3, a4, a5, a6, a7, a8, a9, a10, a11, a12⟩, b0, b1, b2, b3, b4⟩ := hS1; go_simp; try with_reducible rfl)
  try simp only [List.getElem_toArray, List.getElem_cons_zero, List.getElem_cons_succ, Act.put, List.setIfInBounds_toArray, List.set_cons_zero, List.set_cons_succ]
  refine wpAnyH_ready (rs := [3]) (by kernel_rfl) (by simp) ?_
  refine (AllReadyH.cons rfl (fun K hK => ?_) AllReadyH.nil)
  go_simp
  refine (HON.out _).mono ?_
  rintro e W5 ⟨rfl, hb⟩
  have b5 : Below W3.heap.size W3 W5 := (Below.refl _ _).drew.trans hb
  clear hb
  refine hK.out _ _ ⟨cmd_at (ex_below HT2.out b5), (five_at (ex_below HF2.out b5)).1⟩ (fun hHeld => ?_)
  clear hK K hHeld
  try simp only [List.getElem_toArray, List.getElem_cons_zero, List.getElem_cons_succ, Act.put, List.setIfInBounds_toArray, List.set_cons_zero, List.set_cons_succ]
  refine wpAnyH_ready (rs := [4]) (by kernel_rfl) (by simp) ?_
  refine (AllReadyH.cons rfl (fun K hK => ?_) AllReadyH.nil)
  go_simp
  refine (HSM.out _ (HB2.out.trans (b5.mono HB2.out.size))).mono ?_
  rintro e W6 ⟨rfl, hb⟩
  have b6 : Below W3.heap.size W3 W6 := b5.trans (hb.mono b5.size)
  clear hb
  refine hK.out _ _ ⟨cmd_at (ex_below HT2.out b6), (five_at (ex_below HF2.out b6)).1⟩ (fun hHeld => ?_)
  clear hK K hHeld
  try simp only [List.getElem_toArray, List.getElem_cons_zero, List.getElem_cons_succ, Act.put, List.setIfInBounds_toArray, List.set_cons_zero, List.set_cons_succ]
  refine wpAnyH_take (i := 5) (v := ?_) rfl (by kernel_rfl) (by kernel_rfl) (by kernel_rfl) (fun _ _ _ h => h) (Or.inl ⟨by rfl, ?_⟩) ⟨cmd_at (ex_below HT2.out b6), (five_at (ex_below HF2.out b6)).1⟩ ?_
  case refine_2 => (intro w1 hS1; (try dsimp only at hS1); go_simp; try with_reducible rfl)
  try simp only [List.getElem_toArray, List.getElem_cons_zero, List.getElem_cons_succ, Act.put, List.setIfInBounds_toArray, List.set_cons_zero, List.set_cons_succ]
  refine wpAnyH_done (by kernel_rfl) ?_ _
  go_wp2_with fail
  go_ret
  exact ⟨by simp [e8, e0, e16], HB2.out.trans (b6.mono HB2.out.size)⟩
end Go.Proofs.Ytibjboacjobaoaa

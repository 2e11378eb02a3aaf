/- Whether there may be a command: the reference. -/
import Derived.Test.YtibjboacjobaoaaNkI
namespace Go.Proofs.Ytibjboacjobaoaa
open Go.RowKit
set_option maxRecDepth 100000 in
set_option maxHeartbeats 16000000 in
theorem rsound_2 (kd cl rq id cn tm off : Int) (a : Option Addr) (n ca : Nat) (b : Option Addr) (m cb : Nat) (tc : Int) (d : Option Addr) (l cd : Nat) (tr tb : Int) (F T G U B P : Nat → Int) (hk : kd = 2) (hc : ¬ 8 < cl) (w : World) (hS : Sps w a n F T) (hR : Sps w b m G U) (hD : Sps w d l B P) :
    Calls Try.prog 15 #[cmdV kd cl rq id cn tm off a n ca b m cb tc d l cd tr tb] w fun e w' => e = .returned (.bool (cmdEq kd kd cl cl rq rq id id 0 cn 0 tm off off F T F T n n G U G U m m 0 tc B P B P 0 l 0 tr 0 tb && decide (checkE off F T n G U m = 0))) ∧ Below w.heap.size w w' := by
  have HCK := Lib.hid (fun W (hb : Below w.heap.size w W) => rcheck10 off a n ca F T b m cb G U W (hS.kept hb) (hR.kept hb))
  unfold calV at HCK
  have HKP := Lib.hid (fun W => kept_2 kd cl rq id cn tm off a n ca b m cb tc d l cd tr tb hk W)
  have HSM := Lib.hid (fun W (hb : Below w.heap.size w W) => rcmd_same kd cl rq id 0 0 off a n ca b m cb 0 none 0 0 0 0 F T G U B P kd cl rq id cn tm off a n ca b m cb tc d l cd tr tb F T G U B P W (hS.kept hb) (hR.kept hb) ((sps_none W B P)) (hS.kept hb) (hR.kept hb) (hD.kept hb))
  obtain ⟨eq, heq⟩ : ∃ x, cmdEq kd kd cl cl rq rq id id 0 cn 0 tm off off F T F T n n G U G U m m 0 tc B P B P 0 l 0 tr 0 tb = x := ⟨_, rfl⟩
  rw [heq] at HSM ⊢
  clear heq
  obtain ⟨ce, hce⟩ : ∃ x, checkE off F T n G U m = x := ⟨_, rfl⟩
  rw [hce] at HCK ⊢
  clear hce
  clear hS hR hD
  have e3 : decide (8 < cl) = false := decide_eq_false hc
  subst hk
  unfold onlyV at HKP
  obtain ⟨B1, s0, sz⟩ := box1 w #[.int .i64 2, .int .u64 cl, .int .u64 rq, .int .u64 id, .int .i64 cn, .int .i64 tm, .int .i64 off, .slice a n ca, .slice b m cb, .int .i64 tc, .slice d l cd, .int .i64 tr, .int .i64 tb] 30
  have HB0 := Lib.hid B1
  have HT0 := Lib.hid s0
  clear B1 s0 sz
  unfold cmdV at *
  go_enter Try.func15, Try.ntmps15
  go_wp2_with fail
  generalize w.alloc (.cells #[.int .i64 2, .int .u64 cl, .int .u64 rq, .int .u64 id, .int .i64 cn, .int .i64 tm, .int .i64 off, .slice a n ca, .slice b m cb, .int .i64 tc, .slice d l cd, .int .i64 tr, .int .i64 tb] 30) = W0 at HB0 HT0 ⊢
  have h0' : W0.drew.cell? ⟨w.heap.size, 0, none⟩ = some (.int .i64 2) ∧ W0.drew.cell? ⟨w.heap.size, 1, none⟩ = some (.int .u64 cl) ∧ W0.drew.cell? ⟨w.heap.size, 2, none⟩ = some (.int .u64 rq) ∧ W0.drew.cell? ⟨w.heap.size, 3, none⟩ = some (.int .u64 id) ∧ W0.drew.cell? ⟨w.heap.size, 4, none⟩ = some (.int .i64 cn) ∧ W0.drew.cell? ⟨w.heap.size, 5, none⟩ = some (.int .i64 tm) ∧ W0.drew.cell? ⟨w.heap.size, 6, none⟩ = some (.int .i64 off) ∧ W0.drew.cell? ⟨w.heap.size, 7, none⟩ = some (.slice a n ca) ∧ W0.drew.cell? ⟨w.heap.size, 8, none⟩ = some (.slice b m cb) ∧ W0.drew.cell? ⟨w.heap.size, 9, none⟩ = some (.int .i64 tc) ∧ W0.drew.cell? ⟨w.heap.size, 10, none⟩ = some (.slice d l cd) ∧ W0.drew.cell? ⟨w.heap.size, 11, none⟩ = some (.int .i64 tr) ∧ W0.drew.cell? ⟨w.heap.size, 12, none⟩ = some (.int .i64 tb) := cmd_at HT0.out
  try simp only [if_true, if_false, ite_true, ite_false, Bool.false_eq_true, reduceIte] at HKP
  refine wp_region_held_drew (S := fun w1 => w1.cell? ⟨w.heap.size, 0, none⟩ = some (.int .i64 2) ∧ w1.cell? ⟨w.heap.size, 1, none⟩ = some (.int .u64 cl) ∧ w1.cell? ⟨w.heap.size, 2, none⟩ = some (.int .u64 rq) ∧ w1.cell? ⟨w.heap.size, 3, none⟩ = some (.int .u64 id) ∧ w1.cell? ⟨w.heap.size, 4, none⟩ = some (.int .i64 cn) ∧ w1.cell? ⟨w.heap.size, 5, none⟩ = some (.int .i64 tm) ∧ w1.cell? ⟨w.heap.size, 6, none⟩ = some (.int .i64 off) ∧ w1.cell? ⟨w.heap.size, 7, none⟩ = some (.slice a n ca) ∧ w1.cell? ⟨w.heap.size, 8, none⟩ = some (.slice b m cb) ∧ w1.cell? ⟨w.heap.size, 9, none⟩ = some (.int .i64 tc) ∧ w1.cell? ⟨w.heap.size, 10, none⟩ = some (.slice d l cd) ∧ w1.cell? ⟨w.heap.size, 11, none⟩ = some (.int .i64 tr) ∧ w1.cell? ⟨w.heap.size, 12, none⟩ = some (.int .i64 tb)) (by kernel_rfl) h0' (fun hHeld => ?_)
  refine wpAnyH_take (i := 0) (v := ?_) rfl (by kernel_rfl) (by kernel_rfl) (by kernel_rfl) (fun _ _ _ h => h) (Or.inl ⟨by rfl, ?_⟩) (by assumption) ?_
  case refine_2 => (intro w1 hS1; obtain ⟨a0, a1, a2, a3, a4, a5, a6, a7, a8, a9, a10, a11, a12⟩ := hS1; go_simp; try with_reducible rfl)
  try simp only [List.getElem_toArray, List.getElem_cons_zero, List.getElem_cons_succ, Act.put, List.setIfInBounds_toArray, List.set_cons_zero, List.set_cons_succ]
  refine wpAnyH_take (i := 1) (v := ?_) rfl (by kernel_rfl) (by kernel_rfl) (by kernel_rfl) (fun _ _ _ h => h) (Or.inl ⟨by rfl, ?_⟩) (by assumption) ?_
  case refine_2 => (intro w1 hS1; obtain ⟨a0, a1, a2, a3, a4, a5, a6, a7, a8, a9, a10, a11, a12⟩ := hS1; go_simp; try with_reducible rfl)
  try simp only [List.getElem_toArray, List.getElem_cons_zero, List.getElem_cons_succ, Act.put, List.setIfInBounds_toArray, List.set_cons_zero, List.set_cons_succ]
  refine wpAnyH_take (i := 2) (v := ?_) rfl (by kernel_rfl) (by kernel_rfl) (by kernel_rfl) (fun _ _ _ h => h) (Or.inl ⟨by rfl, ?_⟩) (by assumption) ?_
  case refine_2 => (intro w1 hS1; obtain ⟨a0, a1, a2, a3, a4, a5, a6, a7, a8, a9, a10, a11, a12⟩ := hS1; go_simp; try with_reducible rfl)
  try simp only [List.getElem_toArray, List.getElem_cons_zero, List.getElem_cons_succ, Act.put, List.setIfInBounds_toArray, List.set_cons_zero, List.set_cons_succ]
  refine wpAnyH_take (i := 3) (v := ?_) rfl (by kernel_rfl) (by kernel_rfl) (by kernel_rfl) (fun _ _ _ h => h) (Or.inl ⟨by rfl, ?_⟩) (by assumption) ?_
  case refine_2 => (intro w1 hS1; obtain ⟨a0, a1, a2, a3, a4, a5, a6, a7, a8, a9, a10, a11, a12⟩ := hS1; go_simp; try with_reducible rfl)
  try simp only [List.getElem_toArray, List.getElem_cons_zero, List.getElem_cons_succ, Act.put, List.setIfInBounds_toArray, List.set_cons_zero, List.set_cons_succ]
  refine wpAnyH_take (i := 4) (v := ?_) rfl (by kernel_rfl) (by kernel_rfl) (by kernel_rfl) (fun _ _ _ h => h) (Or.inl ⟨by rfl, ?_⟩) (by assumption) ?_
  case refine_2 => (intro w1 hS1; obtain ⟨a0, a1, a2, a3, a4, a5, a6, a7, a8, a9, a10, a11, a12⟩ := hS1; go_simp; try with_reducible rfl)
  try simp only [List.getElem_toArray, List.getElem_cons_zero, List.getElem_cons_succ, Act.put, List.setIfInBounds_toArray, List.set_cons_zero, List.set_cons_succ]
  refine wpAnyH_take (i := 5) (v := ?_) rfl (by kernel_rfl) (by kernel_rfl) (by kernel_rfl) (fun _ _ _ h => h) (Or.inl ⟨by rfl, ?_⟩) (by assumption) ?_
  case refine_2 => (intro w1 hS1; obtain ⟨a0, a1, a2, a3, a4, a5, a6, a7, a8, a9, a10, a11, a12⟩ := hS1; go_simp; try with_reducible rfl)
  try simp only [List.getElem_toArray, List.getElem_cons_zero, List.getElem_cons_succ, Act.put, List.setIfInBounds_toArray, List.set_cons_zero, List.set_cons_succ]
  refine wpAnyH_take (i := 6) (v := ?_) rfl (by kernel_rfl) (by kernel_rfl) (by kernel_rfl) (fun _ _ _ h => h) (Or.inl ⟨by rfl, ?_⟩) (by assumption) ?_
  case refine_2 => (intro w1 hS1; obtain ⟨a0, a1, a2, a3, a4, a5, a6, a7, a8, a9, a10, a11, a12⟩ := hS1; go_simp; try with_reducible rfl)
  try simp only [List.getElem_toArray, List.getElem_cons_zero, List.getElem_cons_succ, Act.put, List.setIfInBounds_toArray, List.set_cons_zero, List.set_cons_succ]
  refine wpAnyH_take (i := 7) (v := ?_) rfl (by kernel_rfl) (by kernel_rfl) (by kernel_rfl) (fun _ _ _ h => h) (Or.inl ⟨by rfl, ?_⟩) (by assumption) ?_
  case refine_2 => (intro w1 hS1; obtain ⟨a0, a1, a2, a3, a4, a5, a6, a7, a8, a9, a10, a11, a12⟩ := hS1; go_simp; try with_reducible rfl)
  try simp only [List.getElem_toArray, List.getElem_cons_zero, List.getElem_cons_succ, Act.put, List.setIfInBounds_toArray, List.set_cons_zero, List.set_cons_succ]
  refine wpAnyH_take (i := 8) (v := ?_) rfl (by kernel_rfl) (by kernel_rfl) (by kernel_rfl) (fun _ _ _ h => h) (Or.inl ⟨by rfl, ?_⟩) (by assumption) ?_
  case refine_2 => (intro w1 hS1; obtain ⟨a0, a1, a2, a3, a4, a5, a6, a7, a8, a9, a10, a11, a12⟩ := hS1; go_simp; try with_reducible rfl)
  try simp only [List.getElem_toArray, List.getElem_cons_zero, List.getElem_cons_succ, Act.put, List.setIfInBounds_toArray, List.set_cons_zero, List.set_cons_succ]
  refine wpAnyH_take (i := 9) (v := ?_) rfl (by kernel_rfl) (by kernel_rfl) (by kernel_rfl) (fun _ _ _ h => h) (Or.inl ⟨by rfl, ?_⟩) (by assumption) ?_
  case refine_2 => (intro w1 hS1; obtain ⟨a0, a1, a2, a3, a4, a5, a6, a7, a8, a9, a10, a11, a12⟩ := hS1; go_simp; try with_reducible rfl)
  try simp only [List.getElem_toArray, List.getElem_cons_zero, List.getElem_cons_succ, Act.put, List.setIfInBounds_toArray, List.set_cons_zero, List.set_cons_succ]
  refine wpAnyH_take (i := 10) (v := ?_) rfl (by kernel_rfl) (by kernel_rfl) (by kernel_rfl) (fun _ _ _ h => h) (Or.inl ⟨by rfl, ?_⟩) (by assumption) ?_
  case refine_2 => (intro w1 hS1; obtain ⟨a0, a1, a2, a3, a4, a5, a6, a7, a8, a9, a10, a11, a12⟩ := hS1; go_simp; try with_reducible rfl)
  try simp only [List.getElem_toArray, List.getElem_cons_zero, List.getElem_cons_succ, Act.put, List.setIfInBounds_toArray, List.set_cons_zero, List.set_cons_succ]
  refine wpAnyH_take (i := 11) (v := ?_) rfl (by kernel_rfl) (by kernel_rfl) (by kernel_rfl) (fun _ _ _ h => h) (Or.inl ⟨by rfl, ?_⟩) (by assumption) ?_
  case refine_2 => (intro w1 hS1; obtain ⟨a0, a1, a2, a3, a4, a5, a6, a7, a8, a9, a10, a11, a12⟩ := hS1; go_simp; try with_reducible rfl)
  try simp only [List.getElem_toArray, List.getElem_cons_zero, List.getElem_cons_succ, Act.put, List.setIfInBounds_toArray, List.set_cons_zero, List.set_cons_succ]
  refine wpAnyH_take (i := 12) (v := ?_) rfl (by kernel_rfl) (by kernel_rfl) (by kernel_rfl) (fun _ _ _ h => h) (Or.inl ⟨by rfl, ?_⟩) (by assumption) ?_
  case refine_2 => (intro w1 hS1; obtain ⟨a0, a1, a2, a3, a4, a5, a6, a7, a8, a9, a10, a11, a12⟩ := hS1; go_simp; try with_reducible rfl)
  try simp only [List.getElem_toArray, List.getElem_cons_zero, List.getElem_cons_succ, Act.put, List.setIfInBounds_toArray, List.set_cons_zero, List.set_cons_succ]
  refine wpAnyH_take (i := 13) (v := ?_) rfl (by kernel_rfl) (by kernel_rfl) (by kernel_rfl) (fun _ _ _ h => h) (Or.inl ⟨by rfl, ?_⟩) (by assumption) ?_
  case refine_2 => (intro w1 hS1; obtain ⟨a0, a1, a2, a3, a4, a5, a6, a7, a8, a9, a10, a11, a12⟩ := hS1; go_simp; try with_reducible rfl)
  try simp only [List.getElem_toArray, List.getElem_cons_zero, List.getElem_cons_succ, Act.put, List.setIfInBounds_toArray, List.set_cons_zero, List.set_cons_succ]
  refine wpAnyH_take (i := 14) (v := ?_) rfl (by kernel_rfl) (by kernel_rfl) (by kernel_rfl) (fun _ _ _ h => h) (Or.inl ⟨by rfl, ?_⟩) (by assumption) ?_
  case refine_2 => (intro w1 hS1; obtain ⟨a0, a1, a2, a3, a4, a5, a6, a7, a8, a9, a10, a11, a12⟩ := hS1; go_simp; try with_reducible rfl)
  try simp only [List.getElem_toArray, List.getElem_cons_zero, List.getElem_cons_succ, Act.put, List.setIfInBounds_toArray, List.set_cons_zero, List.set_cons_succ]
  refine wpAnyH_take (i := 16) (v := ?_) rfl (by kernel_rfl) (by kernel_rfl) (by kernel_rfl) (fun _ _ _ h => h) (Or.inl ⟨by rfl, ?_⟩) (by assumption) ?_
  case refine_2 => (intro w1 hS1; obtain ⟨a0, a1, a2, a3, a4, a5, a6, a7, a8, a9, a10, a11, a12⟩ := hS1; go_simp; try with_reducible rfl)
  try simp only [List.getElem_toArray, List.getElem_cons_zero, List.getElem_cons_succ, Act.put, List.setIfInBounds_toArray, List.set_cons_zero, List.set_cons_succ]
  refine wpAnyH_ready (rs := [15]) (by kernel_rfl) (by simp) ?_
  refine (AllReadyH.cons rfl (fun K hK => ?_) AllReadyH.nil)
  go_simp
  refine (HKP.out _).mono ?_
  rintro e W5 ⟨rfl, hb⟩
  have b5 : Below W0.heap.size W0 W5 := (Below.refl _ _).drew.trans hb
  clear hb
  refine hK.out _ _ (cmd_at (ex_below HT0.out b5)) (fun hHeld => ?_)
  clear hK K hHeld
  try simp only [List.getElem_toArray, List.getElem_cons_zero, List.getElem_cons_succ, Act.put, List.setIfInBounds_toArray, List.set_cons_zero, List.set_cons_succ]
  refine wpAnyH_ready (rs := [17]) (by kernel_rfl) (by simp) ?_
  refine (AllReadyH.cons rfl (fun K hK => ?_) AllReadyH.nil)
  go_simp
  refine (HSM.out _ (HB0.out.trans (b5.mono HB0.out.size))).mono ?_
  rintro e W6 ⟨rfl, hb⟩
  have b6 : Below W0.heap.size W0 W6 := b5.trans (hb.mono b5.size)
  clear hb
  refine hK.out _ _ (cmd_at (ex_below HT0.out b6)) (fun hHeld => ?_)
  clear hK K hHeld
  try simp only [List.getElem_toArray, List.getElem_cons_zero, List.getElem_cons_succ, Act.put, List.setIfInBounds_toArray, List.set_cons_zero, List.set_cons_succ]
  refine wpAnyH_take (i := 18) (v := ?_) rfl (by kernel_rfl) (by kernel_rfl) (by kernel_rfl) (fun _ _ _ h => h) (Or.inl ⟨by rfl, ?_⟩) (cmd_at (ex_below HT0.out b6)) ?_
  case refine_2 => (intro w1 hS1; obtain ⟨a0, a1, a2, a3, a4, a5, a6, a7, a8, a9, a10, a11, a12⟩ := hS1; go_simp; try with_reducible rfl)
  try simp only [List.getElem_toArray, List.getElem_cons_zero, List.getElem_cons_succ, Act.put, List.setIfInBounds_toArray, List.set_cons_zero, List.set_cons_succ]
  refine wpAnyH_take (i := 19) (v := ?_) rfl (by kernel_rfl) (by kernel_rfl) (by kernel_rfl) (fun _ _ _ h => h) (Or.inl ⟨by rfl, ?_⟩) (cmd_at (ex_below HT0.out b6)) ?_
  case refine_2 => (intro w1 hS1; obtain ⟨a0, a1, a2, a3, a4, a5, a6, a7, a8, a9, a10, a11, a12⟩ := hS1; go_simp; try with_reducible rfl)
  try simp only [List.getElem_toArray, List.getElem_cons_zero, List.getElem_cons_succ, Act.put, List.setIfInBounds_toArray, List.set_cons_zero, List.set_cons_succ]
  refine wpAnyH_done (by kernel_rfl) ?_ _
  have HB6 := Lib.hid (HB0.out.trans (b6.mono HB0.out.size))
  have HT6 := Lib.hid (ex_below HT0.out b6)
  clear b5 b6 HT0 HB0 HSM HKP h0'
  obtain ⟨q0, q1, q2, q3, q4, q5, q6, q7, q8, q9, q10, q11, q12⟩ := cmd_at HT6.out
  cases eq
  · go_wp2_with fail
    go_ret
    exact ⟨rfl, HB6.out⟩
  go_wp2_with fail
  refine (HCK.out _ HB6.out).mono ?_
  rintro e W7 ⟨rfl, hb⟩
  have HB7 := Lib.hid (HB6.out.trans (hb.mono HB6.out.size))
  clear hb
  go_wp2_with fail
  go_ret
  exact ⟨by simp <;> rfl, HB7.out⟩
set_option maxRecDepth 100000 in
set_option maxHeartbeats 16000000 in
theorem rsound_3 (kd cl rq id cn tm off : Int) (a : Option Addr) (n ca : Nat) (b : Option Addr) (m cb : Nat) (tc : Int) (d : Option Addr) (l cd : Nat) (tr tb : Int) (F T G U B P : Nat → Int) (hk : kd = 3) (hc : ¬ 8 < cl) (w : World) (hS : Sps w a n F T) (hR : Sps w b m G U) (hD : Sps w d l B P) :
    Calls Try.prog 15 #[cmdV kd cl rq id cn tm off a n ca b m cb tc d l cd tr tb] w fun e w' => e = .returned (.bool (cmdEq kd kd cl cl rq rq id id 0 cn 0 tm 0 off F T F T 0 n G U G U 0 m tc tc B P B P l l tr tr tb tb && goodC tc l tr tb B P)) ∧ Below w.heap.size w w' := by
  have HCK := Lib.hid (fun W (hb : Below w.heap.size w W) => rgood_any tc d l cd tr tb B P W (hD.kept hb))
  unfold conV at HCK
  have HKP := Lib.hid (fun W => kept_3 kd cl rq id cn tm off a n ca b m cb tc d l cd tr tb hk W)
  have HSM := Lib.hid (fun W (hb : Below w.heap.size w W) => rcmd_same kd cl rq id 0 0 0 none 0 0 none 0 0 tc d l cd tr tb F T G U B P kd cl rq id cn tm off a n ca b m cb tc d l cd tr tb F T G U B P W ((sps_none W F T)) ((sps_none W G U)) (hD.kept hb) (hS.kept hb) (hR.kept hb) (hD.kept hb))
  obtain ⟨eq, heq⟩ : ∃ x, cmdEq kd kd cl cl rq rq id id 0 cn 0 tm 0 off F T F T 0 n G U G U 0 m tc tc B P B P l l tr tr tb tb = x := ⟨_, rfl⟩
  rw [heq] at HSM ⊢
  clear heq
  obtain ⟨ce, hce⟩ : ∃ x, goodC tc l tr tb B P = x := ⟨_, rfl⟩
  rw [hce] at HCK ⊢
  clear hce
  clear hS hR hD
  have e3 : decide (8 < cl) = false := decide_eq_false hc
  subst hk
  unfold onlyV at HKP
  obtain ⟨B1, s0, sz⟩ := box1 w #[.int .i64 3, .int .u64 cl, .int .u64 rq, .int .u64 id, .int .i64 cn, .int .i64 tm, .int .i64 off, .slice a n ca, .slice b m cb, .int .i64 tc, .slice d l cd, .int .i64 tr, .int .i64 tb] 30
  have HB0 := Lib.hid B1
  have HT0 := Lib.hid s0
  clear B1 s0 sz
  unfold cmdV at *
  go_enter Try.func15, Try.ntmps15
  go_wp2_with fail
  generalize w.alloc (.cells #[.int .i64 3, .int .u64 cl, .int .u64 rq, .int .u64 id, .int .i64 cn, .int .i64 tm, .int .i64 off, .slice a n ca, .slice b m cb, .int .i64 tc, .slice d l cd, .int .i64 tr, .int .i64 tb] 30) = W0 at HB0 HT0 ⊢
  have h0' : W0.drew.cell? ⟨w.heap.size, 0, none⟩ = some (.int .i64 3) ∧ W0.drew.cell? ⟨w.heap.size, 1, none⟩ = some (.int .u64 cl) ∧ W0.drew.cell? ⟨w.heap.size, 2, none⟩ = some (.int .u64 rq) ∧ W0.drew.cell? ⟨w.heap.size, 3, none⟩ = some (.int .u64 id) ∧ W0.drew.cell? ⟨w.heap.size, 4, none⟩ = some (.int .i64 cn) ∧ W0.drew.cell? ⟨w.heap.size, 5, none⟩ = some (.int .i64 tm) ∧ W0.drew.cell? ⟨w.heap.size, 6, none⟩ = some (.int .i64 off) ∧ W0.drew.cell? ⟨w.heap.size, 7, none⟩ = some (.slice a n ca) ∧ W0.drew.cell? ⟨w.heap.size, 8, none⟩ = some (.slice b m cb) ∧ W0.drew.cell? ⟨w.heap.size, 9, none⟩ = some (.int .i64 tc) ∧ W0.drew.cell? ⟨w.heap.size, 10, none⟩ = some (.slice d l cd) ∧ W0.drew.cell? ⟨w.heap.size, 11, none⟩ = some (.int .i64 tr) ∧ W0.drew.cell? ⟨w.heap.size, 12, none⟩ = some (.int .i64 tb) := cmd_at HT0.out
  try simp only [if_true, if_false, ite_true, ite_false, Bool.false_eq_true, reduceIte] at HKP
  refine wp_region_held_drew (S := fun w1 => w1.cell? ⟨w.heap.size, 0, none⟩ = some (.int .i64 3) ∧ w1.cell? ⟨w.heap.size, 1, none⟩ = some (.int .u64 cl) ∧ w1.cell? ⟨w.heap.size, 2, none⟩ = some (.int .u64 rq) ∧ w1.cell? ⟨w.heap.size, 3, none⟩ = some (.int .u64 id) ∧ w1.cell? ⟨w.heap.size, 4, none⟩ = some (.int .i64 cn) ∧ w1.cell? ⟨w.heap.size, 5, none⟩ = some (.int .i64 tm) ∧ w1.cell? ⟨w.heap.size, 6, none⟩ = some (.int .i64 off) ∧ w1.cell? ⟨w.heap.size, 7, none⟩ = some (.slice a n ca) ∧ w1.cell? ⟨w.heap.size, 8, none⟩ = some (.slice b m cb) ∧ w1.cell? ⟨w.heap.size, 9, none⟩ = some (.int .i64 tc) ∧ w1.cell? ⟨w.heap.size, 10, none⟩ = some (.slice d l cd) ∧ w1.cell? ⟨w.heap.size, 11, none⟩ = some (.int .i64 tr) ∧ w1.cell? ⟨w.heap.size, 12, none⟩ = some (.int .i64 tb)) (by kernel_rfl) h0' (fun hHeld => ?_)
  refine wpAnyH_take (i := 0) (v := ?_) rfl (by kernel_rfl) (by kernel_rfl) (by kernel_rfl) (fun _ _ _ h => h) (Or.inl ⟨by rfl, ?_⟩) (by assumption) ?_
  case refine_2 => (intro w1 hS1; obtain ⟨a0, a1, a2, a3, a4, a5, a6, a7, a8, a9, a10, a11, a12⟩ := hS1; go_simp; try with_reducible rfl)
  try simp only [List.getElem_toArray, List.getElem_cons_zero, List.getElem_cons_succ, Act.put, List.setIfInBounds_toArray, List.set_cons_zero, List.set_cons_succ]
  refine wpAnyH_take (i := 1) (v := ?_) rfl (by kernel_rfl) (by kernel_rfl) (by kernel_rfl) (fun _ _ _ h => h) (Or.inl ⟨by rfl, ?_⟩) (by assumption) ?_
  case refine_2 => (intro w1 hS1; obtain ⟨a0, a1, a2, a3, a4, a5, a6, a7, a8, a9, a10, a11, a12⟩ := hS1; go_simp; try with_reducible rfl)
  try simp only [List.getElem_toArray, List.getElem_cons_zero, List.getElem_cons_succ, Act.put, List.setIfInBounds_toArray, List.set_cons_zero, List.set_cons_succ]
  refine wpAnyH_take (i := 2) (v := ?_) rfl (by kernel_rfl) (by kernel_rfl) (by kernel_rfl) (fun _ _ _ h => h) (Or.inl ⟨by rfl, ?_⟩) (by assumption) ?_
  case refine_2 => (intro w1 hS1; obtain ⟨a0, a1, a2, a3, a4, a5, a6, a7, a8, a9, a10, a11, a12⟩ := hS1; go_simp; try with_reducible rfl)
  try simp only [List.getElem_toArray, List.getElem_cons_zero, List.getElem_cons_succ, Act.put, List.setIfInBounds_toArray, List.set_cons_zero, List.set_cons_succ]
  refine wpAnyH_take (i := 3) (v := ?_) rfl (by kernel_rfl) (by kernel_rfl) (by kernel_rfl) (fun _ _ _ h => h) (Or.inl ⟨by rfl, ?_⟩) (by assumption) ?_
  case refine_2 => (intro w1 hS1; obtain ⟨a0, a1, a2, a3, a4, a5, a6, a7, a8, a9, a10, a11, a12⟩ := hS1; go_simp; try with_reducible rfl)
  try simp only [List.getElem_toArray, List.getElem_cons_zero, List.getElem_cons_succ, Act.put, List.setIfInBounds_toArray, List.set_cons_zero, List.set_cons_succ]
  refine wpAnyH_take (i := 4) (v := ?_) rfl (by kernel_rfl) (by kernel_rfl) (by kernel_rfl) (fun _ _ _ h => h) (Or.inl ⟨by rfl, ?_⟩) (by assumption) ?_
  case refine_2 => (intro w1 hS1; obtain ⟨a0, a1, a2, a3, a4, a5, a6, a7, a8, a9, a10, a11, a12⟩ := hS1; go_simp; try with_reducible rfl)
  try simp only [List.getElem_toArray, List.getElem_cons_zero, List.getElem_cons_succ, Act.put, List.setIfInBounds_toArray, List.set_cons_zero, List.set_cons_succ]
  refine wpAnyH_take (i := 5) (v := ?_) rfl (by kernel_rfl) (by kernel_rfl) (by kernel_rfl) (fun _ _ _ h => h) (Or.inl ⟨by rfl, ?_⟩) (by assumption) ?_
  case refine_2 => (intro w1 hS1; obtain ⟨a0, a1, a2, a3, a4, a5, a6, a7, a8, a9, a10, a11, a12⟩ := hS1; go_simp; try with_reducible rfl)
  try simp only [List.getElem_toArray, List.getElem_cons_zero, List.getElem_cons_succ, Act.put, List.setIfInBounds_toArray, List.set_cons_zero, List.set_cons_succ]
  refine wpAnyH_take (i := 6) (v := ?_) rfl (by kernel_rfl) (by kernel_rfl) (by kernel_rfl) (fun _ _ _ h => h) (Or.inl ⟨by rfl, ?_⟩) (by assumption) ?_
  case refine_2 => (intro w1 hS1; obtain ⟨a0, a1, a2, a3, a4, a5, a6, a7, a8, a9, a10, a11, a12⟩ := hS1; go_simp; try with_reducible rfl)
  try simp only [List.getElem_toArray, List.getElem_cons_zero, List.getElem_cons_succ, Act.put, List.setIfInBounds_toArray, List.set_cons_zero, List.set_cons_succ]
  refine wpAnyH_take (i := 7) (v := ?_) rfl (by kernel_rfl) (by kernel_rfl) (by kernel_rfl) (fun _ _ _ h => h) (Or.inl ⟨by rfl, ?_⟩) (by assumption) ?_
  case refine_2 => (intro w1 hS1; obtain ⟨a0, a1, a2, a3, a4, a5, a6, a7, a8, a9, a10, a11, a12⟩ := hS1; go_simp; try with_reducible rfl)
  try simp only [List.getElem_toArray, List.getElem_cons_zero, List.getElem_cons_succ, Act.put, List.setIfInBounds_toArray, List.set_cons_zero, List.set_cons_succ]
  refine wpAnyH_take (i := 8) (v := ?_) rfl (by kernel_rfl) (by kernel_rfl) (by kernel_rfl) (fun _ _ _ h => h) (Or.inl ⟨by rfl, ?_⟩) (by assumption) ?_
  case refine_2 => (intro w1 hS1; obtain ⟨a0, a1, a2, a3, a4, a5, a6, a7, a8, a9, a10, a11, a12⟩ := hS1; go_simp; try with_reducible rfl)
  try simp only [List.getElem_toArray, List.getElem_cons_zero, List.getElem_cons_succ, Act.put, List.setIfInBounds_toArray, List.set_cons_zero, List.set_cons_succ]
  refine wpAnyH_take (i := 9) (v := ?_) rfl (by kernel_rfl) (by kernel_rfl) (by kernel_rfl) (fun _ _ _ h => h) (Or.inl ⟨by rfl, ?_⟩) (by assumption) ?_
  case refine_2 => (intro w1 hS1; obtain ⟨a0, a1, a2, a3, a4, a5, a6, a7, a8, a9, a10, a11, a12⟩ := hS1; go_simp; try with_reducible rfl)
  try simp only [List.getElem_toArray, List.getElem_cons_zero, List.getElem_cons_succ, Act.put, List.setIfInBounds_toArray, List.set_cons_zero, List.set_cons_succ]
  refine wpAnyH_take (i := 10) (v := ?_) rfl (by kernel_rfl) (by kernel_rfl) (by kernel_rfl) (fun _ _ _ h => h) (Or.inl ⟨by rfl, ?_⟩) (by assumption) ?_
  case refine_2 => (intro w1 hS1; obtain ⟨a0, a1, a2, a3, a4, a5, a6, a7, a8, a9, a10, a11, a12⟩ := hS1; go_simp; try with_reducible rfl)
  try simp only [List.getElem_toArray, List.getElem_cons_zero, List.getElem_cons_succ, Act.put, List.setIfInBounds_toArray, List.set_cons_zero, List.set_cons_succ]
  refine wpAnyH_take (i := 11) (v := ?_) rfl (by kernel_rfl) (by kernel_rfl) (by kernel_rfl) (fun _ _ _ h => h) (Or.inl ⟨by rfl, ?_⟩) (by assumption) ?_
  case refine_2 => (intro w1 hS1; obtain ⟨a0, a1, a2, a3, a4, a5, a6, a7, a8, a9, a10, a11, a12⟩ := hS1; go_simp; try with_reducible rfl)
  try simp only [List.getElem_toArray, List.getElem_cons_zero, List.getElem_cons_succ, Act.put, List.setIfInBounds_toArray, List.set_cons_zero, List.set_cons_succ]
  refine wpAnyH_take (i := 12) (v := ?_) rfl (by kernel_rfl) (by kernel_rfl) (by kernel_rfl) (fun _ _ _ h => h) (Or.inl ⟨by rfl, ?_⟩) (by assumption) ?_
  case refine_2 => (intro w1 hS1; obtain ⟨a0, a1, a2, a3, a4, a5, a6, a7, a8, a9, a10, a11, a12⟩ := hS1; go_simp; try with_reducible rfl)
  try simp only [List.getElem_toArray, List.getElem_cons_zero, List.getElem_cons_succ, Act.put, List.setIfInBounds_toArray, List.set_cons_zero, List.set_cons_succ]
  refine wpAnyH_take (i := 13) (v := ?_) rfl (by kernel_rfl) (by kernel_rfl) (by kernel_rfl) (fun _ _ _ h => h) (Or.inl ⟨by rfl, ?_⟩) (by assumption) ?_
  case refine_2 => (intro w1 hS1; obtain ⟨a0, a1, a2, a3, a4, a5, a6, a7, a8, a9, a10, a11, a12⟩ := hS1; go_simp; try with_reducible rfl)
  try simp only [List.getElem_toArray, List.getElem_cons_zero, List.getElem_cons_succ, Act.put, List.setIfInBounds_toArray, List.set_cons_zero, List.set_cons_succ]
  refine wpAnyH_take (i := 14) (v := ?_) rfl (by kernel_rfl) (by kernel_rfl) (by kernel_rfl) (fun _ _ _ h => h) (Or.inl ⟨by rfl, ?_⟩) (by assumption) ?_
  case refine_2 => (intro w1 hS1; obtain ⟨a0, a1, a2, a3, a4, a5, a6, a7, a8, a9, a10, a11, a12⟩ := hS1; go_simp; try with_reducible rfl)
  try simp only [List.getElem_toArray, List.getElem_cons_zero, List.getElem_cons_succ, Act.put, List.setIfInBounds_toArray, List.set_cons_zero, List.set_cons_succ]
  refine wpAnyH_take (i := 16) (v := ?_) rfl (by kernel_rfl) (by kernel_rfl) (by kernel_rfl) (fun _ _ _ h => h) (Or.inl ⟨by rfl, ?_⟩) (by assumption) ?_
  case refine_2 => (intro w1 hS1; obtain ⟨a0, a1, a2, a3, a4, a5, a6, a7, a8, a9, a10, a11, a12⟩ := hS1; go_simp; try with_reducible rfl)
  try simp only [List.getElem_toArray, List.getElem_cons_zero, List.getElem_cons_succ, Act.put, List.setIfInBounds_toArray, List.set_cons_zero, List.set_cons_succ]
  refine wpAnyH_ready (rs := [15]) (by kernel_rfl) (by simp) ?_
  refine (AllReadyH.cons rfl (fun K hK => ?_) AllReadyH.nil)
  go_simp
  refine (HKP.out _).mono ?_
  rintro e W5 ⟨rfl, hb⟩
  have b5 : Below W0.heap.size W0 W5 := (Below.refl _ _).drew.trans hb
  clear hb
  refine hK.out _ _ (cmd_at (ex_below HT0.out b5)) (fun hHeld => ?_)
  clear hK K hHeld
  try simp only [List.getElem_toArray, List.getElem_cons_zero, List.getElem_cons_succ, Act.put, List.setIfInBounds_toArray, List.set_cons_zero, List.set_cons_succ]
  refine wpAnyH_ready (rs := [17]) (by kernel_rfl) (by simp) ?_
  refine (AllReadyH.cons rfl (fun K hK => ?_) AllReadyH.nil)
  go_simp
  refine (HSM.out _ (HB0.out.trans (b5.mono HB0.out.size))).mono ?_
  rintro e W6 ⟨rfl, hb⟩
  have b6 : Below W0.heap.size W0 W6 := b5.trans (hb.mono b5.size)
  clear hb
  refine hK.out _ _ (cmd_at (ex_below HT0.out b6)) (fun hHeld => ?_)
  clear hK K hHeld
  try simp only [List.getElem_toArray, List.getElem_cons_zero, List.getElem_cons_succ, Act.put, List.setIfInBounds_toArray, List.set_cons_zero, List.set_cons_succ]
  refine wpAnyH_take (i := 18) (v := ?_) rfl (by kernel_rfl) (by kernel_rfl) (by kernel_rfl) (fun _ _ _ h => h) (Or.inl ⟨by rfl, ?_⟩) (cmd_at (ex_below HT0.out b6)) ?_
  case refine_2 => (intro w1 hS1; obtain ⟨a0, a1, a2, a3, a4, a5, a6, a7, a8, a9, a10, a11, a12⟩ := hS1; go_simp; try with_reducible rfl)
  try simp only [List.getElem_toArray, List.getElem_cons_zero, List.getElem_cons_succ, Act.put, List.setIfInBounds_toArray, List.set_cons_zero, List.set_cons_succ]
  refine wpAnyH_take (i := 19) (v := ?_) rfl (by kernel_rfl) (by kernel_rfl) (by kernel_rfl) (fun _ _ _ h => h) (Or.inl ⟨by rfl, ?_⟩) (cmd_at (ex_below HT0.out b6)) ?_
  case refine_2 => (intro w1 hS1; obtain ⟨a0, a1, a2, a3, a4, a5, a6, a7, a8, a9, a10, a11, a12⟩ := hS1; go_simp; try with_reducible rfl)
  try simp only [List.getElem_toArray, List.getElem_cons_zero, List.getElem_cons_succ, Act.put, List.setIfInBounds_toArray, List.set_cons_zero, List.set_cons_succ]
  refine wpAnyH_done (by kernel_rfl) ?_ _
  have HB6 := Lib.hid (HB0.out.trans (b6.mono HB0.out.size))
  have HT6 := Lib.hid (ex_below HT0.out b6)
  clear b5 b6 HT0 HB0 HSM HKP h0'
  obtain ⟨q0, q1, q2, q3, q4, q5, q6, q7, q8, q9, q10, q11, q12⟩ := cmd_at HT6.out
  cases eq
  · go_wp2_with fail
    go_ret
    exact ⟨rfl, HB6.out⟩
  go_wp2_with fail
  refine (HCK.out _ HB6.out).mono ?_
  rintro e W7 ⟨rfl, hb⟩
  have HB7 := Lib.hid (HB6.out.trans (hb.mono HB6.out.size))
  clear hb
  go_wp2_with fail
  go_ret
  exact ⟨by simp <;> rfl, HB7.out⟩
set_option maxRecDepth 100000 in
set_option maxHeartbeats 16000000 in
theorem rsound_4 (kd cl rq id cn tm off : Int) (a : Option Addr) (n ca : Nat) (b : Option Addr) (m cb : Nat) (tc : Int) (d : Option Addr) (l cd : Nat) (tr tb : Int) (F T G U B P : Nat → Int) (hk : kd = 4) (hc : ¬ 8 < cl) (w : World) (hS : Sps w a n F T) (hR : Sps w b m G U) (hD : Sps w d l B P) :
    Calls Try.prog 15 #[cmdV kd cl rq id cn tm off a n ca b m cb tc d l cd tr tb] w fun e w' => e = .returned (.bool (cmdEq kd kd cl cl rq rq id id cn cn 0 tm 0 off F T F T 0 n G U G U 0 m 0 tc B P B P 0 l 0 tr 0 tb && (decide (0 ≤ cn) && decide (cn ≤ 15)))) ∧ Below w.heap.size w w' := by
  have HKP := Lib.hid (fun W => kept_4 kd cl rq id cn tm off a n ca b m cb tc d l cd tr tb hk W)
  have HSM := Lib.hid (fun W (hb : Below w.heap.size w W) => rcmd_same kd cl rq id cn 0 0 none 0 0 none 0 0 0 none 0 0 0 0 F T G U B P kd cl rq id cn tm off a n ca b m cb tc d l cd tr tb F T G U B P W ((sps_none W F T)) ((sps_none W G U)) ((sps_none W B P)) (hS.kept hb) (hR.kept hb) (hD.kept hb))
  obtain ⟨eq, heq⟩ : ∃ x, cmdEq kd kd cl cl rq rq id id cn cn 0 tm 0 off F T F T 0 n G U G U 0 m 0 tc B P B P 0 l 0 tr 0 tb = x := ⟨_, rfl⟩
  rw [heq] at HSM ⊢
  clear heq
  clear hS hR hD
  have e3 : decide (8 < cl) = false := decide_eq_false hc
  subst hk
  unfold onlyV at HKP
  obtain ⟨B1, s0, sz⟩ := box1 w #[.int .i64 4, .int .u64 cl, .int .u64 rq, .int .u64 id, .int .i64 cn, .int .i64 tm, .int .i64 off, .slice a n ca, .slice b m cb, .int .i64 tc, .slice d l cd, .int .i64 tr, .int .i64 tb] 30
  have HB0 := Lib.hid B1
  have HT0 := Lib.hid s0
  clear B1 s0 sz
  unfold cmdV at *
  go_enter Try.func15, Try.ntmps15
  go_wp2_with fail
  generalize w.alloc (.cells #[.int .i64 4, .int .u64 cl, .int .u64 rq, .int .u64 id, .int .i64 cn, .int .i64 tm, .int .i64 off, .slice a n ca, .slice b m cb, .int .i64 tc, .slice d l cd, .int .i64 tr, .int .i64 tb] 30) = W0 at HB0 HT0 ⊢
  have h0' : W0.drew.cell? ⟨w.heap.size, 0, none⟩ = some (.int .i64 4) ∧ W0.drew.cell? ⟨w.heap.size, 1, none⟩ = some (.int .u64 cl) ∧ W0.drew.cell? ⟨w.heap.size, 2, none⟩ = some (.int .u64 rq) ∧ W0.drew.cell? ⟨w.heap.size, 3, none⟩ = some (.int .u64 id) ∧ W0.drew.cell? ⟨w.heap.size, 4, none⟩ = some (.int .i64 cn) ∧ W0.drew.cell? ⟨w.heap.size, 5, none⟩ = some (.int .i64 tm) ∧ W0.drew.cell? ⟨w.heap.size, 6, none⟩ = some (.int .i64 off) ∧ W0.drew.cell? ⟨w.heap.size, 7, none⟩ = some (.slice a n ca) ∧ W0.drew.cell? ⟨w.heap.size, 8, none⟩ = some (.slice b m cb) ∧ W0.drew.cell? ⟨w.heap.size, 9, none⟩ = some (.int .i64 tc) ∧ W0.drew.cell? ⟨w.heap.size, 10, none⟩ = some (.slice d l cd) ∧ W0.drew.cell? ⟨w.heap.size, 11, none⟩ = some (.int .i64 tr) ∧ W0.drew.cell? ⟨w.heap.size, 12, none⟩ = some (.int .i64 tb) := cmd_at HT0.out
  try simp only [if_true, if_false, ite_true, ite_false, Bool.false_eq_true, reduceIte] at HKP
  refine wp_region_held_drew (S := fun w1 => w1.cell? ⟨w.heap.size, 0, none⟩ = some (.int .i64 4) ∧ w1.cell? ⟨w.heap.size, 1, none⟩ = some (.int .u64 cl) ∧ w1.cell? ⟨w.heap.size, 2, none⟩ = some (.int .u64 rq) ∧ w1.cell? ⟨w.heap.size, 3, none⟩ = some (.int .u64 id) ∧ w1.cell? ⟨w.heap.size, 4, none⟩ = some (.int .i64 cn) ∧ w1.cell? ⟨w.heap.size, 5, none⟩ = some (.int .i64 tm) ∧ w1.cell? ⟨w.heap.size, 6, none⟩ = some (.int .i64 off) ∧ w1.cell? ⟨w.heap.size, 7, none⟩ = some (.slice a n ca) ∧ w1.cell? ⟨w.heap.size, 8, none⟩ = some (.slice b m cb) ∧ w1.cell? ⟨w.heap.size, 9, none⟩ = some (.int .i64 tc) ∧ w1.cell? ⟨w.heap.size, 10, none⟩ = some (.slice d l cd) ∧ w1.cell? ⟨w.heap.size, 11, none⟩ = some (.int .i64 tr) ∧ w1.cell? ⟨w.heap.size, 12, none⟩ = some (.int .i64 tb)) (by kernel_rfl) h0' (fun hHeld => ?_)
  refine wpAnyH_take (i := 0) (v := ?_) rfl (by kernel_rfl) (by kernel_rfl) (by kernel_rfl) (fun _ _ _ h => h) (Or.inl ⟨by rfl, ?_⟩) (by assumption) ?_
  case refine_2 => (intro w1 hS1; obtain ⟨a0, a1, a2, a3, a4, a5, a6, a7, a8, a9, a10, a11, a12⟩ := hS1; go_simp; try with_reducible rfl)
  try simp only [List.getElem_toArray, List.getElem_cons_zero, List.getElem_cons_succ, Act.put, List.setIfInBounds_toArray, List.set_cons_zero, List.set_cons_succ]
  refine wpAnyH_take (i := 1) (v := ?_) rfl (by kernel_rfl) (by kernel_rfl) (by kernel_rfl) (fun _ _ _ h => h) (Or.inl ⟨by rfl, ?_⟩) (by assumption) ?_
  case refine_2 => (intro w1 hS1; obtain ⟨a0, a1, a2, a3, a4, a5, a6, a7, a8, a9, a10, a11, a12⟩ := hS1; go_simp; try with_reducible rfl)
  try simp only [List.getElem_toArray, List.getElem_cons_zero, List.getElem_cons_succ, Act.put, List.setIfInBounds_toArray, List.set_cons_zero, List.set_cons_succ]
  refine wpAnyH_take (i := 2) (v := ?_) rfl (by kernel_rfl) (by kernel_rfl) (by kernel_rfl) (fun _ _ _ h => h) (Or.inl ⟨by rfl, ?_⟩) (by assumption) ?_
  case refine_2 => (intro w1 hS1; obtain ⟨a0, a1, a2, a3, a4, a5, a6, a7, a8, a9, a10, a11, a12⟩ := hS1; go_simp; try with_reducible rfl)
  try simp only [List.getElem_toArray, List.getElem_cons_zero, List.getElem_cons_succ, Act.put, List.setIfInBounds_toArray, List.set_cons_zero, List.set_cons_succ]
  refine wpAnyH_take (i := 3) (v := ?_) rfl (by kernel_rfl) (by kernel_rfl) (by kernel_rfl) (fun _ _ _ h => h) (Or.inl ⟨by rfl, ?_⟩) (by assumption) ?_
  case refine_2 => (intro w1 hS1; obtain ⟨a0, a1, a2, a3, a4, a5, a6, a7, a8, a9, a10, a11, a12⟩ := hS1; go_simp; try with_reducible rfl)
  try simp only [List.getElem_toArray, List.getElem_cons_zero, List.getElem_cons_succ, Act.put, List.setIfInBounds_toArray, List.set_cons_zero, List.set_cons_succ]
  refine wpAnyH_take (i := 4) (v := ?_) rfl (by kernel_rfl) (by kernel_rfl) (by kernel_rfl) (fun _ _ _ h => h) (Or.inl ⟨by rfl, ?_⟩) (by assumption) ?_
  case refine_2 => (intro w1 hS1; obtain ⟨a0, a1, a2, a3, a4, a5, a6, a7, a8, a9, a10, a11, a12⟩ := hS1; go_simp; try with_reducible rfl)
  try simp only [List.getElem_toArray, List.getElem_cons_zero, List.getElem_cons_succ, Act.put, List.setIfInBounds_toArray, List.set_cons_zero, List.set_cons_succ]
  refine wpAnyH_take (i := 5) (v := ?_) rfl (by kernel_rfl) (by kernel_rfl) (by kernel_rfl) (fun _ _ _ h => h) (Or.inl ⟨by rfl, ?_⟩) (by assumption) ?_
  case refine_2 => (intro w1 hS1; obtain ⟨a0, a1, a2, a3, a4, a5, a6, a7, a8, a9, a10, a11, a12⟩ := hS1; go_simp; try with_reducible rfl)
  try simp only [List.getElem_toArray, List.getElem_cons_zero, List.getElem_cons_succ, Act.put, List.setIfInBounds_toArray, List.set_cons_zero, List.set_cons_succ]
  refine wpAnyH_take (i := 6) (v := ?_) rfl (by kernel_rfl) (by kernel_rfl) (by kernel_rfl) (fun _ _ _ h => h) (Or.inl ⟨by rfl, ?_⟩) (by assumption) ?_
  case refine_2 => (intro w1 hS1; obtain ⟨a0, a1, a2, a3, a4, a5, a6, a7, a8, a9, a10, a11, a12⟩ := hS1; go_simp; try with_reducible rfl)
  try simp only [List.getElem_toArray, List.getElem_cons_zero, List.getElem_cons_succ, Act.put, List.setIfInBounds_toArray, List.set_cons_zero, List.set_cons_succ]
  refine wpAnyH_take (i := 7) (v := ?_) rfl (by kernel_rfl) (by kernel_rfl) (by kernel_rfl) (fun _ _ _ h => h) (Or.inl ⟨by rfl, ?_⟩) (by assumption) ?_
  case refine_2 => (intro w1 hS1; obtain ⟨a0, a1, a2, a3, a4, a5, a6, a7, a8, a9, a10, a11, a12⟩ := hS1; go_simp; try with_reducible rfl)
  try simp only [List.getElem_toArray, List.getElem_cons_zero, List.getElem_cons_succ, Act.put, List.setIfInBounds_toArray, List.set_cons_zero, List.set_cons_succ]
  refine wpAnyH_take (i := 8) (v := ?_) rfl (by kernel_rfl) (by kernel_rfl) (by kernel_rfl) (fun _ _ _ h => h) (Or.inl ⟨by rfl, ?_⟩) (by assumption) ?_
  case refine_2 => (intro w1 hS1; obtain ⟨a0, a1, a2, a3, a4, a5, a6, a7, a8, a9, a10, a11, a12⟩ := hS1; go_simp; try with_reducible rfl)
  try simp only [List.getElem_toArray, List.getElem_cons_zero, List.getElem_cons_succ, Act.put, List.setIfInBounds_toArray, List.set_cons_zero, List.set_cons_succ]
  refine wpAnyH_take (i := 9) (v := ?_) rfl (by kernel_rfl) (by kernel_rfl) (by kernel_rfl) (fun _ _ _ h => h) (Or.inl ⟨by rfl, ?_⟩) (by assumption) ?_
  case refine_2 => (intro w1 hS1; obtain ⟨a0, a1, a2, a3, a4, a5, a6, a7, a8, a9, a10, a11, a12⟩ := hS1; go_simp; try with_reducible rfl)
  try simp only [List.getElem_toArray, List.getElem_cons_zero, List.getElem_cons_succ, Act.put, List.setIfInBounds_toArray, List.set_cons_zero, List.set_cons_succ]
  refine wpAnyH_take (i := 10) (v := ?_) rfl (by kernel_rfl) (by kernel_rfl) (by kernel_rfl) (fun _ _ _ h => h) (Or.inl ⟨by rfl, ?_⟩) (by assumption) ?_
  case refine_2 => (intro w1 hS1; obtain ⟨a0, a1, a2, a3, a4, a5, a6, a7, a8, a9, a10, a11, a12⟩ := hS1; go_simp; try with_reducible rfl)
  try simp only [List.getElem_toArray, List.getElem_cons_zero, List.getElem_cons_succ, Act.put, List.setIfInBounds_toArray, List.set_cons_zero, List.set_cons_succ]
  refine wpAnyH_take (i := 11) (v := ?_) rfl (by kernel_rfl) (by kernel_rfl) (by kernel_rfl) (fun _ _ _ h => h) (Or.inl ⟨by rfl, ?_⟩) (by assumption) ?_
  case refine_2 => (intro w1 hS1; obtain ⟨a0, a1, a2, a3, a4, a5, a6, a7, a8, a9, a10, a11, a12⟩ := hS1; go_simp; try with_reducible rfl)
  try simp only [List.getElem_toArray, List.getElem_cons_zero, List.getElem_cons_succ, Act.put, List.setIfInBounds_toArray, List.set_cons_zero, List.set_cons_succ]
  refine wpAnyH_take (i := 12) (v := ?_) rfl (by kernel_rfl) (by kernel_rfl) (by kernel_rfl) (fun _ _ _ h => h) (Or.inl ⟨by rfl, ?_⟩) (by assumption) ?_
  case refine_2 => (intro w1 hS1; obtain ⟨a0, a1, a2, a3, a4, a5, a6, a7, a8, a9, a10, a11, a12⟩ := hS1; go_simp; try with_reducible rfl)
  try simp only [List.getElem_toArray, List.getElem_cons_zero, List.getElem_cons_succ, Act.put, List.setIfInBounds_toArray, List.set_cons_zero, List.set_cons_succ]
  refine wpAnyH_take (i := 13) (v := ?_) rfl (by kernel_rfl) (by kernel_rfl) (by kernel_rfl) (fun _ _ _ h => h) (Or.inl ⟨by rfl, ?_⟩) (by assumption) ?_
  case refine_2 => (intro w1 hS1; obtain ⟨a0, a1, a2, a3, a4, a5, a6, a7, a8, a9, a10, a11, a12⟩ := hS1; go_simp; try with_reducible rfl)
  try simp only [List.getElem_toArray, List.getElem_cons_zero, List.getElem_cons_succ, Act.put, List.setIfInBounds_toArray, List.set_cons_zero, List.set_cons_succ]
  refine wpAnyH_take (i := 14) (v := ?_) rfl (by kernel_rfl) (by kernel_rfl) (by kernel_rfl) (fun _ _ _ h => h) (Or.inl ⟨by rfl, ?_⟩) (by assumption) ?_
  case refine_2 => (intro w1 hS1; obtain ⟨a0, a1, a2, a3, a4, a5, a6, a7, a8, a9, a10, a11, a12⟩ := hS1; go_simp; try with_reducible rfl)
  try simp only [List.getElem_toArray, List.getElem_cons_zero, List.getElem_cons_succ, Act.put, List.setIfInBounds_toArray, List.set_cons_zero, List.set_cons_succ]
  refine wpAnyH_take (i := 16) (v := ?_) rfl (by kernel_rfl) (by kernel_rfl) (by kernel_rfl) (fun _ _ _ h => h) (Or.inl ⟨by rfl, ?_⟩) (by assumption) ?_
  case refine_2 => (intro w1 hS1; obtain ⟨a0, a1, a2, a3, a4, a5, a6, a7, a8, a9, a10, a11, a12⟩ := hS1; go_simp; try with_reducible rfl)
  try simp only [List.getElem_toArray, List.getElem_cons_zero, List.getElem_cons_succ, Act.put, List.setIfInBounds_toArray, List.set_cons_zero, List.set_cons_succ]
  refine wpAnyH_ready (rs := [15]) (by kernel_rfl) (by simp) ?_
  refine (AllReadyH.cons rfl (fun K hK => ?_) AllReadyH.nil)
  go_simp
  refine (HKP.out _).mono ?_
  rintro e W5 ⟨rfl, hb⟩
  have b5 : Below W0.heap.size W0 W5 := (Below.refl _ _).drew.trans hb
  clear hb
  refine hK.out _ _ (cmd_at (ex_below HT0.out b5)) (fun hHeld => ?_)
  clear hK K hHeld
  try simp only [List.getElem_toArray, List.getElem_cons_zero, List.getElem_cons_succ, Act.put, List.setIfInBounds_toArray, List.set_cons_zero, List.set_cons_succ]
  refine wpAnyH_ready (rs := [17]) (by kernel_rfl) (by simp) ?_
  refine (AllReadyH.cons rfl (fun K hK => ?_) AllReadyH.nil)
  go_simp
  refine (HSM.out _ (HB0.out.trans (b5.mono HB0.out.size))).mono ?_
  rintro e W6 ⟨rfl, hb⟩
  have b6 : Below W0.heap.size W0 W6 := b5.trans (hb.mono b5.size)
  clear hb
  refine hK.out _ _ (cmd_at (ex_below HT0.out b6)) (fun hHeld => ?_)
  clear hK K hHeld
  try simp only [List.getElem_toArray, List.getElem_cons_zero, List.getElem_cons_succ, Act.put, List.setIfInBounds_toArray, List.set_cons_zero, List.set_cons_succ]
  refine wpAnyH_take (i := 18) (v := ?_) rfl (by kernel_rfl) (by kernel_rfl) (by kernel_rfl) (fun _ _ _ h => h) (Or.inl ⟨by rfl, ?_⟩) (cmd_at (ex_below HT0.out b6)) ?_
  case refine_2 => (intro w1 hS1; obtain ⟨a0, a1, a2, a3, a4, a5, a6, a7, a8, a9, a10, a11, a12⟩ := hS1; go_simp; try with_reducible rfl)
  try simp only [List.getElem_toArray, List.getElem_cons_zero, List.getElem_cons_succ, Act.put, List.setIfInBounds_toArray, List.set_cons_zero, List.set_cons_succ]
  refine wpAnyH_take (i := 19) (v := ?_) rfl (by kernel_rfl) (by kernel_rfl) (by kernel_rfl) (fun _ _ _ h => h) (Or.inl ⟨by rfl, ?_⟩) (cmd_at (ex_below HT0.out b6)) ?_
  case refine_2 => (intro w1 hS1; obtain ⟨a0, a1, a2, a3, a4, a5, a6, a7, a8, a9, a10, a11, a12⟩ := hS1; go_simp; try with_reducible rfl)
  try simp only [List.getElem_toArray, List.getElem_cons_zero, List.getElem_cons_succ, Act.put, List.setIfInBounds_toArray, List.set_cons_zero, List.set_cons_succ]
  refine wpAnyH_done (by kernel_rfl) ?_ _
  have HB6 := Lib.hid (HB0.out.trans (b6.mono HB0.out.size))
  have HT6 := Lib.hid (ex_below HT0.out b6)
  clear b5 b6 HT0 HB0 HSM HKP h0'
  obtain ⟨q0, q1, q2, q3, q4, q5, q6, q7, q8, q9, q10, q11, q12⟩ := cmd_at HT6.out
  cases eq
  · go_wp2_with fail
    go_ret
    exact ⟨rfl, HB6.out⟩
  by_cases g0 : 0 ≤ cn
  · have eg : decide (0 ≤ cn) = true := decide_eq_true g0
    go_wp2_with fail
    go_ret
    exact ⟨by simp [g0], HB6.out⟩
  · have eg : decide (0 ≤ cn) = false := decide_eq_false g0
    go_wp2_with fail
    go_ret
    exact ⟨by simp [g0], HB6.out⟩
set_option maxRecDepth 100000 in
set_option maxHeartbeats 16000000 in
theorem rsound_9 (kd cl rq id cn tm off : Int) (a : Option Addr) (n ca : Nat) (b : Option Addr) (m cb : Nat) (tc : Int) (d : Option Addr) (l cd : Nat) (tr tb : Int) (F T G U B P : Nat → Int) (hk : kd = 9) (hc : ¬ 8 < cl) (w : World) (hS : Sps w a n F T) (hR : Sps w b m G U) (hD : Sps w d l B P) :
    Calls Try.prog 15 #[cmdV kd cl rq id cn tm off a n ca b m cb tc d l cd tr tb] w fun e w' => e = .returned (.bool (cmdEq kd kd cl cl rq rq 0 id 0 cn tm tm 0 off F T F T 0 n G U G U 0 m 0 tc B P B P 0 l 0 tr 0 tb && (decide (0 ≤ cn) && decide (cn ≤ 15)))) ∧ Below w.heap.size w w' := by
  have HKP := Lib.hid (fun W => kept_9 kd cl rq id cn tm off a n ca b m cb tc d l cd tr tb hk W)
  have HSM := Lib.hid (fun W (hb : Below w.heap.size w W) => rcmd_same kd cl rq 0 0 tm 0 none 0 0 none 0 0 0 none 0 0 0 0 F T G U B P kd cl rq id cn tm off a n ca b m cb tc d l cd tr tb F T G U B P W ((sps_none W F T)) ((sps_none W G U)) ((sps_none W B P)) (hS.kept hb) (hR.kept hb) (hD.kept hb))
  obtain ⟨eq, heq⟩ : ∃ x, cmdEq kd kd cl cl rq rq 0 id 0 cn tm tm 0 off F T F T 0 n G U G U 0 m 0 tc B P B P 0 l 0 tr 0 tb = x := ⟨_, rfl⟩
  rw [heq] at HSM ⊢
  clear heq
  clear hS hR hD
  have e3 : decide (8 < cl) = false := decide_eq_false hc
  subst hk
  unfold onlyV at HKP
  obtain ⟨B1, s0, sz⟩ := box1 w #[.int .i64 9, .int .u64 cl, .int .u64 rq, .int .u64 id, .int .i64 cn, .int .i64 tm, .int .i64 off, .slice a n ca, .slice b m cb, .int .i64 tc, .slice d l cd, .int .i64 tr, .int .i64 tb] 30
  have HB0 := Lib.hid B1
  have HT0 := Lib.hid s0
  clear B1 s0 sz
  unfold cmdV at *
  go_enter Try.func15, Try.ntmps15
  go_wp2_with fail
  generalize w.alloc (.cells #[.int .i64 9, .int .u64 cl, .int .u64 rq, .int .u64 id, .int .i64 cn, .int .i64 tm, .int .i64 off, .slice a n ca, .slice b m cb, .int .i64 tc, .slice d l cd, .int .i64 tr, .int .i64 tb] 30) = W0 at HB0 HT0 ⊢
  have h0' : W0.drew.cell? ⟨w.heap.size, 0, none⟩ = some (.int .i64 9) ∧ W0.drew.cell? ⟨w.heap.size, 1, none⟩ = some (.int .u64 cl) ∧ W0.drew.cell? ⟨w.heap.size, 2, none⟩ = some (.int .u64 rq) ∧ W0.drew.cell? ⟨w.heap.size, 3, none⟩ = some (.int .u64 id) ∧ W0.drew.cell? ⟨w.heap.size, 4, none⟩ = some (.int .i64 cn) ∧ W0.drew.cell? ⟨w.heap.size, 5, none⟩ = some (.int .i64 tm) ∧ W0.drew.cell? ⟨w.heap.size, 6, none⟩ = some (.int .i64 off) ∧ W0.drew.cell? ⟨w.heap.size, 7, none⟩ = some (.slice a n ca) ∧ W0.drew.cell? ⟨w.heap.size, 8, none⟩ = some (.slice b m cb) ∧ W0.drew.cell? ⟨w.heap.size, 9, none⟩ = some (.int .i64 tc) ∧ W0.drew.cell? ⟨w.heap.size, 10, none⟩ = some (.slice d l cd) ∧ W0.drew.cell? ⟨w.heap.size, 11, none⟩ = some (.int .i64 tr) ∧ W0.drew.cell? ⟨w.heap.size, 12, none⟩ = some (.int .i64 tb) := cmd_at HT0.out
  try simp only [if_true, if_false, ite_true, ite_false, Bool.false_eq_true, reduceIte] at HKP
  refine wp_region_held_drew (S := fun w1 => w1.cell? ⟨w.heap.size, 0, none⟩ = some (.int .i64 9) ∧ w1.cell? ⟨w.heap.size, 1, none⟩ = some (.int .u64 cl) ∧ w1.cell? ⟨w.heap.size, 2, none⟩ = some (.int .u64 rq) ∧ w1.cell? ⟨w.heap.size, 3, none⟩ = some (.int .u64 id) ∧ w1.cell? ⟨w.heap.size, 4, none⟩ = some (.int .i64 cn) ∧ w1.cell? ⟨w.heap.size, 5, none⟩ = some (.int .i64 tm) ∧ w1.cell? ⟨w.heap.size, 6, none⟩ = some (.int .i64 off) ∧ w1.cell? ⟨w.heap.size, 7, none⟩ = some (.slice a n ca) ∧ w1.cell? ⟨w.heap.size, 8, none⟩ = some (.slice b m cb) ∧ w1.cell? ⟨w.heap.size, 9, none⟩ = some (.int .i64 tc) ∧ w1.cell? ⟨w.heap.size, 10, none⟩ = some (.slice d l cd) ∧ w1.cell? ⟨w.heap.size, 11, none⟩ = some (.int .i64 tr) ∧ w1.cell? ⟨w.heap.size, 12, none⟩ = some (.int .i64 tb)) (by kernel_rfl) h0' (fun hHeld => ?_)
  refine wpAnyH_take (i := 0) (v := ?_) rfl (by kernel_rfl) (by kernel_rfl) (by kernel_rfl) (fun _ _ _ h => h) (Or.inl ⟨by rfl, ?_⟩) (by assumption) ?_
  case refine_2 => (intro w1 hS1; obtain ⟨a0, a1, a2, a3, a4, a5, a6, a7, a8, a9, a10, a11, a12⟩ := hS1; go_simp; try with_reducible rfl)
  try simp only [List.getElem_toArray, List.getElem_cons_zero, List.getElem_cons_succ, Act.put, List.setIfInBounds_toArray, List.set_cons_zero, List.set_cons_succ]
  refine wpAnyH_take (i := 1) (v := ?_) rfl (by kernel_rfl) (by kernel_rfl) (by kernel_rfl) (fun _ _ _ h => h) (Or.inl ⟨by rfl, ?_⟩) (by assumption) ?_
  case refine_2 => (intro w1 hS1; obtain ⟨a0, a1, a2, a3, a4, a5, a6, a7, a8, a9, a10, a11, a12⟩ := hS1; go_simp; try with_reducible rfl)
  try simp only [List.getElem_toArray, List.getElem_cons_zero, List.getElem_cons_succ, Act.put, List.setIfInBounds_toArray, List.set_cons_zero, List.set_cons_succ]
  refine wpAnyH_take (i := 2) (v := ?_) rfl (by kernel_rfl) (by kernel_rfl) (by kernel_rfl) (fun _ _ _ h => h) (Or.inl ⟨by rfl, ?_⟩) (by assumption) ?_
  case refine_2 => (intro w1 hS1; obtain ⟨a0, a1, a2, a3, a4, a5, a6, a7, a8, a9, a10, a11, a12⟩ := hS1; go_simp; try with_reducible rfl)
  try simp only [List.getElem_toArray, List.getElem_cons_zero, List.getElem_cons_succ, Act.put, List.setIfInBounds_toArray, List.set_cons_zero, List.set_cons_succ]
  refine wpAnyH_take (i := 3) (v := ?_) rfl (by kernel_rfl) (by kernel_rfl) (by kernel_rfl) (fun _ _ _ h => h) (Or.inl ⟨by rfl, ?_⟩) (by assumption) ?_
  case refine_2 => (intro w1 hS1; obtain ⟨a0, a1, a2, a3, a4, a5, a6, a7, a8, a9, a10, a11, a12⟩ := hS1; go_simp; try with_reducible rfl)
  try simp only [List.getElem_toArray, List.getElem_cons_zero, List.getElem_cons_succ, Act.put, List.setIfInBounds_toArray, List.set_cons_zero, List.set_cons_succ]
  refine wpAnyH_take (i := 4) (v := ?_) rfl (by kernel_rfl) (by kernel_rfl) (by kernel_rfl) (fun _ _ _ h => h) (Or.inl ⟨by rfl, ?_⟩) (by assumption) ?_
  case refine_2 => (intro w1 hS1; obtain ⟨a0, a1, a2, a3, a4, a5, a6, a7, a8, a9, a10, a11, a12⟩ := hS1; go_simp; try with_reducible rfl)
  try simp only [List.getElem_toArray, List.getElem_cons_zero, List.getElem_cons_succ, Act.put, List.setIfInBounds_toArray, List.set_cons_zero, List.set_cons_succ]
  refine wpAnyH_take (i := 5) (v := ?_) rfl (by kernel_rfl) (by kernel_rfl) (by kernel_rfl) (fun _ _ _ h => h) (Or.inl ⟨by rfl, ?_⟩) (by assumption) ?_
  case refine_2 => (intro w1 hS1; obtain ⟨a0, a1, a2, a3, a4, a5, a6, a7, a8, a9, a10, a11, a12⟩ := hS1; go_simp; try with_reducible rfl)
  try simp only [List.getElem_toArray, List.getElem_cons_zero, List.getElem_cons_succ, Act.put, List.setIfInBounds_toArray, List.set_cons_zero, List.set_cons_succ]
  refine wpAnyH_take (i := 6) (v := ?_) rfl (by kernel_rfl) (by kernel_rfl) (by kernel_rfl) (fun _ _ _ h => h) (Or.inl ⟨by rfl, ?_⟩) (by assumption) ?_
  case refine_2 => (intro w1 hS1; obtain ⟨a0, a1, a2, a3, a4, a5, a6, a7, a8, a9, a10, a11, a12⟩ := hS1; go_simp; try with_reducible rfl)
  try simp only [List.getElem_toArray, List.getElem_cons_zero, List.getElem_cons_succ, Act.put, List.setIfInBounds_toArray, List.set_cons_zero, List.set_cons_succ]
  refine wpAnyH_take (i := 7) (v := ?_) rfl (by kernel_rfl) (by kernel_rfl) (by kernel_rfl) (fun _ _ _ h => h) (Or.inl ⟨by rfl, ?_⟩) (by assumption) ?_
  case refine_2 => (intro w1 hS1; obtain ⟨a0, a1, a2, a3, a4, a5, a6, a7, a8, a9, a10, a11, a12⟩ := hS1; go_simp; try with_reducible rfl)
  try simp only [List.getElem_toArray, List.getElem_cons_zero, List.getElem_cons_succ, Act.put, List.setIfInBounds_toArray, List.set_cons_zero, List.set_cons_succ]
  refine wpAnyH_take (i := 8) (v := ?_) rfl (by kernel_rfl) (by kernel_rfl) (by kernel_rfl) (fun _ _ _ h => h) (Or.inl ⟨by rfl, ?_⟩) (by assumption) ?_
  case refine_2 => (intro w1 hS1; obtain ⟨a0, a1, a2, a3, a4, a5, a6, a7, a8, a9, a10, a11, a12⟩ := hS1; go_simp; try with_reducible rfl)
  try simp only [List.getElem_toArray, List.getElem_cons_zero, List.getElem_cons_succ, Act.put, List.setIfInBounds_toArray, List.set_cons_zero, List.set_cons_succ]
  refine wpAnyH_take (i := 9) (v := ?_) rfl (by kernel_rfl) (by kernel_rfl) (by kernel_rfl) (fun _ _ _ h => h) (Or.inl ⟨by rfl, ?_⟩) (by assumption) ?_
  case refine_2 => (intro w1 hS1; obtain ⟨a0, a1, a2, a3, a4, a5, a6, a7, a8, a9, a10, a11, a12⟩ := hS1; go_simp; try with_reducible rfl)
  try simp only [List.getElem_toArray, List.getElem_cons_zero, List.getElem_cons_succ, Act.put, List.setIfInBounds_toArray, List.set_cons_zero, List.set_cons_succ]
  refine wpAnyH_take (i := 10) (v := ?_) rfl (by kernel_rfl) (by kernel_rfl) (by kernel_rfl) (fun _ _ _ h => h) (Or.inl ⟨by rfl, ?_⟩) (by assumption) ?_
  case refine_2 => (intro w1 hS1; obtain ⟨a0, a1, a2, a3, a4, a5, a6, a7, a8, a9, a10, a11, a12⟩ := hS1; go_simp; try with_reducible rfl)
  try simp only [List.getElem_toArray, List.getElem_cons_zero, List.getElem_cons_succ, Act.put, List.setIfInBounds_toArray, List.set_cons_zero, List.set_cons_succ]
  refine wpAnyH_take (i := 11) (v := ?_) rfl (by kernel_rfl) (by kernel_rfl) (by kernel_rfl) (fun _ _ _ h => h) (Or.inl ⟨by rfl, ?_⟩) (by assumption) ?_
  case refine_2 => (intro w1 hS1; obtain ⟨a0, a1, a2, a3, a4, a5, a6, a7, a8, a9, a10, a11, a12⟩ := hS1; go_simp; try with_reducible rfl)
  try simp only [List.getElem_toArray, List.getElem_cons_zero, List.getElem_cons_succ, Act.put, List.setIfInBounds_toArray, List.set_cons_zero, List.set_cons_succ]
  refine wpAnyH_take (i := 12) (v := ?_) rfl (by kernel_rfl) (by kernel_rfl) (by kernel_rfl) (fun _ _ _ h => h) (Or.inl ⟨by rfl, ?_⟩) (by assumption) ?_
  case refine_2 => (intro w1 hS1; obtain ⟨a0, a1, a2, a3, a4, a5, a6, a7, a8, a9, a10, a11, a12⟩ := hS1; go_simp; try with_reducible rfl)
  try simp only [List.getElem_toArray, List.getElem_cons_zero, List.getElem_cons_succ, Act.put, List.setIfInBounds_toArray, List.set_cons_zero, List.set_cons_succ]
  refine wpAnyH_take (i := 13) (v := ?_) rfl (by kernel_rfl) (by kernel_rfl) (by kernel_rfl) (fun _ _ _ h => h) (Or.inl ⟨by rfl, ?_⟩) (by assumption) ?_
  case refine_2 => (intro w1 hS1; obtain ⟨a0, a1, a2, a3, a4, a5, a6, a7, a8, a9, a10, a11, a12⟩ := hS1; go_simp; try with_reducible rfl)
  try simp only [List.getElem_toArray, List.getElem_cons_zero, List.getElem_cons_succ, Act.put, List.setIfInBounds_toArray, List.set_cons_zero, List.set_cons_succ]
  refine wpAnyH_take (i := 14) (v := ?_) rfl (by kernel_rfl) (by kernel_rfl) (by kernel_rfl) (fun _ _ _ h => h) (Or.inl ⟨by rfl, ?_⟩) (by assumption) ?_
  case refine_2 => (intro w1 hS1; obtain ⟨a0, a1, a2, a3, a4, a5, a6, a7, a8, a9, a10, a11, a12⟩ := hS1; go_simp; try with_reducible rfl)
  try simp only [List.getElem_toArray, List.getElem_cons_zero, List.getElem_cons_succ, Act.put, List.setIfInBounds_toArray, List.set_cons_zero, List.set_cons_succ]
  refine wpAnyH_take (i := 16) (v := ?_) rfl (by kernel_rfl) (by kernel_rfl) (by kernel_rfl) (fun _ _ _ h => h) (Or.inl ⟨by rfl, ?_⟩) (by assumption) ?_
  case refine_2 => (intro w1 hS1; obtain ⟨a0, a1, a2, a3, a4, a5, a6, a7, a8, a9, a10, a11, a12⟩ := hS1; go_simp; try with_reducible rfl)
  try simp only [List.getElem_toArray, List.getElem_cons_zero, List.getElem_cons_succ, Act.put, List.setIfInBounds_toArray, List.set_cons_zero, List.set_cons_succ]
  refine wpAnyH_ready (rs := [15]) (by kernel_rfl) (by simp) ?_
  refine (AllReadyH.cons rfl (fun K hK => ?_) AllReadyH.nil)
  go_simp
  refine (HKP.out _).mono ?_
  rintro e W5 ⟨rfl, hb⟩
  have b5 : Below W0.heap.size W0 W5 := (Below.refl _ _).drew.trans hb
  clear hb
  refine hK.out _ _ (cmd_at (ex_below HT0.out b5)) (fun hHeld => ?_)
  clear hK K hHeld
  try simp only [List.getElem_toArray, List.getElem_cons_zero, List.getElem_cons_succ, Act.put, List.setIfInBounds_toArray, List.set_cons_zero, List.set_cons_succ]
  refine wpAnyH_ready (rs := [17]) (by kernel_rfl) (by simp) ?_
  refine (AllReadyH.cons rfl (fun K hK => ?_) AllReadyH.nil)
  go_simp
  refine (HSM.out _ (HB0.out.trans (b5.mono HB0.out.size))).mono ?_
  rintro e W6 ⟨rfl, hb⟩
  have b6 : Below W0.heap.size W0 W6 := b5.trans (hb.mono b5.size)
  clear hb
  refine hK.out _ _ (cmd_at (ex_below HT0.out b6)) (fun hHeld => ?_)
  clear hK K hHeld
  try simp only [List.getElem_toArray, List.getElem_cons_zero, List.getElem_cons_succ, Act.put, List.setIfInBounds_toArray, List.set_cons_zero, List.set_cons_succ]
  refine wpAnyH_take (i := 18) (v := ?_) rfl (by kernel_rfl) (by kernel_rfl) (by kernel_rfl) (fun _ _ _ h => h) (Or.inl ⟨by rfl, ?_⟩) (cmd_at (ex_below HT0.out b6)) ?_
  case refine_2 => (intro w1 hS1; obtain ⟨a0, a1, a2, a3, a4, a5, a6, a7, a8, a9, a10, a11, a12⟩ := hS1; go_simp; try with_reducible rfl)
  try simp only [List.getElem_toArray, List.getElem_cons_zero, List.getElem_cons_succ, Act.put, List.setIfInBounds_toArray, List.set_cons_zero, List.set_cons_succ]
  refine wpAnyH_take (i := 19) (v := ?_) rfl (by kernel_rfl) (by kernel_rfl) (by kernel_rfl) (fun _ _ _ h => h) (Or.inl ⟨by rfl, ?_⟩) (cmd_at (ex_below HT0.out b6)) ?_
  case refine_2 => (intro w1 hS1; obtain ⟨a0, a1, a2, a3, a4, a5, a6, a7, a8, a9, a10, a11, a12⟩ := hS1; go_simp; try with_reducible rfl)
  try simp only [List.getElem_toArray, List.getElem_cons_zero, List.getElem_cons_succ, Act.put, List.setIfInBounds_toArray, List.set_cons_zero, List.set_cons_succ]
  refine wpAnyH_done (by kernel_rfl) ?_ _
  have HB6 := Lib.hid (HB0.out.trans (b6.mono HB0.out.size))
  have HT6 := Lib.hid (ex_below HT0.out b6)
  clear b5 b6 HT0 HB0 HSM HKP h0'
  obtain ⟨q0, q1, q2, q3, q4, q5, q6, q7, q8, q9, q10, q11, q12⟩ := cmd_at HT6.out
  cases eq
  · go_wp2_with fail
    go_ret
    exact ⟨rfl, HB6.out⟩
  by_cases g0 : 0 ≤ cn
  · have eg : decide (0 ≤ cn) = true := decide_eq_true g0
    go_wp2_with fail
    go_ret
    exact ⟨by simp [g0], HB6.out⟩
  · have eg : decide (0 ≤ cn) = false := decide_eq_false g0
    go_wp2_with fail
    go_ret
    exact ⟨by simp [g0], HB6.out⟩
set_option maxRecDepth 100000 in
set_option maxHeartbeats 16000000 in
theorem rsound_1 (kd cl rq id cn tm off : Int) (a : Option Addr) (n ca : Nat) (b : Option Addr) (m cb : Nat) (tc : Int) (d : Option Addr) (l cd : Nat) (tr tb : Int) (F T G U B P : Nat → Int) (hk : kd = 1) (hc : ¬ 8 < cl) (w : World) (hS : Sps w a n F T) (hR : Sps w b m G U) (hD : Sps w d l B P) :
    Calls Try.prog 15 #[cmdV kd cl rq id cn tm off a n ca b m cb tc d l cd tr tb] w fun e w' => e = .returned (.bool (cmdEq kd kd cl cl rq rq 0 id 0 cn 0 tm 0 off F T F T 0 n G U G U 0 m 0 tc B P B P 0 l 0 tr 0 tb && (decide (0 ≤ cn) && decide (cn ≤ 15)))) ∧ Below w.heap.size w w' := by
  have HKP := Lib.hid (fun W => kept_1 kd cl rq id cn tm off a n ca b m cb tc d l cd tr tb hk W)
  have HSM := Lib.hid (fun W (hb : Below w.heap.size w W) => rcmd_same kd cl rq 0 0 0 0 none 0 0 none 0 0 0 none 0 0 0 0 F T G U B P kd cl rq id cn tm off a n ca b m cb tc d l cd tr tb F T G U B P W ((sps_none W F T)) ((sps_none W G U)) ((sps_none W B P)) (hS.kept hb) (hR.kept hb) (hD.kept hb))
  obtain ⟨eq, heq⟩ : ∃ x, cmdEq kd kd cl cl rq rq 0 id 0 cn 0 tm 0 off F T F T 0 n G U G U 0 m 0 tc B P B P 0 l 0 tr 0 tb = x := ⟨_, rfl⟩
  rw [heq] at HSM ⊢
  clear heq
  clear hS hR hD
  have e3 : decide (8 < cl) = false := decide_eq_false hc
  subst hk
  unfold onlyV at HKP
  obtain ⟨B1, s0, sz⟩ := box1 w #[.int .i64 1, .int .u64 cl, .int .u64 rq, .int .u64 id, .int .i64 cn, .int .i64 tm, .int .i64 off, .slice a n ca, .slice b m cb, .int .i64 tc, .slice d l cd, .int .i64 tr, .int .i64 tb] 30
  have HB0 := Lib.hid B1
  have HT0 := Lib.hid s0
  clear B1 s0 sz
  unfold cmdV at *
  go_enter Try.func15, Try.ntmps15
  go_wp2_with fail
  generalize w.alloc (.cells #[.int .i64 1, .int .u64 cl, .int .u64 rq, .int .u64 id, .int .i64 cn, .int .i64 tm, .int .i64 off, .slice a n ca, .slice b m cb, .int .i64 tc, .slice d l cd, .int .i64 tr, .int .i64 tb] 30) = W0 at HB0 HT0 ⊢
  have h0' : W0.drew.cell? ⟨w.heap.size, 0, none⟩ = some (.int .i64 1) ∧ W0.drew.cell? ⟨w.heap.size, 1, none⟩ = some (.int .u64 cl) ∧ W0.drew.cell? ⟨w.heap.size, 2, none⟩ = some (.int .u64 rq) ∧ W0.drew.cell? ⟨w.heap.size, 3, none⟩ = some (.int .u64 id) ∧ W0.drew.cell? ⟨w.heap.size, 4, none⟩ = some (.int .i64 cn) ∧ W0.drew.cell? ⟨w.heap.size, 5, none⟩ = some (.int .i64 tm) ∧ W0.drew.cell? ⟨w.heap.size, 6, none⟩ = some (.int .i64 off) ∧ W0.drew.cell? ⟨w.heap.size, 7, none⟩ = some (.slice a n ca) ∧ W0.drew.cell? ⟨w.heap.size, 8, none⟩ = some (.slice b m cb) ∧ W0.drew.cell? ⟨w.heap.size, 9, none⟩ = some (.int .i64 tc) ∧ W0.drew.cell? ⟨w.heap.size, 10, none⟩ = some (.slice d l cd) ∧ W0.drew.cell? ⟨w.heap.size, 11, none⟩ = some (.int .i64 tr) ∧ W0.drew.cell? ⟨w.heap.size, 12, none⟩ = some (.int .i64 tb) := cmd_at HT0.out
  try simp only [if_true, if_false, ite_true, ite_false, Bool.false_eq_true, reduceIte] at HKP
  refine wp_region_held_drew (S := fun w1 => w1.cell? ⟨w.heap.size, 0, none⟩ = some (.int .i64 1) ∧ w1.cell? ⟨w.heap.size, 1, none⟩ = some (.int .u64 cl) ∧ w1.cell? ⟨w.heap.size, 2, none⟩ = some (.int .u64 rq) ∧ w1.cell? ⟨w.heap.size, 3, none⟩ = some (.int .u64 id) ∧ w1.cell? ⟨w.heap.size, 4, none⟩ = some (.int .i64 cn) ∧ w1.cell? ⟨w.heap.size, 5, none⟩ = some (.int .i64 tm) ∧ w1.cell? ⟨w.heap.size, 6, none⟩ = some (.int .i64 off) ∧ w1.cell? ⟨w.heap.size, 7, none⟩ = some (.slice a n ca) ∧ w1.cell? ⟨w.heap.size, 8, none⟩ = some (.slice b m cb) ∧ w1.cell? ⟨w.heap.size, 9, none⟩ = some (.int .i64 tc) ∧ w1.cell? ⟨w.heap.size, 10, none⟩ = some (.slice d l cd) ∧ w1.cell? ⟨w.heap.size, 11, none⟩ = some (.int .i64 tr) ∧ w1.cell? ⟨w.heap.size, 12, none⟩ = some (.int .i64 tb)) (by kernel_rfl) h0' (fun hHeld => ?_)
  refine wpAnyH_take (i := 0) (v := ?_) rfl (by kernel_rfl) (by kernel_rfl) (by kernel_rfl) (fun _ _ _ h => h) (Or.inl ⟨by rfl, ?_⟩) (by assumption) ?_
  case refine_2 => (intro w1 hS1; obtain ⟨a0, a1, a2, a3, a4, a5, a6, a7, a8, a9, a10, a11, a12⟩ := hS1; go_simp; try with_reducible rfl)
  try simp only [List.getElem_toArray, List.getElem_cons_zero, List.getElem_cons_succ, Act.put, List.setIfInBounds_toArray, List.set_cons_zero, List.set_cons_succ]
  refine wpAnyH_take (i := 1) (v := ?_) rfl (by kernel_rfl) (by kernel_rfl) (by kernel_rfl) (fun _ _ _ h => h) (Or.inl ⟨by rfl, ?_⟩) (by assumption) ?_
  case refine_2 => (intro w1 hS1; obtain ⟨a0, a1, a2, a3, a4, a5, a6, a7, a8, a9, a10, a11, a12⟩ := hS1; go_simp; try with_reducible rfl)
  try simp only [List.getElem_toArray, List.getElem_cons_zero, List.getElem_cons_succ, Act.put, List.setIfInBounds_toArray, List.set_cons_zero, List.set_cons_succ]
  refine wpAnyH_take (i := 2) (v := ?_) rfl (by kernel_rfl) (by kernel_rfl) (by kernel_rfl) (fun _ _ _ h => h) (Or.inl ⟨by rfl, ?_⟩) (by assumption) ?_
  case refine_2 => (intro w1 hS1; obtain ⟨a0, a1, a2, a3, a4, a5, a6, a7, a8, a9, a10, a11, a12⟩ := hS1; go_simp; try with_reducible rfl)
  try simp only [List.getElem_toArray, List.getElem_cons_zero, List.getElem_cons_succ, Act.put, List.setIfInBounds_toArray, List.set_cons_zero, List.set_cons_succ]
  refine wpAnyH_take (i := 3) (v := ?_) rfl (by kernel_rfl) (by kernel_rfl) (by kernel_rfl) (fun _ _ _ h => h) (Or.inl ⟨by rfl, ?_⟩) (by assumption) ?_
  case refine_2 => (intro w1 hS1; obtain ⟨a0, a1, a2, a3, a4, a5, a6, a7, a8, a9, a10, a11, a12⟩ := hS1; go_simp; try with_reducible rfl)
  try simp only [List.getElem_toArray, List.getElem_cons_zero, List.getElem_cons_succ, Act.put, List.setIfInBounds_toArray, List.set_cons_zero, List.set_cons_succ]
  refine wpAnyH_take (i := 4) (v := ?_) rfl (by kernel_rfl) (by kernel_rfl) (by kernel_rfl) (fun _ _ _ h => h) (Or.inl ⟨by rfl, ?_⟩) (by assumption) ?_
  case refine_2 => (intro w1 hS1; obtain ⟨a0, a1, a2, a3, a4, a5, a6, a7, a8, a9, a10, a11, a12⟩ := hS1; go_simp; try with_reducible rfl)
  try simp only [List.getElem_toArray, List.getElem_cons_zero, List.getElem_cons_succ, Act.put, List.setIfInBounds_toArray, List.set_cons_zero, List.set_cons_succ]
  refine wpAnyH_take (i := 5) (v := ?_) rfl (by kernel_rfl) (by kernel_rfl) (by kernel_rfl) (fun _ _ _ h => h) (Or.inl ⟨by rfl, ?_⟩) (by assumption) ?_
  case refine_2 => (intro w1 hS1; obtain ⟨a0, a1, a2, a3, a4, a5, a6, a7, a8, a9, a10, a11, a12⟩ := hS1; go_simp; try with_reducible rfl)
  try simp only [List.getElem_toArray, List.getElem_cons_zero, List.getElem_cons_succ, Act.put, List.setIfInBounds_toArray, List.set_cons_zero, List.set_cons_succ]
  refine wpAnyH_take (i := 6) (v := ?_) rfl (by kernel_rfl) (by kernel_rfl) (by kernel_rfl) (fun _ _ _ h => h) (Or.inl ⟨by rfl, ?_⟩) (by assumption) ?_
  case refine_2 => (intro w1 hS1; obtain ⟨a0, a1, a2, a3, a4, a5, a6, a7, a8, a9, a10, a11, a12⟩ := hS1; go_simp; try with_reducible rfl)
  try simp only [List.getElem_toArray, List.getElem_cons_zero, List.getElem_cons_succ, Act.put, List.setIfInBounds_toArray, List.set_cons_zero, List.set_cons_succ]
  refine wpAnyH_take (i := 7) (v := ?_) rfl (by kernel_rfl) (by kernel_rfl) (by kernel_rfl) (fun _ _ _ h => h) (Or.inl ⟨by rfl, ?_⟩) (by assumption) ?_
  case refine_2 => (intro w1 hS1; obtain ⟨a0, a1, a2, a3, a4, a5, a6, a7, a8, a9, a10, a11, a12⟩ := hS1; go_simp; try with_reducible rfl)
  try simp only [List.getElem_toArray, List.getElem_cons_zero, List.getElem_cons_succ, Act.put, List.setIfInBounds_toArray, List.set_cons_zero, List.set_cons_succ]
  refine wpAnyH_take (i := 8) (v := ?_) rfl (by kernel_rfl) (by kernel_rfl) (by kernel_rfl) (fun _ _ _ h => h) (Or.inl ⟨by rfl, ?_⟩) (by assumption) ?_
  case refine_2 => (intro w1 hS1; obtain ⟨a0, a1, a2, a3, a4, a5, a6, a7, a8, a9, a10, a11, a12⟩ := hS1; go_simp; try with_reducible rfl)
  try simp only [List.getElem_toArray, List.getElem_cons_zero, List.getElem_cons_succ, Act.put, List.setIfInBounds_toArray, List.set_cons_zero, List.set_cons_succ]
  refine wpAnyH_take (i := 9) (v := ?_) rfl (by kernel_rfl) (by kernel_rfl) (by kernel_rfl) (fun _ _ _ h => h) (Or.inl ⟨by rfl, ?_⟩) (by assumption) ?_
  case refine_2 => (intro w1 hS1; obtain ⟨a0, a1, a2, a3, a4, a5, a6, a7, a8, a9, a10, a11, a12⟩ := hS1; go_simp; try with_reducible rfl)
  try simp only [List.getElem_toArray, List.getElem_cons_zero, List.getElem_cons_succ, Act.put, List.setIfInBounds_toArray, List.set_cons_zero, List.set_cons_succ]
  refine wpAnyH_take (i := 10) (v := ?_) rfl (by kernel_rfl) (by kernel_rfl) (by kernel_rfl) (fun _ _ _ h => h) (Or.inl ⟨by rfl, ?_⟩) (by assumption) ?_
  case refine_2 => (intro w1 hS1; obtain ⟨a0, a1, a2, a3, a4, a5, a6, a7, a8, a9, a10, a11, a12⟩ := hS1; go_simp; try with_reducible rfl)
  try simp only [List.getElem_toArray, List.getElem_cons_zero, List.getElem_cons_succ, Act.put, List.setIfInBounds_toArray, List.set_cons_zero, List.set_cons_succ]
  refine wpAnyH_take (i := 11) (v := ?_) rfl (by kernel_rfl) (by kernel_rfl) (by kernel_rfl) (fun _ _ _ h => h) (Or.inl ⟨by rfl, ?_⟩) (by assumption) ?_
  case refine_2 => (intro w1 hS1; obtain ⟨a0, a1, a2, a3, a4, a5, a6, a7, a8, a9, a10, a11, a12⟩ := hS1; go_simp; try with_reducible rfl)
  try simp only [List.getElem_toArray, List.getElem_cons_zero, List.getElem_cons_succ, Act.put, List.setIfInBounds_toArray, List.set_cons_zero, List.set_cons_succ]
  refine wpAnyH_take (i := 12) (v := ?_) rfl (by kernel_rfl) (by kernel_rfl) (by kernel_rfl) (fun _ _ _ h => h) (Or.inl ⟨by rfl, ?_⟩) (by assumption) ?_
  case refine_2 => (intro w1 hS1; obtain ⟨a0, a1, a2, a3, a4, a5, a6, a7, a8, a9, a10, a11, a12⟩ := hS1; go_simp; try with_reducible rfl)
  try simp only [List.getElem_toArray, List.getElem_cons_zero, List.getElem_cons_succ, Act.put, List.setIfInBounds_toArray, List.set_cons_zero, List.set_cons_succ]
  refine wpAnyH_take (i := 13) (v := ?_) rfl (by kernel_rfl) (by kernel_rfl) (by kernel_rfl) (fun _ _ _ h => h) (Or.inl ⟨by rfl, ?_⟩) (by assumption) ?_
  case refine_2 => (intro w1 hS1; obtain ⟨a0, a1, a2, a3, a4, a5, a6, a7, a8, a9, a10, a11, a12⟩ := hS1; go_simp; try with_reducible rfl)
  try simp only [List.getElem_toArray, List.getElem_cons_zero, List.getElem_cons_succ, Act.put, List.setIfInBounds_toArray, List.set_cons_zero, List.set_cons_succ]
  refine wpAnyH_take (i := 14) (v := ?_) rfl (by kernel_rfl) (by kernel_rfl) (by kernel_rfl) (fun _ _ _ h => h) (Or.inl ⟨by rfl, ?_⟩) (by assumption) ?_
  case refine_2 => (intro w1 hS1; obtain ⟨a0, a1, a2, a3, a4, a5, a6, a7, a8, a9, a10, a11, a12⟩ := hS1; go_simp; try with_reducible rfl)
  try simp only [List.getElem_toArray, List.getElem_cons_zero, List.getElem_cons_succ, Act.put, List.setIfInBounds_toArray, List.set_cons_zero, List.set_cons_succ]
  refine wpAnyH_take (i := 16) (v := ?_) rfl (by kernel_rfl) (by kernel_rfl) (by kernel_rfl) (fun _ _ _ h => h) (Or.inl ⟨by rfl, ?_⟩) (by assumption) ?_
  case refine_2 => (intro w1 hS1; obtain ⟨a0, a1, a2, a3, a4, a5, a6, a7, a8, a9, a10, a11, a12⟩ := hS1; go_simp; try with_reducible rfl)
  try simp only [List.getElem_toArray, List.getElem_cons_zero, List.getElem_cons_succ, Act.put, List.setIfInBounds_toArray, List.set_cons_zero, List.set_cons_succ]
  refine wpAnyH_ready (rs := [15]) (by kernel_rfl) (by simp) ?_
  refine (AllReadyH.cons rfl (fun K hK => ?_) AllReadyH.nil)
  go_simp
  refine (HKP.out _).mono ?_
  rintro e W5 ⟨rfl, hb⟩
  have b5 : Below W0.heap.size W0 W5 := (Below.refl _ _).drew.trans hb
  clear hb
  refine hK.out _ _ (cmd_at (ex_below HT0.out b5)) (fun hHeld => ?_)
  clear hK K hHeld
  try simp only [List.getElem_toArray, List.getElem_cons_zero, List.getElem_cons_succ, Act.put, List.setIfInBounds_toArray, List.set_cons_zero, List.set_cons_succ]
  refine wpAnyH_ready (rs := [17]) (by kernel_rfl) (by simp) ?_
  refine (AllReadyH.cons rfl (fun K hK => ?_) AllReadyH.nil)
  go_simp
  refine (HSM.out _ (HB0.out.trans (b5.mono HB0.out.size))).mono ?_
  rintro e W6 ⟨rfl, hb⟩
  have b6 : Below W0.heap.size W0 W6 := b5.trans (hb.mono b5.size)
  clear hb
  refine hK.out _ _ (cmd_at (ex_below HT0.out b6)) (fun hHeld => ?_)
  clear hK K hHeld
  try simp only [List.getElem_toArray, List.getElem_cons_zero, List.getElem_cons_succ, Act.put, List.setIfInBounds_toArray, List.set_cons_zero, List.set_cons_succ]
  refine wpAnyH_take (i := 18) (v := ?_) rfl (by kernel_rfl) (by kernel_rfl) (by kernel_rfl) (fun _ _ _ h => h) (Or.inl ⟨by rfl, ?_⟩) (cmd_at (ex_below HT0.out b6)) ?_
  case refine_2 => (intro w1 hS1; obtain ⟨a0, a1, a2, a3, a4, a5, a6, a7, a8, a9, a10, a11, a12⟩ := hS1; go_simp; try with_reducible rfl)
  try simp only [List.getElem_toArray, List.getElem_cons_zero, List.getElem_cons_succ, Act.put, List.setIfInBounds_toArray, List.set_cons_zero, List.set_cons_succ]
  refine wpAnyH_take (i := 19) (v := ?_) rfl (by kernel_rfl) (by kernel_rfl) (by kernel_rfl) (fun _ _ _ h => h) (Or.inl ⟨by rfl, ?_⟩) (cmd_at (ex_below HT0.out b6)) ?_
  case refine_2 => (intro w1 hS1; obtain ⟨a0, a1, a2, a3, a4, a5, a6, a7, a8, a9, a10, a11, a12⟩ := hS1; go_simp; try with_reducible rfl)
  try simp only [List.getElem_toArray, List.getElem_cons_zero, List.getElem_cons_succ, Act.put, List.setIfInBounds_toArray, List.set_cons_zero, List.set_cons_succ]
  refine wpAnyH_done (by kernel_rfl) ?_ _
  have HB6 := Lib.hid (HB0.out.trans (b6.mono HB0.out.size))
  have HT6 := Lib.hid (ex_below HT0.out b6)
  clear b5 b6 HT0 HB0 HSM HKP h0'
  obtain ⟨q0, q1, q2, q3, q4, q5, q6, q7, q8, q9, q10, q11, q12⟩ := cmd_at HT6.out
  cases eq
  · go_wp2_with fail
    go_ret
    exact ⟨rfl, HB6.out⟩
  by_cases g0 : 0 ≤ cn
  · have eg : decide (0 ≤ cn) = true := decide_eq_true g0
    go_wp2_with fail
    go_ret
    exact ⟨by simp [g0], HB6.out⟩
  · have eg : decide (0 ≤ cn) = false := decide_eq_false g0
    go_wp2_with fail
    go_ret
    exact ⟨by simp [g0], HB6.out⟩
set_option maxRecDepth 100000 in
set_option maxHeartbeats 16000000 in
theorem rsound_id (kd cl rq id cn tm off : Int) (a : Option Addr) (n ca : Nat) (b : Option Addr) (m cb : Nat) (tc : Int) (d : Option Addr) (l cd : Nat) (tr tb : Int) (F T G U B P : Nat → Int) (hk : kd ≠ 1 ∧ kd ≠ 9 ∧ kd ≠ 2 ∧ kd ≠ 3 ∧ kd ≠ 4) (hk1 : 1 ≤ kd) (hk2 : kd ≤ 12) (hc : ¬ 8 < cl) (w : World) (hS : Sps w a n F T) (hR : Sps w b m G U) (hD : Sps w d l B P) :
    Calls Try.prog 15 #[cmdV kd cl rq id cn tm off a n ca b m cb tc d l cd tr tb] w fun e w' => e = .returned (.bool (cmdEq kd kd cl cl rq rq id id 0 cn 0 tm 0 off F T F T 0 n G U G U 0 m 0 tc B P B P 0 l 0 tr 0 tb && (decide (0 ≤ cn) && decide (cn ≤ 15)))) ∧ Below w.heap.size w w' := by
  have HKP := Lib.hid (fun W => kept_id kd cl rq id cn tm off a n ca b m cb tc d l cd tr tb hk W)
  have HSM := Lib.hid (fun W (hb : Below w.heap.size w W) => rcmd_same kd cl rq id 0 0 0 none 0 0 none 0 0 0 none 0 0 0 0 F T G U B P kd cl rq id cn tm off a n ca b m cb tc d l cd tr tb F T G U B P W ((sps_none W F T)) ((sps_none W G U)) ((sps_none W B P)) (hS.kept hb) (hR.kept hb) (hD.kept hb))
  obtain ⟨eq, heq⟩ : ∃ x, cmdEq kd kd cl cl rq rq id id 0 cn 0 tm 0 off F T F T 0 n G U G U 0 m 0 tc B P B P 0 l 0 tr 0 tb = x := ⟨_, rfl⟩
  rw [heq] at HSM ⊢
  clear heq
  clear hS hR hD
  have e3 : decide (8 < cl) = false := decide_eq_false hc
  have e2 : decide (kd = 2) = false := decide_eq_false (by omega)
  have f2 : (kd == 2) = false := by simp; omega
  have e3 : decide (kd = 3) = false := decide_eq_false (by omega)
  have f3 : (kd == 3) = false := by simp; omega
  have ea : decide (kd < 1) = false := decide_eq_false (by omega)
  have eb : decide (12 < kd) = false := decide_eq_false (by omega)
  unfold onlyV at HKP
  obtain ⟨B1, s0, sz⟩ := box1 w #[.int .i64 kd, .int .u64 cl, .int .u64 rq, .int .u64 id, .int .i64 cn, .int .i64 tm, .int .i64 off, .slice a n ca, .slice b m cb, .int .i64 tc, .slice d l cd, .int .i64 tr, .int .i64 tb] 30
  have HB0 := Lib.hid B1
  have HT0 := Lib.hid s0
  clear B1 s0 sz
  unfold cmdV at *
  go_enter Try.func15, Try.ntmps15
  go_wp2_with fail
  generalize w.alloc (.cells #[.int .i64 kd, .int .u64 cl, .int .u64 rq, .int .u64 id, .int .i64 cn, .int .i64 tm, .int .i64 off, .slice a n ca, .slice b m cb, .int .i64 tc, .slice d l cd, .int .i64 tr, .int .i64 tb] 30) = W0 at HB0 HT0 ⊢
  have h0' : W0.drew.cell? ⟨w.heap.size, 0, none⟩ = some (.int .i64 kd) ∧ W0.drew.cell? ⟨w.heap.size, 1, none⟩ = some (.int .u64 cl) ∧ W0.drew.cell? ⟨w.heap.size, 2, none⟩ = some (.int .u64 rq) ∧ W0.drew.cell? ⟨w.heap.size, 3, none⟩ = some (.int .u64 id) ∧ W0.drew.cell? ⟨w.heap.size, 4, none⟩ = some (.int .i64 cn) ∧ W0.drew.cell? ⟨w.heap.size, 5, none⟩ = some (.int .i64 tm) ∧ W0.drew.cell? ⟨w.heap.size, 6, none⟩ = some (.int .i64 off) ∧ W0.drew.cell? ⟨w.heap.size, 7, none⟩ = some (.slice a n ca) ∧ W0.drew.cell? ⟨w.heap.size, 8, none⟩ = some (.slice b m cb) ∧ W0.drew.cell? ⟨w.heap.size, 9, none⟩ = some (.int .i64 tc) ∧ W0.drew.cell? ⟨w.heap.size, 10, none⟩ = some (.slice d l cd) ∧ W0.drew.cell? ⟨w.heap.size, 11, none⟩ = some (.int .i64 tr) ∧ W0.drew.cell? ⟨w.heap.size, 12, none⟩ = some (.int .i64 tb) := cmd_at HT0.out
  try simp only [if_true, if_false, ite_true, ite_false, Bool.false_eq_true, reduceIte] at HKP
  refine wp_region_held_drew (S := fun w1 => w1.cell? ⟨w.heap.size, 0, none⟩ = some (.int .i64 kd) ∧ w1.cell? ⟨w.heap.size, 1, none⟩ = some (.int .u64 cl) ∧ w1.cell? ⟨w.heap.size, 2, none⟩ = some (.int .u64 rq) ∧ w1.cell? ⟨w.heap.size, 3, none⟩ = some (.int .u64 id) ∧ w1.cell? ⟨w.heap.size, 4, none⟩ = some (.int .i64 cn) ∧ w1.cell? ⟨w.heap.size, 5, none⟩ = some (.int .i64 tm) ∧ w1.cell? ⟨w.heap.size, 6, none⟩ = some (.int .i64 off) ∧ w1.cell? ⟨w.heap.size, 7, none⟩ = some (.slice a n ca) ∧ w1.cell? ⟨w.heap.size, 8, none⟩ = some (.slice b m cb) ∧ w1.cell? ⟨w.heap.size, 9, none⟩ = some (.int .i64 tc) ∧ w1.cell? ⟨w.heap.size, 10, none⟩ = some (.slice d l cd) ∧ w1.cell? ⟨w.heap.size, 11, none⟩ = some (.int .i64 tr) ∧ w1.cell? ⟨w.heap.size, 12, none⟩ = some (.int .i64 tb)) (by kernel_rfl) h0' (fun hHeld => ?_)
  refine wpAnyH_take (i := 0) (v := ?_) rfl (by kernel_rfl) (by kernel_rfl) (by kernel_rfl) (fun _ _ _ h => h) (Or.inl ⟨by rfl, ?_⟩) (by assumption) ?_
  case refine_2 => (intro w1 hS1; obtain ⟨a0, a1, a2, a3, a4, a5, a6, a7, a8, a9, a10, a11, a12⟩ := hS1; go_simp; try with_reducible rfl)
  try simp only [List.getElem_toArray, List.getElem_cons_zero, List.getElem_cons_succ, Act.put, List.setIfInBounds_toArray, List.set_cons_zero, List.set_cons_succ]
  refine wpAnyH_take (i := 1) (v := ?_) rfl (by kernel_rfl) (by kernel_rfl) (by kernel_rfl) (fun _ _ _ h => h) (Or.inl ⟨by rfl, ?_⟩) (by assumption) ?_
  case refine_2 => (intro w1 hS1; obtain ⟨a0, a1, a2, a3, a4, a5, a6, a7, a8, a9, a10, a11, a12⟩ := hS1; go_simp; try with_reducible rfl)
  try simp only [List.getElem_toArray, List.getElem_cons_zero, List.getElem_cons_succ, Act.put, List.setIfInBounds_toArray, List.set_cons_zero, List.set_cons_succ]
  refine wpAnyH_take (i := 2) (v := ?_) rfl (by kernel_rfl) (by kernel_rfl) (by kernel_rfl) (fun _ _ _ h => h) (Or.inl ⟨by rfl, ?_⟩) (by assumption) ?_
  case refine_2 => (intro w1 hS1; obtain ⟨a0, a1, a2, a3, a4, a5, a6, a7, a8, a9, a10, a11, a12⟩ := hS1; go_simp; try with_reducible rfl)
  try simp only [List.getElem_toArray, List.getElem_cons_zero, List.getElem_cons_succ, Act.put, List.setIfInBounds_toArray, List.set_cons_zero, List.set_cons_succ]
  refine wpAnyH_take (i := 3) (v := ?_) rfl (by kernel_rfl) (by kernel_rfl) (by kernel_rfl) (fun _ _ _ h => h) (Or.inl ⟨by rfl, ?_⟩) (by assumption) ?_
  case refine_2 => (intro w1 hS1; obtain ⟨a0, a1, a2, a3, a4, a5, a6, a7, a8, a9, a10, a11, a12⟩ := hS1; go_simp; try with_reducible rfl)
  try simp only [List.getElem_toArray, List.getElem_cons_zero, List.getElem_cons_succ, Act.put, List.setIfInBounds_toArray, List.set_cons_zero, List.set_cons_succ]
  refine wpAnyH_take (i := 4) (v := ?_) rfl (by kernel_rfl) (by kernel_rfl) (by kernel_rfl) (fun _ _ _ h => h) (Or.inl ⟨by rfl, ?_⟩) (by assumption) ?_
  case refine_2 => (intro w1 hS1; obtain ⟨a0, a1, a2, a3, a4, a5, a6, a7, a8, a9, a10, a11, a12⟩ := hS1; go_simp; try with_reducible rfl)
  try simp only [List.getElem_toArray, List.getElem_cons_zero, List.getElem_cons_succ, Act.put, List.setIfInBounds_toArray, List.set_cons_zero, List.set_cons_succ]
  refine wpAnyH_take (i := 5) (v := ?_) rfl (by kernel_rfl) (by kernel_rfl) (by kernel_rfl) (fun _ _ _ h => h) (Or.inl ⟨by rfl, ?_⟩) (by assumption) ?_
  case refine_2 => (intro w1 hS1; obtain ⟨a0, a1, a2, a3, a4, a5, a6, a7, a8, a9, a10, a11, a12⟩ := hS1; go_simp; try with_reducible rfl)
  try simp only [List.getElem_toArray, List.getElem_cons_zero, List.getElem_cons_succ, Act.put, List.setIfInBounds_toArray, List.set_cons_zero, List.set_cons_succ]
  refine wpAnyH_take (i := 6) (v := ?_) rfl (by kernel_rfl) (by kernel_rfl) (by kernel_rfl) (fun _ _ _ h => h) (Or.inl ⟨by rfl, ?_⟩) (by assumption) ?_
  case refine_2 => (intro w1 hS1; obtain ⟨a0, a1, a2, a3, a4, a5, a6, a7, a8, a9, a10, a11, a12⟩ := hS1; go_simp; try with_reducible rfl)
  try simp only [List.getElem_toArray, List.getElem_cons_zero, List.getElem_cons_succ, Act.put, List.setIfInBounds_toArray, List.set_cons_zero, List.set_cons_succ]
  refine wpAnyH_take (i := 7) (v := ?_) rfl (by kernel_rfl) (by kernel_rfl) (by kernel_rfl) (fun _ _ _ h => h) (Or.inl ⟨by rfl, ?_⟩) (by assumption) ?_
  case refine_2 => (intro w1 hS1; obtain ⟨a0, a1, a2, a3, a4, a5, a6, a7, a8, a9, a10, a11, a12⟩ := hS1; go_simp; try with_reducible rfl)
  try simp only [List.getElem_toArray, List.getElem_cons_zero, List.getElem_cons_succ, Act.put, List.setIfInBounds_toArray, List.set_cons_zero, List.set_cons_succ]
  refine wpAnyH_take (i := 8) (v := ?_) rfl (by kernel_rfl) (by kernel_rfl) (by kernel_rfl) (fun _ _ _ h => h) (Or.inl ⟨by rfl, ?_⟩) (by assumption) ?_
  case refine_2 => (intro w1 hS1; obtain ⟨a0, a1, a2, a3, a4, a5, a6, a7, a8, a9, a10, a11, a12⟩ := hS1; go_simp; try with_reducible rfl)
  try simp only [List.getElem_toArray, List.getElem_cons_zero, List.getElem_cons_succ, Act.put, List.setIfInBounds_toArray, List.set_cons_zero, List.set_cons_succ]
  refine wpAnyH_take (i := 9) (v := ?_) rfl (by kernel_rfl) (by kernel_rfl) (by kernel_rfl) (fun _ _ _ h => h) (Or.inl ⟨by rfl, ?_⟩) (by assumption) ?_
  case refine_2 => (intro w1 hS1; obtain ⟨a0, a1, a2, a3, a4, a5, a6, a7, a8, a9, a10, a11, a12⟩ := hS1; go_simp; try with_reducible rfl)
  try simp only [List.getElem_toArray, List.getElem_cons_zero, List.getElem_cons_succ, Act.put, List.setIfInBounds_toArray, List.set_cons_zero, List.set_cons_succ]
  refine wpAnyH_take (i := 10) (v := ?_) rfl (by kernel_rfl) (by kernel_rfl) (by kernel_rfl) (fun _ _ _ h => h) (Or.inl ⟨by rfl, ?_⟩) (by assumption) ?_
  case refine_2 => (intro w1 hS1; obtain ⟨a0, a1, a2, a3, a4, a5, a6, a7, a8, a9, a10, a11, a12⟩ := hS1; go_simp; try with_reducible rfl)
  try simp only [List.getElem_toArray, List.getElem_cons_zero, List.getElem_cons_succ, Act.put, List.setIfInBounds_toArray, List.set_cons_zero, List.set_cons_succ]
  refine wpAnyH_take (i := 11) (v := ?_) rfl (by kernel_rfl) (by kernel_rfl) (by kernel_rfl) (fun _ _ _ h => h) (Or.inl ⟨by rfl, ?_⟩) (by assumption) ?_
  case refine_2 => (intro w1 hS1; obtain ⟨a0, a1, a2, a3, a4, a5, a6, a7, a8, a9, a10, a11, a12⟩ := hS1; go_simp; try with_reducible rfl)
  try simp only [List.getElem_toArray, List.getElem_cons_zero, List.getElem_cons_succ, Act.put, List.setIfInBounds_toArray, List.set_cons_zero, List.set_cons_succ]
  refine wpAnyH_take (i := 12) (v := ?_) rfl (by kernel_rfl) (by kernel_rfl) (by kernel_rfl) (fun _ _ _ h => h) (Or.inl ⟨by rfl, ?_⟩) (by assumption) ?_
  case refine_2 => (intro w1 hS1; obtain ⟨a0, a1, a2, a3, a4, a5, a6, a7, a8, a9, a10, a11, a12⟩ := hS1; go_simp; try with_reducible rfl)
  try simp only [List.getElem_toArray, List.getElem_cons_zero, List.getElem_cons_succ, Act.put, List.setIfInBounds_toArray, List.set_cons_zero, List.set_cons_succ]
  refine wpAnyH_take (i := 13) (v := ?_) rfl (by kernel_rfl) (by kernel_rfl) (by kernel_rfl) (fun _ _ _ h => h) (Or.inl ⟨by rfl, ?_⟩) (by assumption) ?_
  case refine_2 => (intro w1 hS1; obtain ⟨a0, a1, a2, a3, a4, a5, a6, a7, a8, a9, a10, a11, a12⟩ := hS1; go_simp; try with_reducible rfl)
  try simp only [List.getElem_toArray, List.getElem_cons_zero, List.getElem_cons_succ, Act.put, List.setIfInBounds_toArray, List.set_cons_zero, List.set_cons_succ]
  refine wpAnyH_take (i := 14) (v := ?_) rfl (by kernel_rfl) (by kernel_rfl) (by kernel_rfl) (fun _ _ _ h => h) (Or.inl ⟨by rfl, ?_⟩) (by assumption) ?_
  case refine_2 => (intro w1 hS1; obtain ⟨a0, a1, a2, a3, a4, a5, a6, a7, a8, a9, a10, a11, a12⟩ := hS1; go_simp; try with_reducible rfl)
  try simp only [List.getElem_toArray, List.getElem_cons_zero, List.getElem_cons_succ, Act.put, List.setIfInBounds_toArray, List.set_cons_zero, List.set_cons_succ]
  refine wpAnyH_take (i := 16) (v := ?_) rfl (by kernel_rfl) (by kernel_rfl) (by kernel_rfl) (fun _ _ _ h => h) (Or.inl ⟨by rfl, ?_⟩) (by assumption) ?_
  case refine_2 => (intro w1 hS1; obtain ⟨a0, a1, a2, a3, a4, a5, a6, a7, a8, a9, a10, a11, a12⟩ := hS1; go_simp; try with_reducible rfl)
  try simp only [List.getElem_toArray, List.getElem_cons_zero, List.getElem_cons_succ, Act.put, List.setIfInBounds_toArray, List.set_cons_zero, List.set_cons_succ]
  refine wpAnyH_ready (rs := [15]) (by kernel_rfl) (by simp) ?_
  refine (AllReadyH.cons rfl (fun K hK => ?_) AllReadyH.nil)
  go_simp
  refine (HKP.out _).mono ?_
  rintro e W5 ⟨rfl, hb⟩
  have b5 : Below W0.heap.size W0 W5 := (Below.refl _ _).drew.trans hb
  clear hb
  refine hK.out _ _ (cmd_at (ex_below HT0.out b5)) (fun hHeld => ?_)
  clear hK K hHeld
  try simp only [List.getElem_toArray, List.getElem_cons_zero, List.getElem_cons_succ, Act.put, List.setIfInBounds_toArray, List.set_cons_zero, List.set_cons_succ]
  refine wpAnyH_ready (rs := [17]) (by kernel_rfl) (by simp) ?_
  refine (AllReadyH.cons rfl (fun K hK => ?_) AllReadyH.nil)
  go_simp
  refine (HSM.out _ (HB0.out.trans (b5.mono HB0.out.size))).mono ?_
  rintro e W6 ⟨rfl, hb⟩
  have b6 : Below W0.heap.size W0 W6 := b5.trans (hb.mono b5.size)
  clear hb
  refine hK.out _ _ (cmd_at (ex_below HT0.out b6)) (fun hHeld => ?_)
  clear hK K hHeld
  try simp only [List.getElem_toArray, List.getElem_cons_zero, List.getElem_cons_succ, Act.put, List.setIfInBounds_toArray, List.set_cons_zero, List.set_cons_succ]
  refine wpAnyH_take (i := 18) (v := ?_) rfl (by kernel_rfl) (by kernel_rfl) (by kernel_rfl) (fun _ _ _ h => h) (Or.inl ⟨by rfl, ?_⟩) (cmd_at (ex_below HT0.out b6)) ?_
  case refine_2 => (intro w1 hS1; obtain ⟨a0, a1, a2, a3, a4, a5, a6, a7, a8, a9, a10, a11, a12⟩ := hS1; go_simp; try with_reducible rfl)
  try simp only [List.getElem_toArray, List.getElem_cons_zero, List.getElem_cons_succ, Act.put, List.setIfInBounds_toArray, List.set_cons_zero, List.set_cons_succ]
  refine wpAnyH_take (i := 19) (v := ?_) rfl (by kernel_rfl) (by kernel_rfl) (by kernel_rfl) (fun _ _ _ h => h) (Or.inl ⟨by rfl, ?_⟩) (cmd_at (ex_below HT0.out b6)) ?_
  case refine_2 => (intro w1 hS1; obtain ⟨a0, a1, a2, a3, a4, a5, a6, a7, a8, a9, a10, a11, a12⟩ := hS1; go_simp; try with_reducible rfl)
  try simp only [List.getElem_toArray, List.getElem_cons_zero, List.getElem_cons_succ, Act.put, List.setIfInBounds_toArray, List.set_cons_zero, List.set_cons_succ]
  refine wpAnyH_done (by kernel_rfl) ?_ _
  have HB6 := Lib.hid (HB0.out.trans (b6.mono HB0.out.size))
  have HT6 := Lib.hid (ex_below HT0.out b6)
  clear b5 b6 HT0 HB0 HSM HKP h0'
  obtain ⟨q0, q1, q2, q3, q4, q5, q6, q7, q8, q9, q10, q11, q12⟩ := cmd_at HT6.out
  cases eq
  · go_wp2_with fail
    go_ret
    exact ⟨rfl, HB6.out⟩
  by_cases g0 : 0 ≤ cn
  · have eg : decide (0 ≤ cn) = true := decide_eq_true g0
    go_wp2_with fail
    go_ret
    exact ⟨by simp [g0], HB6.out⟩
  · have eg : decide (0 ≤ cn) = false := decide_eq_false g0
    go_wp2_with fail
    go_ret
    exact ⟨by simp [g0], HB6.out⟩
end Go.Proofs.Ytibjboacjobaoaa

/- Tickets: Sound. -/
import Derived.Test.YtnhaakdjijjinaaTkB
namespace Go.Proofs.Ytnhaakdjijjinaa
open Go.RowKit
def headT (cn lv ge tl : Int) : Bool := rngB cn 0 15 && (rngB lv 0 5 && (rngB tl 0 2147483648 && !decide (1152921504606846976 < ge)))
def runT (ge fr lf du : Int) : Bool := (ge != 0) && (decide (0 ≤ fr) && (decide (1 ≤ lf) && (rngB du 0 1125899906842624 && decide (lf ≤ du - fr))))
def pauT (ge fr lf du : Int) : Bool := (ge == 0) && ((du == 0) && (rngB lf 1 1125899906842624 && rngB fr 0 1125899906842624))
def endT (ge fr lf du : Int) : Bool := (ge == 0) && ((fr == 0) && ((lf == 0) && (du == 0)))
def soundB (cn st lv ge fr lf du tl : Int) : Bool := headT cn lv ge tl && (if st = 1 then runT ge fr lf du else if st = 2 then pauT ge fr lf du else if st = 3 ∨ st = 4 then endT ge fr lf du else false)
set_option maxRecDepth 100000 in
set_option maxHeartbeats 4000000 in
theorem sound_no1 (id cn st lv ge fr lf du tl : Int) (w : World) (y0 : rngB cn 0 15 = false) : Calls Try.prog 45 #[tkV id cn st lv ge fr lf du tl] w fun e w' => e = .returned (.bool false) ∧ Below w.heap.size w w' := by
  have H0 := Lib.hid (fun w => tin_i cn 0 15 _ y0 w)
  clear y0
  obtain ⟨B1, s0, -⟩ := box1 w #[.int .u64 id, .int .i64 cn, .int .i64 st, .int .i64 lv, .int .u64 ge, .int .i64 fr, .int .i64 lf, .int .i64 du, .int .i64 tl] 25
  obtain ⟨c0, c1, c2, c3, c4, c5, c6, c7, c8⟩ := nine_at s0
  have HB := Lib.hid B1
  unfold tkV
  clear B1 s0
  go_enter Try.func45, Try.ntmps45
  go_wp2_with (go_at_call 76; (first | (with_reducible refine (H0.out _).mono ?_)); rintro e w' ⟨rfl, rfl⟩)
  go_ret
  exact ⟨rfl, HB.out⟩
set_option maxRecDepth 100000 in
set_option maxHeartbeats 4000000 in
theorem sound_no2 (id cn st lv ge fr lf du tl : Int) (w : World) (y0 : rngB cn 0 15 = true) (y1 : rngB lv 0 5 = false) : Calls Try.prog 45 #[tkV id cn st lv ge fr lf du tl] w fun e w' => e = .returned (.bool false) ∧ Below w.heap.size w w' := by
  have H0 := Lib.hid (fun w => tin_i cn 0 15 _ y0 w)
  have H1 := Lib.hid (fun w => tin_i lv 0 5 _ y1 w)
  clear y0 y1
  obtain ⟨B1, s0, -⟩ := box1 w #[.int .u64 id, .int .i64 cn, .int .i64 st, .int .i64 lv, .int .u64 ge, .int .i64 fr, .int .i64 lf, .int .i64 du, .int .i64 tl] 25
  obtain ⟨c0, c1, c2, c3, c4, c5, c6, c7, c8⟩ := nine_at s0
  have HB := Lib.hid B1
  unfold tkV
  clear B1 s0
  go_enter Try.func45, Try.ntmps45
  go_wp2_with (go_at_call 76; (first | (with_reducible refine (H0.out _).mono ?_) | (with_reducible refine (H1.out _).mono ?_)); rintro e w' ⟨rfl, rfl⟩)
  go_ret
  exact ⟨rfl, HB.out⟩
set_option maxRecDepth 100000 in
set_option maxHeartbeats 4000000 in
theorem sound_no3 (id cn st lv ge fr lf du tl : Int) (w : World) (y0 : rngB cn 0 15 = true) (y1 : rngB lv 0 5 = true) (y2 : rngB tl 0 2147483648 = false) : Calls Try.prog 45 #[tkV id cn st lv ge fr lf du tl] w fun e w' => e = .returned (.bool false) ∧ Below w.heap.size w w' := by
  have H0 := Lib.hid (fun w => tin_i cn 0 15 _ y0 w)
  have H1 := Lib.hid (fun w => tin_i lv 0 5 _ y1 w)
  have H2 := Lib.hid (fun w => tin_i tl 0 2147483648 _ y2 w)
  clear y0 y1 y2
  obtain ⟨B1, s0, -⟩ := box1 w #[.int .u64 id, .int .i64 cn, .int .i64 st, .int .i64 lv, .int .u64 ge, .int .i64 fr, .int .i64 lf, .int .i64 du, .int .i64 tl] 25
  obtain ⟨c0, c1, c2, c3, c4, c5, c6, c7, c8⟩ := nine_at s0
  have HB := Lib.hid B1
  unfold tkV
  clear B1 s0
  go_enter Try.func45, Try.ntmps45
  go_wp2_with (go_at_call 76; (first | (with_reducible refine (H0.out _).mono ?_) | (with_reducible refine (H1.out _).mono ?_) | (with_reducible refine (H2.out _).mono ?_)); rintro e w' ⟨rfl, rfl⟩)
  go_ret
  exact ⟨rfl, HB.out⟩
set_option maxRecDepth 100000 in
set_option maxHeartbeats 4000000 in
theorem sound_no4 (id cn st lv ge fr lf du tl : Int) (w : World) (y0 : rngB cn 0 15 = true) (y1 : rngB lv 0 5 = true) (y2 : rngB tl 0 2147483648 = true) (y3 : decide (1152921504606846976 < ge) = true) : Calls Try.prog 45 #[tkV id cn st lv ge fr lf du tl] w fun e w' => e = .returned (.bool false) ∧ Below w.heap.size w w' := by
  have H0 := Lib.hid (fun w => tin_i cn 0 15 _ y0 w)
  have H1 := Lib.hid (fun w => tin_i lv 0 5 _ y1 w)
  have H2 := Lib.hid (fun w => tin_i tl 0 2147483648 _ y2 w)
  clear y0 y1 y2
  obtain ⟨B1, s0, -⟩ := box1 w #[.int .u64 id, .int .i64 cn, .int .i64 st, .int .i64 lv, .int .u64 ge, .int .i64 fr, .int .i64 lf, .int .i64 du, .int .i64 tl] 25
  obtain ⟨c0, c1, c2, c3, c4, c5, c6, c7, c8⟩ := nine_at s0
  have HB := Lib.hid B1
  unfold tkV
  clear B1 s0
  go_enter Try.func45, Try.ntmps45
  go_wp2_with (go_at_call 76; (first | (with_reducible refine (H0.out _).mono ?_) | (with_reducible refine (H1.out _).mono ?_) | (with_reducible refine (H2.out _).mono ?_)); rintro e w' ⟨rfl, rfl⟩)
  go_ret
  exact ⟨rfl, HB.out⟩
set_option maxRecDepth 100000 in
set_option maxHeartbeats 4000000 in
theorem sound_1 (id cn lv ge fr lf du tl : Int) (w : World) (hfr : fr ≤ 9223372036854775807) (y0 : rngB cn 0 15 = true) (y1 : rngB lv 0 5 = true) (y2 : rngB tl 0 2147483648 = true) (y3 : decide (1152921504606846976 < ge) = false) : Calls Try.prog 45 #[tkV id cn 1 lv ge fr lf du tl] w fun e w' => e = .returned (.bool (runT ge fr lf du)) ∧ Below w.heap.size w w' := by
  have H0 := Lib.hid (fun w => tin_i cn 0 15 _ y0 w)
  have H1 := Lib.hid (fun w => tin_i lv 0 5 _ y1 w)
  have H2 := Lib.hid (fun w => tin_i tl 0 2147483648 _ y2 w)
  clear y0 y1 y2
  obtain ⟨z0, e0⟩ : ∃ x, (ge != 0) = x := ⟨_, rfl⟩
  obtain ⟨z1, e1⟩ : ∃ x, decide (0 ≤ fr) = x := ⟨_, rfl⟩
  obtain ⟨z2, e2⟩ : ∃ x, decide (1 ≤ lf) = x := ⟨_, rfl⟩
  obtain ⟨z3, e3⟩ : ∃ x, rngB du 0 1125899906842624 = x := ⟨_, rfl⟩
  obtain ⟨z4, e4⟩ : ∃ x, decide (lf ≤ du - fr) = x := ⟨_, rfl⟩
  have HR : Hid (runT ge fr lf du = (z0 && (z1 && (z2 && (z3 && z4))))) := Lib.hid (by unfold runT; rw [e0, e1, e2, e3, e4])
  have G0 := Lib.hid (fun w => tin_l du 0 1125899906842624 z3 e3 w)
  have G1 := G0
  have HW : Hid (z1 = true → z3 = true → fr ≤ 9223372036854775807 → IntKind.i64.wrap (du - fr) = du - fr) := Lib.hid (fun h1 h3 hf => by
    subst h1 h3
    have h1 := of_decide_eq_true e1
    have h3 := rngB_iff.1 e3
    exact IntWalk.i64_in _ (by omega))
  clear e3
  cases z0
  case false =>
    obtain ⟨B1, s0, -⟩ := box1 w #[.int .u64 id, .int .i64 cn, .int .i64 1, .int .i64 lv, .int .u64 ge, .int .i64 fr, .int .i64 lf, .int .i64 du, .int .i64 tl] 25
    obtain ⟨c0, c1, c2, c3, c4, c5, c6, c7, c8⟩ := nine_at s0
    have HB := Lib.hid B1
    unfold tkV
    clear B1 s0
    go_enter Try.func45, Try.ntmps45
    go_wp2_with (first | (go_at_call 76; (first | (with_reducible refine (H0.out _).mono ?_) | (with_reducible refine (H1.out _).mono ?_) | (with_reducible refine (H2.out _).mono ?_)); rintro e w' ⟨rfl, rfl⟩) | (go_at_call 77; (first | (with_reducible refine (G0.out _).mono ?_) | (with_reducible refine (G1.out _).mono ?_)); rintro e w' ⟨rfl, rfl⟩))
    go_ret
    exact ⟨by rw [HR.out]; rfl, HB.out⟩
  cases z1
  case false =>
    obtain ⟨B1, s0, -⟩ := box1 w #[.int .u64 id, .int .i64 cn, .int .i64 1, .int .i64 lv, .int .u64 ge, .int .i64 fr, .int .i64 lf, .int .i64 du, .int .i64 tl] 25
    obtain ⟨c0, c1, c2, c3, c4, c5, c6, c7, c8⟩ := nine_at s0
    have HB := Lib.hid B1
    unfold tkV
    clear B1 s0
    go_enter Try.func45, Try.ntmps45
    go_wp2_with (first | (go_at_call 76; (first | (with_reducible refine (H0.out _).mono ?_) | (with_reducible refine (H1.out _).mono ?_) | (with_reducible refine (H2.out _).mono ?_)); rintro e w' ⟨rfl, rfl⟩) | (go_at_call 77; (first | (with_reducible refine (G0.out _).mono ?_) | (with_reducible refine (G1.out _).mono ?_)); rintro e w' ⟨rfl, rfl⟩))
    go_ret
    exact ⟨by rw [HR.out]; rfl, HB.out⟩
  cases z2
  case false =>
    obtain ⟨B1, s0, -⟩ := box1 w #[.int .u64 id, .int .i64 cn, .int .i64 1, .int .i64 lv, .int .u64 ge, .int .i64 fr, .int .i64 lf, .int .i64 du, .int .i64 tl] 25
    obtain ⟨c0, c1, c2, c3, c4, c5, c6, c7, c8⟩ := nine_at s0
    have HB := Lib.hid B1
    unfold tkV
    clear B1 s0
    go_enter Try.func45, Try.ntmps45
    go_wp2_with (first | (go_at_call 76; (first | (with_reducible refine (H0.out _).mono ?_) | (with_reducible refine (H1.out _).mono ?_) | (with_reducible refine (H2.out _).mono ?_)); rintro e w' ⟨rfl, rfl⟩) | (go_at_call 77; (first | (with_reducible refine (G0.out _).mono ?_) | (with_reducible refine (G1.out _).mono ?_)); rintro e w' ⟨rfl, rfl⟩))
    go_ret
    exact ⟨by rw [HR.out]; rfl, HB.out⟩
  cases z3
  case false =>
    obtain ⟨B1, s0, -⟩ := box1 w #[.int .u64 id, .int .i64 cn, .int .i64 1, .int .i64 lv, .int .u64 ge, .int .i64 fr, .int .i64 lf, .int .i64 du, .int .i64 tl] 25
    obtain ⟨c0, c1, c2, c3, c4, c5, c6, c7, c8⟩ := nine_at s0
    have HB := Lib.hid B1
    unfold tkV
    clear B1 s0
    go_enter Try.func45, Try.ntmps45
    go_wp2_with (first | (go_at_call 76; (first | (with_reducible refine (H0.out _).mono ?_) | (with_reducible refine (H1.out _).mono ?_) | (with_reducible refine (H2.out _).mono ?_)); rintro e w' ⟨rfl, rfl⟩) | (go_at_call 77; (first | (with_reducible refine (G0.out _).mono ?_) | (with_reducible refine (G1.out _).mono ?_)); rintro e w' ⟨rfl, rfl⟩))
    go_ret
    exact ⟨by rw [HR.out]; rfl, HB.out⟩
  have hw := HW.out rfl rfl hfr
  cases z4
  all_goals
    obtain ⟨B1, s0, -⟩ := box1 w #[.int .u64 id, .int .i64 cn, .int .i64 1, .int .i64 lv, .int .u64 ge, .int .i64 fr, .int .i64 lf, .int .i64 du, .int .i64 tl] 25
    obtain ⟨c0, c1, c2, c3, c4, c5, c6, c7, c8⟩ := nine_at s0
    have HB := Lib.hid B1
    unfold tkV
    clear B1 s0
    go_enter Try.func45, Try.ntmps45
    go_wp2_with (first | (go_at_call 76; (first | (with_reducible refine (H0.out _).mono ?_) | (with_reducible refine (H1.out _).mono ?_) | (with_reducible refine (H2.out _).mono ?_)); rintro e w' ⟨rfl, rfl⟩) | (go_at_call 77; (first | (with_reducible refine (G0.out _).mono ?_) | (with_reducible refine (G1.out _).mono ?_)); rintro e w' ⟨rfl, rfl⟩))
    go_ret
    exact ⟨by rw [HR.out]; rfl, HB.out⟩
set_option maxRecDepth 100000 in
set_option maxHeartbeats 4000000 in
theorem sound_2 (id cn lv ge fr lf du tl : Int) (w : World) (y0 : rngB cn 0 15 = true) (y1 : rngB lv 0 5 = true) (y2 : rngB tl 0 2147483648 = true) (y3 : decide (1152921504606846976 < ge) = false) : Calls Try.prog 45 #[tkV id cn 2 lv ge fr lf du tl] w fun e w' => e = .returned (.bool (pauT ge fr lf du)) ∧ Below w.heap.size w w' := by
  have H0 := Lib.hid (fun w => tin_i cn 0 15 _ y0 w)
  have H1 := Lib.hid (fun w => tin_i lv 0 5 _ y1 w)
  have H2 := Lib.hid (fun w => tin_i tl 0 2147483648 _ y2 w)
  clear y0 y1 y2
  obtain ⟨z0, e0⟩ : ∃ x, (ge == 0) = x := ⟨_, rfl⟩
  obtain ⟨z1, e1⟩ : ∃ x, (du == 0) = x := ⟨_, rfl⟩
  obtain ⟨z2, e2⟩ : ∃ x, rngB lf 1 1125899906842624 = x := ⟨_, rfl⟩
  obtain ⟨z3, e3⟩ : ∃ x, rngB fr 0 1125899906842624 = x := ⟨_, rfl⟩
  have HR : Hid (pauT ge fr lf du = (z0 && (z1 && (z2 && z3)))) := Lib.hid (by unfold pauT; rw [e0, e1, e2, e3])
  have G0 := Lib.hid (fun w => tin_l lf 1 1125899906842624 z2 e2 w)
  have G1 := Lib.hid (fun w => tin_l fr 0 1125899906842624 z3 e3 w)
  clear e2 e3
  cases z0
  case false =>
    obtain ⟨B1, s0, -⟩ := box1 w #[.int .u64 id, .int .i64 cn, .int .i64 2, .int .i64 lv, .int .u64 ge, .int .i64 fr, .int .i64 lf, .int .i64 du, .int .i64 tl] 25
    obtain ⟨c0, c1, c2, c3, c4, c5, c6, c7, c8⟩ := nine_at s0
    have HB := Lib.hid B1
    unfold tkV
    clear B1 s0
    go_enter Try.func45, Try.ntmps45
    go_wp2_with (first | (go_at_call 76; (first | (with_reducible refine (H0.out _).mono ?_) | (with_reducible refine (H1.out _).mono ?_) | (with_reducible refine (H2.out _).mono ?_)); rintro e w' ⟨rfl, rfl⟩) | (go_at_call 77; (first | (with_reducible refine (G0.out _).mono ?_) | (with_reducible refine (G1.out _).mono ?_)); rintro e w' ⟨rfl, rfl⟩))
    go_ret
    exact ⟨by rw [HR.out]; rfl, HB.out⟩
  cases z1
  case false =>
    obtain ⟨B1, s0, -⟩ := box1 w #[.int .u64 id, .int .i64 cn, .int .i64 2, .int .i64 lv, .int .u64 ge, .int .i64 fr, .int .i64 lf, .int .i64 du, .int .i64 tl] 25
    obtain ⟨c0, c1, c2, c3, c4, c5, c6, c7, c8⟩ := nine_at s0
    have HB := Lib.hid B1
    unfold tkV
    clear B1 s0
    go_enter Try.func45, Try.ntmps45
    go_wp2_with (first | (go_at_call 76; (first | (with_reducible refine (H0.out _).mono ?_) | (with_reducible refine (H1.out _).mono ?_) | (with_reducible refine (H2.out _).mono ?_)); rintro e w' ⟨rfl, rfl⟩) | (go_at_call 77; (first | (with_reducible refine (G0.out _).mono ?_) | (with_reducible refine (G1.out _).mono ?_)); rintro e w' ⟨rfl, rfl⟩))
    go_ret
    exact ⟨by rw [HR.out]; rfl, HB.out⟩
  cases z2
  case false =>
    obtain ⟨B1, s0, -⟩ := box1 w #[.int .u64 id, .int .i64 cn, .int .i64 2, .int .i64 lv, .int .u64 ge, .int .i64 fr, .int .i64 lf, .int .i64 du, .int .i64 tl] 25
    obtain ⟨c0, c1, c2, c3, c4, c5, c6, c7, c8⟩ := nine_at s0
    have HB := Lib.hid B1
    unfold tkV
    clear B1 s0
    go_enter Try.func45, Try.ntmps45
    go_wp2_with (first | (go_at_call 76; (first | (with_reducible refine (H0.out _).mono ?_) | (with_reducible refine (H1.out _).mono ?_) | (with_reducible refine (H2.out _).mono ?_)); rintro e w' ⟨rfl, rfl⟩) | (go_at_call 77; (first | (with_reducible refine (G0.out _).mono ?_) | (with_reducible refine (G1.out _).mono ?_)); rintro e w' ⟨rfl, rfl⟩))
    go_ret
    exact ⟨by rw [HR.out]; rfl, HB.out⟩
  cases z3
  all_goals
    obtain ⟨B1, s0, -⟩ := box1 w #[.int .u64 id, .int .i64 cn, .int .i64 2, .int .i64 lv, .int .u64 ge, .int .i64 fr, .int .i64 lf, .int .i64 du, .int .i64 tl] 25
    obtain ⟨c0, c1, c2, c3, c4, c5, c6, c7, c8⟩ := nine_at s0
    have HB := Lib.hid B1
    unfold tkV
    clear B1 s0
    go_enter Try.func45, Try.ntmps45
    go_wp2_with (first | (go_at_call 76; (first | (with_reducible refine (H0.out _).mono ?_) | (with_reducible refine (H1.out _).mono ?_) | (with_reducible refine (H2.out _).mono ?_)); rintro e w' ⟨rfl, rfl⟩) | (go_at_call 77; (first | (with_reducible refine (G0.out _).mono ?_) | (with_reducible refine (G1.out _).mono ?_)); rintro e w' ⟨rfl, rfl⟩))
    go_ret
    exact ⟨by rw [HR.out]; rfl, HB.out⟩
theorem tstep_struct : Try.prog.underlying 117 = some (.struct (Try.prog.fieldsOf 117)) := by kernel_rfl
theorem tstep_held : Try.prog.stoodInHeld 117 = false := by kernel_rfl
theorem tstep_guard : Try.prog.eqGuardType Try.prog.depth 117 = false := by kernel_rfl
theorem guard_tstep (op : BinOp) (x y : Operand) (xs ys : Array Value) (w : World) : (eqGuard op 117 x y (.agg xs) (.agg ys)).run Try.prog w = .ok () w := run_eqGuard_agg w op _ x y xs ys tstep_guard
theorem eq_tstep (l f c d : Int) (w : World) : (Op.equalIn 10000 117 (.agg #[.int .i64 l, .int .i64 f, .int .i64 c, .int .i64 d]) (.agg #[.int .i64 l, .int .i64 0, .int .i64 0, .int .i64 0])).run Try.prog w = .ok ((f == 0) && ((c == 0) && (d == 0))) w := by
  rw [run_equalIn_agg w 9999 _ _ _ tstep_struct tstep_held]
  have h : Try.prog.underlying 2 = some (.int .i64) := Try.underlying2
  have h' : Try.prog.underlying 3 = some (.int .i64) := Try.underlying3
  by_cases h1 : f = 0 <;> by_cases h2 : c = 0 <;> by_cases h3 : d = 0 <;> simp [Op.eqFields, go_sem, h, h', Try.underlying117, h1, h2, h3]
theorem eql_tstep (l f c d : Int) (w : World) : (binOp .eql 117 (.agg #[.int .i64 l, .int .i64 f, .int .i64 c, .int .i64 d]) (.agg #[.int .i64 l, .int .i64 0, .int .i64 0, .int .i64 0])).run Try.prog w = .ok (.bool ((f == 0) && ((c == 0) && (d == 0)))) w := by
  rw [run_eql_struct, eq_tstep]; rfl
set_option maxRecDepth 100000 in
set_option maxHeartbeats 4000000 in
theorem sound_3 (id cn lv ge fr lf du tl : Int) (w : World) (y0 : rngB cn 0 15 = true) (y1 : rngB lv 0 5 = true) (y2 : rngB tl 0 2147483648 = true) (y3 : decide (1152921504606846976 < ge) = false) : Calls Try.prog 45 #[tkV id cn 3 lv ge fr lf du tl] w fun e w' => e = .returned (.bool (endT ge fr lf du)) ∧ Below w.heap.size w w' := by
  have H0 := Lib.hid (fun w => tin_i cn 0 15 _ y0 w)
  have H1 := Lib.hid (fun w => tin_i lv 0 5 _ y1 w)
  have H2 := Lib.hid (fun w => tin_i tl 0 2147483648 _ y2 w)
  clear y0 y1 y2
  obtain ⟨z0, e0⟩ : ∃ x, (ge == 0) = x := ⟨_, rfl⟩
  have HR : Hid (endT ge fr lf du = (z0 && ((fr == 0) && ((lf == 0) && (du == 0))))) := Lib.hid (by unfold endT; rw [e0])
  have HST := Lib.hid (fun (W : World) => tk_step id cn 3 lv ge fr lf du tl W)
  have HEN := Lib.hid (fun (W : World) => tk_ended id cn 3 lv ge fr lf du tl W)
  have q1 := fun (w : World) => eql_tstep lv fr lf du w
  have g1 := guard_tstep .eql
  obtain ⟨zz, ez⟩ : ∃ x, ((fr == 0) && ((lf == 0) && (du == 0))) = x := ⟨_, rfl⟩
  rw [ez] at HR
  simp only [ez] at q1
  clear ez
  obtain ⟨B1, s0, sz⟩ := box1 w #[.int .u64 id, .int .i64 cn, .int .i64 3, .int .i64 lv, .int .u64 ge, .int .i64 fr, .int .i64 lf, .int .i64 du, .int .i64 tl] 25
  obtain ⟨c0, c1, c2, c3, c4, c5, c6, c7, c8⟩ := nine_at s0
  have HB := Lib.hid B1
  have HS := Lib.hid s0
  unfold tkV stepV at *
  clear B1 s0 sz
  cases z0
  case false =>
    go_enter Try.func45, Try.ntmps45
    go_wp2_with (go_at_call 76; (first | (with_reducible refine (H0.out _).mono ?_) | (with_reducible refine (H1.out _).mono ?_) | (with_reducible refine (H2.out _).mono ?_)); rintro e w' ⟨rfl, rfl⟩)
    go_quiet (fail)
    all_goals
      go_wp2_with fail
      go_ret
      exact ⟨by rw [HR.out]; rfl, by first | exact HB.out | exact below_drewN' HB.out _⟩
  case true =>
    go_enter Try.func45, Try.ntmps45
    go_wp2_with (go_at_call 76; (first | (with_reducible refine (H0.out _).mono ?_) | (with_reducible refine (H1.out _).mono ?_) | (with_reducible refine (H2.out _).mono ?_)); rintro e w' ⟨rfl, rfl⟩)
    clear c0 c1 c2 c3 c4 c5 c6 c7 c8
    generalize (w.alloc (.cells #[.int .u64 id, .int .i64 cn, .int .i64 3, .int .i64 lv, .int .u64 ge, .int .i64 fr, .int .i64 lf, .int .i64 du, .int .i64 tl] 25)) = W at HB HS ⊢
    have h0 : W.drew.heap[w.heap.size]? = some (.cells #[.int .u64 id, .int .i64 cn, .int .i64 3, .int .i64 lv, .int .u64 ge, .int .i64 fr, .int .i64 lf, .int .i64 du, .int .i64 tl] 25 (0, 0)) := HS.out
    refine wp_region_held_drew (S := fun w' => w'.heap[w.heap.size]? = some (.cells #[.int .u64 id, .int .i64 cn, .int .i64 3, .int .i64 lv, .int .u64 ge, .int .i64 fr, .int .i64 lf, .int .i64 du, .int .i64 tl] 25 (0, 0))) (by kernel_rfl) h0 (fun hHeld => ?_)
    refine wpAnyH_take (i := 0) (v := ?_) rfl (by kernel_rfl) (by kernel_rfl) (by kernel_rfl) (fun _ _ _ h => h) (Or.inl ⟨by rfl, ?_⟩) (by assumption) ?_
    case refine_2 => (intro w1 hS1; (try dsimp only at hS1); obtain ⟨c0, c1, c2, c3, c4, c5, c6, c7, c8⟩ := nine_at hS1; go_simp; try with_reducible rfl)
    try simp only [List.getElem_toArray, List.getElem_cons_zero, List.getElem_cons_succ, Act.put, List.setIfInBounds_toArray, List.set_cons_zero, List.set_cons_succ]
    refine wpAnyH_take (i := 1) (v := ?_) rfl (by kernel_rfl) (by kernel_rfl) (by kernel_rfl) (fun _ _ _ h => h) (Or.inl ⟨by rfl, ?_⟩) (by assumption) ?_
    case refine_2 => (intro w1 hS1; (try dsimp only at hS1); obtain ⟨c0, c1, c2, c3, c4, c5, c6, c7, c8⟩ := nine_at hS1; go_simp; try with_reducible rfl)
    try simp only [List.getElem_toArray, List.getElem_cons_zero, List.getElem_cons_succ, Act.put, List.setIfInBounds_toArray, List.set_cons_zero, List.set_cons_succ]
    refine wpAnyH_take (i := 2) (v := ?_) rfl (by kernel_rfl) (by kernel_rfl) (by kernel_rfl) (fun _ _ _ h => h) (Or.inl ⟨by rfl, ?_⟩) (by assumption) ?_
    case refine_2 => (intro w1 hS1; (try dsimp only at hS1); obtain ⟨c0, c1, c2, c3, c4, c5, c6, c7, c8⟩ := nine_at hS1; go_simp; try with_reducible rfl)
    try simp only [List.getElem_toArray, List.getElem_cons_zero, List.getElem_cons_succ, Act.put, List.setIfInBounds_toArray, List.set_cons_zero, List.set_cons_succ]
    refine wpAnyH_take (i := 3) (v := ?_) rfl (by kernel_rfl) (by kernel_rfl) (by kernel_rfl) (fun _ _ _ h => h) (Or.inl ⟨by rfl, ?_⟩) (by assumption) ?_
    case refine_2 => (intro w1 hS1; (try dsimp only at hS1); obtain ⟨c0, c1, c2, c3, c4, c5, c6, c7, c8⟩ := nine_at hS1; go_simp; try with_reducible rfl)
    try simp only [List.getElem_toArray, List.getElem_cons_zero, List.getElem_cons_succ, Act.put, List.setIfInBounds_toArray, List.set_cons_zero, List.set_cons_succ]
    refine wpAnyH_take (i := 4) (v := ?_) rfl (by kernel_rfl) (by kernel_rfl) (by kernel_rfl) (fun _ _ _ h => h) (Or.inl ⟨by rfl, ?_⟩) (by assumption) ?_
    case refine_2 => (intro w1 hS1; (try dsimp only at hS1); obtain ⟨c0, c1, c2, c3, c4, c5, c6, c7, c8⟩ := nine_at hS1; go_simp; try with_reducible rfl)
    try simp only [List.getElem_toArray, List.getElem_cons_zero, List.getElem_cons_succ, Act.put, List.setIfInBounds_toArray, List.set_cons_zero, List.set_cons_succ]
    refine wpAnyH_take (i := 6) (v := ?_) rfl (by kernel_rfl) (by kernel_rfl) (by kernel_rfl) (fun _ _ _ h => h) (Or.inl ⟨by rfl, ?_⟩) (by assumption) ?_
    case refine_2 => (intro w1 hS1; (try dsimp only at hS1); obtain ⟨c0, c1, c2, c3, c4, c5, c6, c7, c8⟩ := nine_at hS1; go_simp; try with_reducible rfl)
    try simp only [List.getElem_toArray, List.getElem_cons_zero, List.getElem_cons_succ, Act.put, List.setIfInBounds_toArray, List.set_cons_zero, List.set_cons_succ]
    refine wpAnyH_ready (rs := [5]) (by kernel_rfl) (by simp) ?_
    refine AllReadyH.cons rfl (fun K hK => ?_) AllReadyH.nil
    go_simp
    refine (HST.out _).mono ?_
    rintro e w4 ⟨rfl, hb4⟩
    have HX4 := Lib.hid (ex_below (show W.drew.heap[w.heap.size]? = _ from HS.out) hb4)
    have HB4 := Lib.hid (HB.out.drew.trans (hb4.mono HB.out.size))
    clear hb4
    refine hK.out _ _ (HX4.out) (fun hHeld => ?_)
    clear hK K
    try simp only [List.getElem_toArray, List.getElem_cons_zero, List.getElem_cons_succ, Act.put, List.setIfInBounds_toArray, List.set_cons_zero, List.set_cons_succ]
    refine wpAnyH_ready (rs := [7]) (by kernel_rfl) (by simp) ?_
    refine AllReadyH.cons rfl (fun K hK => ?_) AllReadyH.nil
    go_simp
    refine (HEN.out _).mono ?_
    rintro e w5 ⟨rfl, hb5⟩
    have HX5 := Lib.hid (ex_below HX4.out hb5)
    have HB5 := Lib.hid (HB4.out.trans (hb5.mono HB4.out.size))
    clear hb5
    refine hK.out _ _ (HX5.out) (fun hHeld => ?_)
    clear hK K
    try simp only [List.getElem_toArray, List.getElem_cons_zero, List.getElem_cons_succ, Act.put, List.setIfInBounds_toArray, List.set_cons_zero, List.set_cons_succ]
    refine wpAnyH_take (i := 8) (v := ?_) rfl (by kernel_rfl) (by kernel_rfl) (by kernel_rfl) (fun _ _ _ h => h) (Or.inl ⟨by rfl, ?_⟩) (by assumption) ?_
    case refine_2 => (intro w1 hS1; (try dsimp only at hS1); go_simp; try with_reducible rfl)
    try simp only [List.getElem_toArray, List.getElem_cons_zero, List.getElem_cons_succ, Act.put, List.setIfInBounds_toArray, List.set_cons_zero, List.set_cons_succ]
    refine wpAnyH_take (i := 9) (v := ?_) rfl (by kernel_rfl) (by kernel_rfl) (by kernel_rfl) (fun _ _ _ h => h) (Or.inl ⟨by rfl, ?_⟩) (by assumption) ?_
    case refine_2 => (intro w1 hS1; (try dsimp only at hS1); go_simp; try with_reducible rfl)
    try simp only [List.getElem_toArray, List.getElem_cons_zero, List.getElem_cons_succ, Act.put, List.setIfInBounds_toArray, List.set_cons_zero, List.set_cons_succ]
    refine wpAnyH_take (i := 10) (v := ?_) rfl (by kernel_rfl) (by kernel_rfl) (by kernel_rfl) (fun _ _ _ h => h) (Or.inl ⟨by rfl, ?_⟩) (by assumption) ?_
    case refine_2 => (intro w1 hS1; (try dsimp only at hS1); go_simp; try with_reducible rfl)
    try simp only [List.getElem_toArray, List.getElem_cons_zero, List.getElem_cons_succ, Act.put, List.setIfInBounds_toArray, List.set_cons_zero, List.set_cons_succ]
    refine wpAnyH_done (by kernel_rfl) ?_ _
    go_wp2_with fail
    go_ret
    exact ⟨by rw [HR.out]; rfl, HB5.out⟩
set_option maxRecDepth 100000 in
set_option maxHeartbeats 4000000 in
theorem sound_4 (id cn lv ge fr lf du tl : Int) (w : World) (y0 : rngB cn 0 15 = true) (y1 : rngB lv 0 5 = true) (y2 : rngB tl 0 2147483648 = true) (y3 : decide (1152921504606846976 < ge) = false) : Calls Try.prog 45 #[tkV id cn 4 lv ge fr lf du tl] w fun e w' => e = .returned (.bool (endT ge fr lf du)) ∧ Below w.heap.size w w' := by
  have H0 := Lib.hid (fun w => tin_i cn 0 15 _ y0 w)
  have H1 := Lib.hid (fun w => tin_i lv 0 5 _ y1 w)
  have H2 := Lib.hid (fun w => tin_i tl 0 2147483648 _ y2 w)
  clear y0 y1 y2
  obtain ⟨z0, e0⟩ : ∃ x, (ge == 0) = x := ⟨_, rfl⟩
  have HR : Hid (endT ge fr lf du = (z0 && ((fr == 0) && ((lf == 0) && (du == 0))))) := Lib.hid (by unfold endT; rw [e0])
  have HST := Lib.hid (fun (W : World) => tk_step id cn 4 lv ge fr lf du tl W)
  have HEN := Lib.hid (fun (W : World) => tk_ended id cn 4 lv ge fr lf du tl W)
  have q1 := fun (w : World) => eql_tstep lv fr lf du w
  have g1 := guard_tstep .eql
  obtain ⟨zz, ez⟩ : ∃ x, ((fr == 0) && ((lf == 0) && (du == 0))) = x := ⟨_, rfl⟩
  rw [ez] at HR
  simp only [ez] at q1
  clear ez
  obtain ⟨B1, s0, sz⟩ := box1 w #[.int .u64 id, .int .i64 cn, .int .i64 4, .int .i64 lv, .int .u64 ge, .int .i64 fr, .int .i64 lf, .int .i64 du, .int .i64 tl] 25
  obtain ⟨c0, c1, c2, c3, c4, c5, c6, c7, c8⟩ := nine_at s0
  have HB := Lib.hid B1
  have HS := Lib.hid s0
  unfold tkV stepV at *
  clear B1 s0 sz
  cases z0
  case false =>
    go_enter Try.func45, Try.ntmps45
    go_wp2_with (go_at_call 76; (first | (with_reducible refine (H0.out _).mono ?_) | (with_reducible refine (H1.out _).mono ?_) | (with_reducible refine (H2.out _).mono ?_)); rintro e w' ⟨rfl, rfl⟩)
    go_quiet (fail)
    all_goals
      go_wp2_with fail
      go_ret
      exact ⟨by rw [HR.out]; rfl, by first | exact HB.out | exact below_drewN' HB.out _⟩
  case true =>
    go_enter Try.func45, Try.ntmps45
    go_wp2_with (go_at_call 76; (first | (with_reducible refine (H0.out _).mono ?_) | (with_reducible refine (H1.out _).mono ?_) | (with_reducible refine (H2.out _).mono ?_)); rintro e w' ⟨rfl, rfl⟩)
    clear c0 c1 c2 c3 c4 c5 c6 c7 c8
    generalize (w.alloc (.cells #[.int .u64 id, .int .i64 cn, .int .i64 4, .int .i64 lv, .int .u64 ge, .int .i64 fr, .int .i64 lf, .int .i64 du, .int .i64 tl] 25)) = W at HB HS ⊢
    have h0 : W.drew.heap[w.heap.size]? = some (.cells #[.int .u64 id, .int .i64 cn, .int .i64 4, .int .i64 lv, .int .u64 ge, .int .i64 fr, .int .i64 lf, .int .i64 du, .int .i64 tl] 25 (0, 0)) := HS.out
    refine wp_region_held_drew (S := fun w' => w'.heap[w.heap.size]? = some (.cells #[.int .u64 id, .int .i64 cn, .int .i64 4, .int .i64 lv, .int .u64 ge, .int .i64 fr, .int .i64 lf, .int .i64 du, .int .i64 tl] 25 (0, 0))) (by kernel_rfl) h0 (fun hHeld => ?_)
    refine wpAnyH_take (i := 0) (v := ?_) rfl (by kernel_rfl) (by kernel_rfl) (by kernel_rfl) (fun _ _ _ h => h) (Or.inl ⟨by rfl, ?_⟩) (by assumption) ?_
    case refine_2 => (intro w1 hS1; (try dsimp only at hS1); obtain ⟨c0, c1, c2, c3, c4, c5, c6, c7, c8⟩ := nine_at hS1; go_simp; try with_reducible rfl)
    try simp only [List.getElem_toArray, List.getElem_cons_zero, List.getElem_cons_succ, Act.put, List.setIfInBounds_toArray, List.set_cons_zero, List.set_cons_succ]
    refine wpAnyH_take (i := 1) (v := ?_) rfl (by kernel_rfl) (by kernel_rfl) (by kernel_rfl) (fun _ _ _ h => h) (Or.inl ⟨by rfl, ?_⟩) (by assumption) ?_
    case refine_2 => (intro w1 hS1; (try dsimp only at hS1); obtain ⟨c0, c1, c2, c3, c4, c5, c6, c7, c8⟩ := nine_at hS1; go_simp; try with_reducible rfl)
    try simp only [List.getElem_toArray, List.getElem_cons_zero, List.getElem_cons_succ, Act.put, List.setIfInBounds_toArray, List.set_cons_zero, List.set_cons_succ]
    refine wpAnyH_take (i := 2) (v := ?_) rfl (by kernel_rfl) (by kernel_rfl) (by kernel_rfl) (fun _ _ _ h => h) (Or.inl ⟨by rfl, ?_⟩) (by assumption) ?_
    case refine_2 => (intro w1 hS1; (try dsimp only at hS1); obtain ⟨c0, c1, c2, c3, c4, c5, c6, c7, c8⟩ := nine_at hS1; go_simp; try with_reducible rfl)
    try simp only [List.getElem_toArray, List.getElem_cons_zero, List.getElem_cons_succ, Act.put, List.setIfInBounds_toArray, List.set_cons_zero, List.set_cons_succ]
    refine wpAnyH_take (i := 3) (v := ?_) rfl (by kernel_rfl) (by kernel_rfl) (by kernel_rfl) (fun _ _ _ h => h) (Or.inl ⟨by rfl, ?_⟩) (by assumption) ?_
    case refine_2 => (intro w1 hS1; (try dsimp only at hS1); obtain ⟨c0, c1, c2, c3, c4, c5, c6, c7, c8⟩ := nine_at hS1; go_simp; try with_reducible rfl)
    try simp only [List.getElem_toArray, List.getElem_cons_zero, List.getElem_cons_succ, Act.put, List.setIfInBounds_toArray, List.set_cons_zero, List.set_cons_succ]
    refine wpAnyH_take (i := 4) (v := ?_) rfl (by kernel_rfl) (by kernel_rfl) (by kernel_rfl) (fun _ _ _ h => h) (Or.inl ⟨by rfl, ?_⟩) (by assumption) ?_
    case refine_2 => (intro w1 hS1; (try dsimp only at hS1); obtain ⟨c0, c1, c2, c3, c4, c5, c6, c7, c8⟩ := nine_at hS1; go_simp; try with_reducible rfl)
    try simp only [List.getElem_toArray, List.getElem_cons_zero, List.getElem_cons_succ, Act.put, List.setIfInBounds_toArray, List.set_cons_zero, List.set_cons_succ]
    refine wpAnyH_take (i := 6) (v := ?_) rfl (by kernel_rfl) (by kernel_rfl) (by kernel_rfl) (fun _ _ _ h => h) (Or.inl ⟨by rfl, ?_⟩) (by assumption) ?_
    case refine_2 => (intro w1 hS1; (try dsimp only at hS1); obtain ⟨c0, c1, c2, c3, c4, c5, c6, c7, c8⟩ := nine_at hS1; go_simp; try with_reducible rfl)
    try simp only [List.getElem_toArray, List.getElem_cons_zero, List.getElem_cons_succ, Act.put, List.setIfInBounds_toArray, List.set_cons_zero, List.set_cons_succ]
    refine wpAnyH_ready (rs := [5]) (by kernel_rfl) (by simp) ?_
    refine AllReadyH.cons rfl (fun K hK => ?_) AllReadyH.nil
    go_simp
    refine (HST.out _).mono ?_
    rintro e w4 ⟨rfl, hb4⟩
    have HX4 := Lib.hid (ex_below (show W.drew.heap[w.heap.size]? = _ from HS.out) hb4)
    have HB4 := Lib.hid (HB.out.drew.trans (hb4.mono HB.out.size))
    clear hb4
    refine hK.out _ _ (HX4.out) (fun hHeld => ?_)
    clear hK K
    try simp only [List.getElem_toArray, List.getElem_cons_zero, List.getElem_cons_succ, Act.put, List.setIfInBounds_toArray, List.set_cons_zero, List.set_cons_succ]
    refine wpAnyH_ready (rs := [7]) (by kernel_rfl) (by simp) ?_
    refine AllReadyH.cons rfl (fun K hK => ?_) AllReadyH.nil
    go_simp
    refine (HEN.out _).mono ?_
    rintro e w5 ⟨rfl, hb5⟩
    have HX5 := Lib.hid (ex_below HX4.out hb5)
    have HB5 := Lib.hid (HB4.out.trans (hb5.mono HB4.out.size))
    clear hb5
    refine hK.out _ _ (HX5.out) (fun hHeld => ?_)
    clear hK K
    try simp only [List.getElem_toArray, List.getElem_cons_zero, List.getElem_cons_succ, Act.put, List.setIfInBounds_toArray, List.set_cons_zero, List.set_cons_succ]
    refine wpAnyH_take (i := 8) (v := ?_) rfl (by kernel_rfl) (by kernel_rfl) (by kernel_rfl) (fun _ _ _ h => h) (Or.inl ⟨by rfl, ?_⟩) (by assumption) ?_
    case refine_2 => (intro w1 hS1; (try dsimp only at hS1); go_simp; try with_reducible rfl)
    try simp only [List.getElem_toArray, List.getElem_cons_zero, List.getElem_cons_succ, Act.put, List.setIfInBounds_toArray, List.set_cons_zero, List.set_cons_succ]
    refine wpAnyH_take (i := 9) (v := ?_) rfl (by kernel_rfl) (by kernel_rfl) (by kernel_rfl) (fun _ _ _ h => h) (Or.inl ⟨by rfl, ?_⟩) (by assumption) ?_
    case refine_2 => (intro w1 hS1; (try dsimp only at hS1); go_simp; try with_reducible rfl)
    try simp only [List.getElem_toArray, List.getElem_cons_zero, List.getElem_cons_succ, Act.put, List.setIfInBounds_toArray, List.set_cons_zero, List.set_cons_succ]
    refine wpAnyH_take (i := 10) (v := ?_) rfl (by kernel_rfl) (by kernel_rfl) (by kernel_rfl) (fun _ _ _ h => h) (Or.inl ⟨by rfl, ?_⟩) (by assumption) ?_
    case refine_2 => (intro w1 hS1; (try dsimp only at hS1); go_simp; try with_reducible rfl)
    try simp only [List.getElem_toArray, List.getElem_cons_zero, List.getElem_cons_succ, Act.put, List.setIfInBounds_toArray, List.set_cons_zero, List.set_cons_succ]
    refine wpAnyH_done (by kernel_rfl) ?_ _
    go_wp2_with fail
    go_ret
    exact ⟨by rw [HR.out]; rfl, HB5.out⟩
set_option maxRecDepth 100000 in
set_option maxHeartbeats 4000000 in
theorem sound_0 (id cn st lv ge fr lf du tl : Int) (w : World) (y0 : rngB cn 0 15 = true) (y1 : rngB lv 0 5 = true) (y2 : rngB tl 0 2147483648 = true) (y3 : decide (1152921504606846976 < ge) = false) (d1 : (st == 1) = false) (d2 : (st == 2) = false) (d3 : (st == 3) = false) (d4 : (st == 4) = false) : Calls Try.prog 45 #[tkV id cn st lv ge fr lf du tl] w fun e w' => e = .returned (.bool false) ∧ Below w.heap.size w w' := by
  have H0 := Lib.hid (fun w => tin_i cn 0 15 _ y0 w)
  have H1 := Lib.hid (fun w => tin_i lv 0 5 _ y1 w)
  have H2 := Lib.hid (fun w => tin_i tl 0 2147483648 _ y2 w)
  clear y0 y1 y2
  obtain ⟨B1, s0, -⟩ := box1 w #[.int .u64 id, .int .i64 cn, .int .i64 st, .int .i64 lv, .int .u64 ge, .int .i64 fr, .int .i64 lf, .int .i64 du, .int .i64 tl] 25
  obtain ⟨c0, c1, c2, c3, c4, c5, c6, c7, c8⟩ := nine_at s0
  have HB := Lib.hid B1
  unfold tkV
  clear B1 s0
  go_enter Try.func45, Try.ntmps45
  go_wp2_with (go_at_call 76; (first | (with_reducible refine (H0.out _).mono ?_) | (with_reducible refine (H1.out _).mono ?_) | (with_reducible refine (H2.out _).mono ?_)); rintro e w' ⟨rfl, rfl⟩)
  go_ret
  exact ⟨rfl, HB.out⟩
theorem sound_any (id cn st lv ge fr lf du tl : Int) (w : World) (hfr : fr ≤ 9223372036854775807) : Calls Try.prog 45 #[tkV id cn st lv ge fr lf du tl] w fun e w' => e = .returned (.bool (soundB cn st lv ge fr lf du tl)) ∧ Below w.heap.size w w' := by
  unfold soundB headT
  cases y0 : rngB cn 0 15
  · exact sound_no1 id cn st lv ge fr lf du tl w y0
  cases y1 : rngB lv 0 5
  · exact sound_no2 id cn st lv ge fr lf du tl w y0 y1
  cases y2 : rngB tl 0 2147483648
  · exact sound_no3 id cn st lv ge fr lf du tl w y0 y1 y2
  cases y3 : decide (1152921504606846976 < ge)
  case true => exact sound_no4 id cn st lv ge fr lf du tl w y0 y1 y2 y3
  by_cases h1 : st = 1
  · subst h1
    exact sound_1 id cn lv ge fr lf du tl w hfr y0 y1 y2 y3
  by_cases h2 : st = 2
  · subst h2
    exact sound_2 id cn lv ge fr lf du tl w y0 y1 y2 y3
  by_cases h3 : st = 3
  · subst h3
    exact sound_3 id cn lv ge fr lf du tl w y0 y1 y2 y3
  by_cases h4 : st = 4
  · subst h4
    exact sound_4 id cn lv ge fr lf du tl w y0 y1 y2 y3
  · rw [if_neg h1, if_neg h2, if_neg (by omega)]
    exact sound_0 id cn st lv ge fr lf du tl w y0 y1 y2 y3 (by simpa using h1) (by simpa using h2) (by simpa using h3) (by simpa using h4)
end Go.Proofs.Ytnhaakdjijjinaa

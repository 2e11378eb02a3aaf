/- Tickets: the reference's Sound. -/
import Derived.Test.YtnhaakdjijjinaaTkG
namespace Go.Proofs.Ytnhaakdjijjinaa
open Go.RowKit
set_option maxRecDepth 100000 in
set_option maxHeartbeats 4000000 in
theorem rsound_no0 (id cn st lv ge fr lf du tl : Int) (w : World)  (y0 : decide (cn < 0) = true) : Calls Try.prog 47 #[tkV id cn st lv ge fr lf du tl] w fun e w' => e = .returned (.bool false) ∧ Below w.heap.size w w' := by
  obtain ⟨B1, s0, -⟩ := box1 w #[.int .u64 id, .int .i64 cn, .int .i64 st, .int .i64 lv, .int .u64 ge, .int .i64 fr, .int .i64 lf, .int .i64 du, .int .i64 tl] 25
  obtain ⟨c0, c1, c2, c3, c4, c5, c6, c7, c8⟩ := nine_at s0
  have HB := Lib.hid B1
  unfold tkV
  clear B1 s0
  go_enter Try.func47, Try.ntmps47
  go_wp2_with fail
  go_ret
  exact ⟨rfl, HB.out⟩
set_option maxRecDepth 100000 in
set_option maxHeartbeats 4000000 in
theorem rsound_no1 (id cn st lv ge fr lf du tl : Int) (w : World) (y0 : decide (cn < 0) = false) (y1 : decide (15 < cn) = true) : Calls Try.prog 47 #[tkV id cn st lv ge fr lf du tl] w fun e w' => e = .returned (.bool false) ∧ Below w.heap.size w w' := by
  obtain ⟨B1, s0, -⟩ := box1 w #[.int .u64 id, .int .i64 cn, .int .i64 st, .int .i64 lv, .int .u64 ge, .int .i64 fr, .int .i64 lf, .int .i64 du, .int .i64 tl] 25
  obtain ⟨c0, c1, c2, c3, c4, c5, c6, c7, c8⟩ := nine_at s0
  have HB := Lib.hid B1
  unfold tkV
  clear B1 s0
  go_enter Try.func47, Try.ntmps47
  go_wp2_with fail
  go_ret
  exact ⟨rfl, HB.out⟩
set_option maxRecDepth 100000 in
set_option maxHeartbeats 4000000 in
theorem rsound_no2 (id cn st lv ge fr lf du tl : Int) (w : World) (y0 : decide (cn < 0) = false) (y1 : decide (15 < cn) = false) (y2 : decide (lv < 0) = true) : Calls Try.prog 47 #[tkV id cn st lv ge fr lf du tl] w fun e w' => e = .returned (.bool false) ∧ Below w.heap.size w w' := by
  obtain ⟨B1, s0, -⟩ := box1 w #[.int .u64 id, .int .i64 cn, .int .i64 st, .int .i64 lv, .int .u64 ge, .int .i64 fr, .int .i64 lf, .int .i64 du, .int .i64 tl] 25
  obtain ⟨c0, c1, c2, c3, c4, c5, c6, c7, c8⟩ := nine_at s0
  have HB := Lib.hid B1
  unfold tkV
  clear B1 s0
  go_enter Try.func47, Try.ntmps47
  go_wp2_with fail
  go_ret
  exact ⟨rfl, HB.out⟩
set_option maxRecDepth 100000 in
set_option maxHeartbeats 4000000 in
theorem rsound_no3 (id cn st lv ge fr lf du tl : Int) (w : World) (y0 : decide (cn < 0) = false) (y1 : decide (15 < cn) = false) (y2 : decide (lv < 0) = false) (y3 : decide (5 < lv) = true) : Calls Try.prog 47 #[tkV id cn st lv ge fr lf du tl] w fun e w' => e = .returned (.bool false) ∧ Below w.heap.size w w' := by
  obtain ⟨B1, s0, -⟩ := box1 w #[.int .u64 id, .int .i64 cn, .int .i64 st, .int .i64 lv, .int .u64 ge, .int .i64 fr, .int .i64 lf, .int .i64 du, .int .i64 tl] 25
  obtain ⟨c0, c1, c2, c3, c4, c5, c6, c7, c8⟩ := nine_at s0
  have HB := Lib.hid B1
  unfold tkV
  clear B1 s0
  go_enter Try.func47, Try.ntmps47
  go_wp2_with fail
  go_ret
  exact ⟨rfl, HB.out⟩
set_option maxRecDepth 100000 in
set_option maxHeartbeats 4000000 in
theorem rsound_no4 (id cn st lv ge fr lf du tl : Int) (w : World) (y0 : decide (cn < 0) = false) (y1 : decide (15 < cn) = false) (y2 : decide (lv < 0) = false) (y3 : decide (5 < lv) = false) (y4 : decide (tl < 0) = true) : Calls Try.prog 47 #[tkV id cn st lv ge fr lf du tl] w fun e w' => e = .returned (.bool false) ∧ Below w.heap.size w w' := by
  obtain ⟨B1, s0, -⟩ := box1 w #[.int .u64 id, .int .i64 cn, .int .i64 st, .int .i64 lv, .int .u64 ge, .int .i64 fr, .int .i64 lf, .int .i64 du, .int .i64 tl] 25
  obtain ⟨c0, c1, c2, c3, c4, c5, c6, c7, c8⟩ := nine_at s0
  have HB := Lib.hid B1
  unfold tkV
  clear B1 s0
  go_enter Try.func47, Try.ntmps47
  go_wp2_with fail
  go_ret
  exact ⟨rfl, HB.out⟩
set_option maxRecDepth 100000 in
set_option maxHeartbeats 4000000 in
theorem rsound_no5 (id cn st lv ge fr lf du tl : Int) (w : World) (y0 : decide (cn < 0) = false) (y1 : decide (15 < cn) = false) (y2 : decide (lv < 0) = false) (y3 : decide (5 < lv) = false) (y4 : decide (tl < 0) = false) (y5 : decide (2147483648 < tl) = true) : Calls Try.prog 47 #[tkV id cn st lv ge fr lf du tl] w fun e w' => e = .returned (.bool false) ∧ Below w.heap.size w w' := by
  obtain ⟨B1, s0, -⟩ := box1 w #[.int .u64 id, .int .i64 cn, .int .i64 st, .int .i64 lv, .int .u64 ge, .int .i64 fr, .int .i64 lf, .int .i64 du, .int .i64 tl] 25
  obtain ⟨c0, c1, c2, c3, c4, c5, c6, c7, c8⟩ := nine_at s0
  have HB := Lib.hid B1
  unfold tkV
  clear B1 s0
  go_enter Try.func47, Try.ntmps47
  go_wp2_with fail
  go_ret
  exact ⟨rfl, HB.out⟩
set_option maxRecDepth 100000 in
set_option maxHeartbeats 4000000 in
theorem rsound_no6 (id cn st lv ge fr lf du tl : Int) (w : World) (y0 : decide (cn < 0) = false) (y1 : decide (15 < cn) = false) (y2 : decide (lv < 0) = false) (y3 : decide (5 < lv) = false) (y4 : decide (tl < 0) = false) (y5 : decide (2147483648 < tl) = false) (y6 : decide (1152921504606846976 < ge) = true) : Calls Try.prog 47 #[tkV id cn st lv ge fr lf du tl] w fun e w' => e = .returned (.bool false) ∧ Below w.heap.size w w' := by
  obtain ⟨B1, s0, -⟩ := box1 w #[.int .u64 id, .int .i64 cn, .int .i64 st, .int .i64 lv, .int .u64 ge, .int .i64 fr, .int .i64 lf, .int .i64 du, .int .i64 tl] 25
  obtain ⟨c0, c1, c2, c3, c4, c5, c6, c7, c8⟩ := nine_at s0
  have HB := Lib.hid B1
  unfold tkV
  clear B1 s0
  go_enter Try.func47, Try.ntmps47
  go_wp2_with fail
  go_ret
  exact ⟨rfl, HB.out⟩
set_option maxRecDepth 100000 in
set_option maxHeartbeats 4000000 in
theorem rsound_1 (id cn lv ge fr lf du tl : Int) (w : World) (y0 : decide (cn < 0) = false) (y1 : decide (15 < cn) = false) (y2 : decide (lv < 0) = false) (y3 : decide (5 < lv) = false) (y4 : decide (tl < 0) = false) (y5 : decide (2147483648 < tl) = false) (y6 : decide (1152921504606846976 < ge) = false) : Calls Try.prog 47 #[tkV id cn 1 lv ge fr lf du tl] w fun e w' => e = .returned (.bool (runT ge fr lf du)) ∧ Below w.heap.size w w' := by
  obtain ⟨z0, e0⟩ : ∃ x, (ge != 0) = x := ⟨_, rfl⟩
  obtain ⟨z1, e1⟩ : ∃ x, decide (1 ≤ lf) = x := ⟨_, rfl⟩
  obtain ⟨z2, e2⟩ : ∃ x, decide (0 ≤ fr) = x := ⟨_, rfl⟩
  obtain ⟨z3, e3⟩ : ∃ x, decide (du ≤ 1125899906842624) = x := ⟨_, rfl⟩
  obtain ⟨z4, e4⟩ : ∃ x, decide (fr ≤ du) = x := ⟨_, rfl⟩
  obtain ⟨z5, e5⟩ : ∃ x, decide (lf ≤ du - fr) = x := ⟨_, rfl⟩
  have HR : Hid (runT ge fr lf du = (z0 && (z1 && (z2 && (z3 && (z4 && (z5))))))) := Lib.hid (by
    rw [← e0, ← e1, ← e2, ← e3, ← e4, ← e5, Bool.eq_iff_iff]
    simp only [runT, rngB, Bool.and_eq_true, bne_iff_ne, beq_iff_eq, decide_eq_true_eq, ne_eq]
    omega)
  have HW : Hid (z2 = true → z3 = true → z4 = true → IntKind.i64.wrap (du - fr) = du - fr) := Lib.hid (fun h1 h3 h4 => by
    subst h1 h3 h4
    have h1 := of_decide_eq_true e2
    have h3 := of_decide_eq_true e3
    have h4 := of_decide_eq_true e4
    exact IntWalk.i64_in _ (by omega))
  cases z0
  case false =>
    obtain ⟨B1, s0, -⟩ := box1 w #[.int .u64 id, .int .i64 cn, .int .i64 1, .int .i64 lv, .int .u64 ge, .int .i64 fr, .int .i64 lf, .int .i64 du, .int .i64 tl] 25
    obtain ⟨c0, c1, c2, c3, c4, c5, c6, c7, c8⟩ := nine_at s0
    have HB := Lib.hid B1
    unfold tkV
    clear B1 s0
    go_enter Try.func47, Try.ntmps47
    go_wp2_with fail
    go_ret
    exact ⟨by rw [HR.out]; rfl, HB.out⟩
  cases z1
  case false =>
    obtain ⟨B1, s0, -⟩ := box1 w #[.int .u64 id, .int .i64 cn, .int .i64 1, .int .i64 lv, .int .u64 ge, .int .i64 fr, .int .i64 lf, .int .i64 du, .int .i64 tl] 25
    obtain ⟨c0, c1, c2, c3, c4, c5, c6, c7, c8⟩ := nine_at s0
    have HB := Lib.hid B1
    unfold tkV
    clear B1 s0
    go_enter Try.func47, Try.ntmps47
    go_wp2_with fail
    go_ret
    exact ⟨by rw [HR.out]; rfl, HB.out⟩
  cases z2
  case false =>
    obtain ⟨B1, s0, -⟩ := box1 w #[.int .u64 id, .int .i64 cn, .int .i64 1, .int .i64 lv, .int .u64 ge, .int .i64 fr, .int .i64 lf, .int .i64 du, .int .i64 tl] 25
    obtain ⟨c0, c1, c2, c3, c4, c5, c6, c7, c8⟩ := nine_at s0
    have HB := Lib.hid B1
    unfold tkV
    clear B1 s0
    go_enter Try.func47, Try.ntmps47
    go_wp2_with fail
    go_ret
    exact ⟨by rw [HR.out]; rfl, HB.out⟩
  cases z3
  case false =>
    obtain ⟨B1, s0, -⟩ := box1 w #[.int .u64 id, .int .i64 cn, .int .i64 1, .int .i64 lv, .int .u64 ge, .int .i64 fr, .int .i64 lf, .int .i64 du, .int .i64 tl] 25
    obtain ⟨c0, c1, c2, c3, c4, c5, c6, c7, c8⟩ := nine_at s0
    have HB := Lib.hid B1
    unfold tkV
    clear B1 s0
    go_enter Try.func47, Try.ntmps47
    go_wp2_with fail
    go_ret
    exact ⟨by rw [HR.out]; rfl, HB.out⟩
  cases z4
  case false =>
    obtain ⟨B1, s0, -⟩ := box1 w #[.int .u64 id, .int .i64 cn, .int .i64 1, .int .i64 lv, .int .u64 ge, .int .i64 fr, .int .i64 lf, .int .i64 du, .int .i64 tl] 25
    obtain ⟨c0, c1, c2, c3, c4, c5, c6, c7, c8⟩ := nine_at s0
    have HB := Lib.hid B1
    unfold tkV
    clear B1 s0
    go_enter Try.func47, Try.ntmps47
    go_wp2_with fail
    go_ret
    exact ⟨by rw [HR.out]; rfl, HB.out⟩
  have hw := HW.out rfl rfl rfl
  cases z5
  all_goals
    obtain ⟨B1, s0, -⟩ := box1 w #[.int .u64 id, .int .i64 cn, .int .i64 1, .int .i64 lv, .int .u64 ge, .int .i64 fr, .int .i64 lf, .int .i64 du, .int .i64 tl] 25
    obtain ⟨c0, c1, c2, c3, c4, c5, c6, c7, c8⟩ := nine_at s0
    have HB := Lib.hid B1
    unfold tkV
    clear B1 s0
    go_enter Try.func47, Try.ntmps47
    go_wp2_with fail
    go_ret
    exact ⟨by rw [HR.out]; rfl, HB.out⟩
set_option maxRecDepth 100000 in
set_option maxHeartbeats 4000000 in
theorem rsound_2 (id cn lv ge fr lf du tl : Int) (w : World) (y0 : decide (cn < 0) = false) (y1 : decide (15 < cn) = false) (y2 : decide (lv < 0) = false) (y3 : decide (5 < lv) = false) (y4 : decide (tl < 0) = false) (y5 : decide (2147483648 < tl) = false) (y6 : decide (1152921504606846976 < ge) = false) : Calls Try.prog 47 #[tkV id cn 2 lv ge fr lf du tl] w fun e w' => e = .returned (.bool (pauT ge fr lf du)) ∧ Below w.heap.size w w' := by
  obtain ⟨z0, e0⟩ : ∃ x, (ge == 0) = x := ⟨_, rfl⟩
  obtain ⟨z1, e1⟩ : ∃ x, (du == 0) = x := ⟨_, rfl⟩
  obtain ⟨z2, e2⟩ : ∃ x, decide (1 ≤ lf) = x := ⟨_, rfl⟩
  obtain ⟨z3, e3⟩ : ∃ x, decide (lf ≤ 1125899906842624) = x := ⟨_, rfl⟩
  obtain ⟨z4, e4⟩ : ∃ x, decide (0 ≤ fr) = x := ⟨_, rfl⟩
  obtain ⟨z5, e5⟩ : ∃ x, decide (fr ≤ 1125899906842624) = x := ⟨_, rfl⟩
  have HR : Hid (pauT ge fr lf du = (z0 && (z1 && (z2 && (z3 && (z4 && (z5))))))) := Lib.hid (by
    rw [← e0, ← e1, ← e2, ← e3, ← e4, ← e5, Bool.eq_iff_iff]
    simp only [pauT, rngB, Bool.and_eq_true, bne_iff_ne, beq_iff_eq, decide_eq_true_eq, ne_eq]
    omega)
  cases z0
  case false =>
    obtain ⟨B1, s0, -⟩ := box1 w #[.int .u64 id, .int .i64 cn, .int .i64 2, .int .i64 lv, .int .u64 ge, .int .i64 fr, .int .i64 lf, .int .i64 du, .int .i64 tl] 25
    obtain ⟨c0, c1, c2, c3, c4, c5, c6, c7, c8⟩ := nine_at s0
    have HB := Lib.hid B1
    unfold tkV
    clear B1 s0
    go_enter Try.func47, Try.ntmps47
    go_wp2_with fail
    go_ret
    exact ⟨by rw [HR.out]; rfl, HB.out⟩
  cases z1
  case false =>
    obtain ⟨B1, s0, -⟩ := box1 w #[.int .u64 id, .int .i64 cn, .int .i64 2, .int .i64 lv, .int .u64 ge, .int .i64 fr, .int .i64 lf, .int .i64 du, .int .i64 tl] 25
    obtain ⟨c0, c1, c2, c3, c4, c5, c6, c7, c8⟩ := nine_at s0
    have HB := Lib.hid B1
    unfold tkV
    clear B1 s0
    go_enter Try.func47, Try.ntmps47
    go_wp2_with fail
    go_ret
    exact ⟨by rw [HR.out]; rfl, HB.out⟩
  cases z2
  case false =>
    obtain ⟨B1, s0, -⟩ := box1 w #[.int .u64 id, .int .i64 cn, .int .i64 2, .int .i64 lv, .int .u64 ge, .int .i64 fr, .int .i64 lf, .int .i64 du, .int .i64 tl] 25
    obtain ⟨c0, c1, c2, c3, c4, c5, c6, c7, c8⟩ := nine_at s0
    have HB := Lib.hid B1
    unfold tkV
    clear B1 s0
    go_enter Try.func47, Try.ntmps47
    go_wp2_with fail
    go_ret
    exact ⟨by rw [HR.out]; rfl, HB.out⟩
  cases z3
  case false =>
    obtain ⟨B1, s0, -⟩ := box1 w #[.int .u64 id, .int .i64 cn, .int .i64 2, .int .i64 lv, .int .u64 ge, .int .i64 fr, .int .i64 lf, .int .i64 du, .int .i64 tl] 25
    obtain ⟨c0, c1, c2, c3, c4, c5, c6, c7, c8⟩ := nine_at s0
    have HB := Lib.hid B1
    unfold tkV
    clear B1 s0
    go_enter Try.func47, Try.ntmps47
    go_wp2_with fail
    go_ret
    exact ⟨by rw [HR.out]; rfl, HB.out⟩
  cases z4
  case false =>
    obtain ⟨B1, s0, -⟩ := box1 w #[.int .u64 id, .int .i64 cn, .int .i64 2, .int .i64 lv, .int .u64 ge, .int .i64 fr, .int .i64 lf, .int .i64 du, .int .i64 tl] 25
    obtain ⟨c0, c1, c2, c3, c4, c5, c6, c7, c8⟩ := nine_at s0
    have HB := Lib.hid B1
    unfold tkV
    clear B1 s0
    go_enter Try.func47, Try.ntmps47
    go_wp2_with fail
    go_ret
    exact ⟨by rw [HR.out]; rfl, HB.out⟩
  cases z5
  all_goals
    obtain ⟨B1, s0, -⟩ := box1 w #[.int .u64 id, .int .i64 cn, .int .i64 2, .int .i64 lv, .int .u64 ge, .int .i64 fr, .int .i64 lf, .int .i64 du, .int .i64 tl] 25
    obtain ⟨c0, c1, c2, c3, c4, c5, c6, c7, c8⟩ := nine_at s0
    have HB := Lib.hid B1
    unfold tkV
    clear B1 s0
    go_enter Try.func47, Try.ntmps47
    go_wp2_with fail
    go_ret
    exact ⟨by rw [HR.out]; rfl, HB.out⟩
set_option maxRecDepth 100000 in
set_option maxHeartbeats 4000000 in
theorem rsound_3 (id cn lv ge fr lf du tl : Int) (w : World) (y0 : decide (cn < 0) = false) (y1 : decide (15 < cn) = false) (y2 : decide (lv < 0) = false) (y3 : decide (5 < lv) = false) (y4 : decide (tl < 0) = false) (y5 : decide (2147483648 < tl) = false) (y6 : decide (1152921504606846976 < ge) = false) : Calls Try.prog 47 #[tkV id cn 3 lv ge fr lf du tl] w fun e w' => e = .returned (.bool (endT ge fr lf du)) ∧ Below w.heap.size w w' := by
  obtain ⟨z0, e0⟩ : ∃ x, (ge == 0) = x := ⟨_, rfl⟩
  obtain ⟨z1, e1⟩ : ∃ x, (fr == 0) = x := ⟨_, rfl⟩
  obtain ⟨z2, e2⟩ : ∃ x, (lf == 0) = x := ⟨_, rfl⟩
  obtain ⟨z3, e3⟩ : ∃ x, (du == 0) = x := ⟨_, rfl⟩
  have HR : Hid (endT ge fr lf du = (z0 && (z1 && (z2 && (z3))))) := Lib.hid (by
    rw [← e0, ← e1, ← e2, ← e3, Bool.eq_iff_iff]
    simp only [endT, rngB, Bool.and_eq_true, bne_iff_ne, beq_iff_eq, decide_eq_true_eq, ne_eq]
    try omega)
  cases z0
  case false =>
    obtain ⟨B1, s0, -⟩ := box1 w #[.int .u64 id, .int .i64 cn, .int .i64 3, .int .i64 lv, .int .u64 ge, .int .i64 fr, .int .i64 lf, .int .i64 du, .int .i64 tl] 25
    obtain ⟨c0, c1, c2, c3, c4, c5, c6, c7, c8⟩ := nine_at s0
    have HB := Lib.hid B1
    unfold tkV
    clear B1 s0
    go_enter Try.func47, Try.ntmps47
    go_wp2_with fail
    go_ret
    exact ⟨by rw [HR.out]; rfl, HB.out⟩
  cases z1
  case false =>
    obtain ⟨B1, s0, -⟩ := box1 w #[.int .u64 id, .int .i64 cn, .int .i64 3, .int .i64 lv, .int .u64 ge, .int .i64 fr, .int .i64 lf, .int .i64 du, .int .i64 tl] 25
    obtain ⟨c0, c1, c2, c3, c4, c5, c6, c7, c8⟩ := nine_at s0
    have HB := Lib.hid B1
    unfold tkV
    clear B1 s0
    go_enter Try.func47, Try.ntmps47
    go_wp2_with fail
    go_ret
    exact ⟨by rw [HR.out]; rfl, HB.out⟩
  cases z2
  case false =>
    obtain ⟨B1, s0, -⟩ := box1 w #[.int .u64 id, .int .i64 cn, .int .i64 3, .int .i64 lv, .int .u64 ge, .int .i64 fr, .int .i64 lf, .int .i64 du, .int .i64 tl] 25
    obtain ⟨c0, c1, c2, c3, c4, c5, c6, c7, c8⟩ := nine_at s0
    have HB := Lib.hid B1
    unfold tkV
    clear B1 s0
    go_enter Try.func47, Try.ntmps47
    go_wp2_with fail
    go_ret
    exact ⟨by rw [HR.out]; rfl, HB.out⟩
  cases z3
  all_goals
    obtain ⟨B1, s0, -⟩ := box1 w #[.int .u64 id, .int .i64 cn, .int .i64 3, .int .i64 lv, .int .u64 ge, .int .i64 fr, .int .i64 lf, .int .i64 du, .int .i64 tl] 25
    obtain ⟨c0, c1, c2, c3, c4, c5, c6, c7, c8⟩ := nine_at s0
    have HB := Lib.hid B1
    unfold tkV
    clear B1 s0
    go_enter Try.func47, Try.ntmps47
    go_wp2_with fail
    go_ret
    exact ⟨by rw [HR.out]; rfl, HB.out⟩
set_option maxRecDepth 100000 in
set_option maxHeartbeats 4000000 in
theorem rsound_4 (id cn lv ge fr lf du tl : Int) (w : World) (y0 : decide (cn < 0) = false) (y1 : decide (15 < cn) = false) (y2 : decide (lv < 0) = false) (y3 : decide (5 < lv) = false) (y4 : decide (tl < 0) = false) (y5 : decide (2147483648 < tl) = false) (y6 : decide (1152921504606846976 < ge) = false) : Calls Try.prog 47 #[tkV id cn 4 lv ge fr lf du tl] w fun e w' => e = .returned (.bool (endT ge fr lf du)) ∧ Below w.heap.size w w' := by
  obtain ⟨z0, e0⟩ : ∃ x, (ge == 0) = x := ⟨_, rfl⟩
  obtain ⟨z1, e1⟩ : ∃ x, (fr == 0) = x := ⟨_, rfl⟩
  obtain ⟨z2, e2⟩ : ∃ x, (lf == 0) = x := ⟨_, rfl⟩
  obtain ⟨z3, e3⟩ : ∃ x, (du == 0) = x := ⟨_, rfl⟩
  have HR : Hid (endT ge fr lf du = (z0 && (z1 && (z2 && (z3))))) := Lib.hid (by
    rw [← e0, ← e1, ← e2, ← e3, Bool.eq_iff_iff]
    simp only [endT, rngB, Bool.and_eq_true, bne_iff_ne, beq_iff_eq, decide_eq_true_eq, ne_eq]
    try omega)
  cases z0
  case false =>
    obtain ⟨B1, s0, -⟩ := box1 w #[.int .u64 id, .int .i64 cn, .int .i64 4, .int .i64 lv, .int .u64 ge, .int .i64 fr, .int .i64 lf, .int .i64 du, .int .i64 tl] 25
    obtain ⟨c0, c1, c2, c3, c4, c5, c6, c7, c8⟩ := nine_at s0
    have HB := Lib.hid B1
    unfold tkV
    clear B1 s0
    go_enter Try.func47, Try.ntmps47
    go_wp2_with fail
    go_ret
    exact ⟨by rw [HR.out]; rfl, HB.out⟩
  cases z1
  case false =>
    obtain ⟨B1, s0, -⟩ := box1 w #[.int .u64 id, .int .i64 cn, .int .i64 4, .int .i64 lv, .int .u64 ge, .int .i64 fr, .int .i64 lf, .int .i64 du, .int .i64 tl] 25
    obtain ⟨c0, c1, c2, c3, c4, c5, c6, c7, c8⟩ := nine_at s0
    have HB := Lib.hid B1
    unfold tkV
    clear B1 s0
    go_enter Try.func47, Try.ntmps47
    go_wp2_with fail
    go_ret
    exact ⟨by rw [HR.out]; rfl, HB.out⟩
  cases z2
  case false =>
    obtain ⟨B1, s0, -⟩ := box1 w #[.int .u64 id, .int .i64 cn, .int .i64 4, .int .i64 lv, .int .u64 ge, .int .i64 fr, .int .i64 lf, .int .i64 du, .int .i64 tl] 25
    obtain ⟨c0, c1, c2, c3, c4, c5, c6, c7, c8⟩ := nine_at s0
    have HB := Lib.hid B1
    unfold tkV
    clear B1 s0
    go_enter Try.func47, Try.ntmps47
    go_wp2_with fail
    go_ret
    exact ⟨by rw [HR.out]; rfl, HB.out⟩
  cases z3
  all_goals
    obtain ⟨B1, s0, -⟩ := box1 w #[.int .u64 id, .int .i64 cn, .int .i64 4, .int .i64 lv, .int .u64 ge, .int .i64 fr, .int .i64 lf, .int .i64 du, .int .i64 tl] 25
    obtain ⟨c0, c1, c2, c3, c4, c5, c6, c7, c8⟩ := nine_at s0
    have HB := Lib.hid B1
    unfold tkV
    clear B1 s0
    go_enter Try.func47, Try.ntmps47
    go_wp2_with fail
    go_ret
    exact ⟨by rw [HR.out]; rfl, HB.out⟩
set_option maxRecDepth 100000 in
set_option maxHeartbeats 4000000 in
theorem rsound_0 (id cn st lv ge fr lf du tl : Int) (w : World) (y0 : decide (cn < 0) = false) (y1 : decide (15 < cn) = false) (y2 : decide (lv < 0) = false) (y3 : decide (5 < lv) = false) (y4 : decide (tl < 0) = false) (y5 : decide (2147483648 < tl) = false) (y6 : decide (1152921504606846976 < ge) = false) (d1 : (st == 1) = false) (d2 : (st == 2) = false) (d3 : (st == 3) = false) (d4 : (st == 4) = false) : Calls Try.prog 47 #[tkV id cn st lv ge fr lf du tl] w fun e w' => e = .returned (.bool false) ∧ Below w.heap.size w w' := by
  obtain ⟨B1, s0, -⟩ := box1 w #[.int .u64 id, .int .i64 cn, .int .i64 st, .int .i64 lv, .int .u64 ge, .int .i64 fr, .int .i64 lf, .int .i64 du, .int .i64 tl] 25
  obtain ⟨c0, c1, c2, c3, c4, c5, c6, c7, c8⟩ := nine_at s0
  have HB := Lib.hid B1
  unfold tkV
  clear B1 s0
  go_enter Try.func47, Try.ntmps47
  go_wp2_with fail
  go_ret
  exact ⟨rfl, HB.out⟩
theorem rsound_any (id cn st lv ge fr lf du tl : Int) (w : World) : Calls Try.prog 47 #[tkV id cn st lv ge fr lf du tl] w fun e w' => e = .returned (.bool (soundB cn st lv ge fr lf du tl)) ∧ Below w.heap.size w w' := by
  have hh : headT cn lv ge tl = (!decide (cn < 0) && (!decide (15 < cn) && (!decide (lv < 0) && (!decide (5 < lv) && (!decide (tl < 0) && (!decide (2147483648 < tl) && !decide (1152921504606846976 < ge))))))) := by
    rw [Bool.eq_iff_iff]
    simp only [headT, rngB, Bool.and_eq_true, Bool.not_eq_true', decide_eq_true_eq, decide_eq_false_iff_not]
    omega
  unfold soundB
  rw [hh]
  cases y0 : decide (cn < 0)
  case true => exact rsound_no0 id cn st lv ge fr lf du tl w y0
  cases y1 : decide (15 < cn)
  case true => exact rsound_no1 id cn st lv ge fr lf du tl w y0 y1
  cases y2 : decide (lv < 0)
  case true => exact rsound_no2 id cn st lv ge fr lf du tl w y0 y1 y2
  cases y3 : decide (5 < lv)
  case true => exact rsound_no3 id cn st lv ge fr lf du tl w y0 y1 y2 y3
  cases y4 : decide (tl < 0)
  case true => exact rsound_no4 id cn st lv ge fr lf du tl w y0 y1 y2 y3 y4
  cases y5 : decide (2147483648 < tl)
  case true => exact rsound_no5 id cn st lv ge fr lf du tl w y0 y1 y2 y3 y4 y5
  cases y6 : decide (1152921504606846976 < ge)
  case true => exact rsound_no6 id cn st lv ge fr lf du tl w y0 y1 y2 y3 y4 y5 y6
  by_cases h1 : st = 1
  · subst h1
    exact rsound_1 id cn lv ge fr lf du tl w y0 y1 y2 y3 y4 y5 y6
  by_cases h2 : st = 2
  · subst h2
    exact rsound_2 id cn lv ge fr lf du tl w y0 y1 y2 y3 y4 y5 y6
  by_cases h3 : st = 3
  · subst h3
    exact rsound_3 id cn lv ge fr lf du tl w y0 y1 y2 y3 y4 y5 y6
  by_cases h4 : st = 4
  · subst h4
    exact rsound_4 id cn lv ge fr lf du tl w y0 y1 y2 y3 y4 y5 y6
  · rw [if_neg h1, if_neg h2, if_neg (by omega)]
    exact rsound_0 id cn st lv ge fr lf du tl w y0 y1 y2 y3 y4 y5 y6 (by simpa using h1) (by simpa using h2) (by simpa using h3) (by simpa using h4)
end Go.Proofs.Ytnhaakdjijjinaa

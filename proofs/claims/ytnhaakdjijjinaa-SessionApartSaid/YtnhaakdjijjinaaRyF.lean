/- Replies: Sound, both ways. -/
import Derived.Test.YtnhaakdjijjinaaRyE
namespace Go.Proofs.Ytnhaakdjijjinaa
open Go.RowKit
def repS (cd tm id cn st lv ge fr lf du tl : Int) (n : Nat) (de : Int) : Bool := rngB cd 0 99 && (rngB tm 0 1125899906842624 && ((noT id cn st lv ge fr lf du tl || soundB cn st lv ge fr lf du tl) && (decide (n ≤ 64) && rngB de 0 128)))
set_option maxRecDepth 100000 in
set_option maxHeartbeats 8000000 in
theorem rsound19 (cd tm id cn st lv ge fr lf du tl : Int) (a : Option Addr) (n ca : Nat) (nt de : Int) (w : World) (hfr : fr ≤ 9223372036854775807) : Calls Try.prog 14 #[repV cd tm id cn st lv ge fr lf du tl a n ca nt de] w fun e w' => e = .returned (.bool (repS cd tm id cn st lv ge fr lf du tl n de)) ∧ Below w.heap.size w w' := by
  have HX : Hid (repS cd tm id cn st lv ge fr lf du tl n de = (rngB cd 0 99 && (rngB tm 0 1125899906842624 && ((noT id cn st lv ge fr lf du tl || soundB cn st lv ge fr lf du tl) && (decide (n ≤ 64) && rngB de 0 128))))) := Lib.hid rfl
  obtain ⟨ok, hok⟩ : ∃ x, repS cd tm id cn st lv ge fr lf du tl n de = x := ⟨_, rfl⟩
  rw [hok] at HX ⊢
  have HA : Hid (∀ W, Calls Try.prog 44 #[repV cd tm id cn st lv ge fr lf du tl a n ca nt de] W fun e w' => e = .returned (.bool (!noT id cn st lv ge fr lf du tl)) ∧ Below W.heap.size W w') := Lib.hid (fun W => about_any cd tm id cn st lv ge fr lf du tl a n ca nt de W)
  have HT : Hid (∀ W, Calls Try.prog 45 #[tkV id cn st lv ge fr lf du tl] W fun e w' => e = .returned (.bool (soundB cn st lv ge fr lf du tl)) ∧ Below W.heap.size W w') := Lib.hid (fun W => sound_any id cn st lv ge fr lf du tl W hfr)
  have H1 := Lib.hid (fun W => rin_e cd 0 99 _ rfl W)
  have H2 := Lib.hid (fun W => rin_l tm 0 1125899906842624 _ rfl W)
  have H3 := Lib.hid (fun W => rin_i de 0 128 _ rfl W)
  have hd : decide ((n : Int) ≤ 64) = decide (n ≤ 64) := decide_eq_decide.2 (by omega)
  obtain ⟨z1, e1⟩ : ∃ x, rngB cd 0 99 = x := ⟨_, rfl⟩
  obtain ⟨z2, e2⟩ : ∃ x, rngB tm 0 1125899906842624 = x := ⟨_, rfl⟩
  obtain ⟨z3, e3⟩ : ∃ x, noT id cn st lv ge fr lf du tl = x := ⟨_, rfl⟩
  obtain ⟨z4, e4⟩ : ∃ x, soundB cn st lv ge fr lf du tl = x := ⟨_, rfl⟩
  obtain ⟨z5, e5⟩ : ∃ x, decide (n ≤ 64) = x := ⟨_, rfl⟩
  obtain ⟨z6, e6⟩ : ∃ x, rngB de 0 128 = x := ⟨_, rfl⟩
  rw [e1, e2, e3, e4, e5, e6] at HX
  rw [e1] at H1
  rw [e2] at H2
  rw [e3] at HA
  rw [e4] at HT
  rw [e6] at H3
  rw [e5] at hd
  obtain ⟨B1, s0, -⟩ := box1 w #[.int .i64 cd, .int .i64 tm, .int .u64 id, .int .i64 cn, .int .i64 st, .int .i64 lv, .int .u64 ge, .int .i64 fr, .int .i64 lf, .int .i64 du, .int .i64 tl, .slice a n ca, .int .u64 nt, .int .i64 de] 28
  obtain ⟨q0, q1, q2, q3, q4, q5, q6, q7, q8, q9, q10, q11, q12, q13⟩ := rep_at s0
  have HB := Lib.hid B1
  have HS := Lib.hid s0
  clear B1 s0 hok e1 e2 e3 e4 e5 e6 hfr
  unfold repV at *
  unfold tkV at HT
  cases z1
  case false =>
    go_enter Try.func14, Try.ntmps14
    go_wp2_with fail
    refine (H1.out _).mono ?_
    rintro e w1 ⟨rfl, rfl⟩
    go_wp2_with fail
    go_ret
    exact ⟨by rw [HX.out]; simp, HB.out⟩
  cases z2
  case false =>
    go_enter Try.func14, Try.ntmps14
    go_wp2_with fail
    refine (H1.out _).mono ?_
    rintro e w1 ⟨rfl, rfl⟩
    go_wp2_with fail
    refine (H2.out _).mono ?_
    rintro e w1 ⟨rfl, rfl⟩
    go_wp2_with fail
    go_ret
    exact ⟨by rw [HX.out]; simp, HB.out⟩
  cases z3
  case true =>
    cases z5
    case false =>
      go_enter Try.func14, Try.ntmps14
      go_wp2_with fail
      refine (H1.out _).mono ?_
      rintro e w1 ⟨rfl, rfl⟩
      go_wp2_with fail
      refine (H2.out _).mono ?_
      rintro e w1 ⟨rfl, rfl⟩
      go_wp2_with fail
      refine (HA.out _).mono ?_
      rintro e w3 ⟨rfl, hb⟩
      have HB3 := Lib.hid (HB.out.trans (hb.mono HB.out.size))
      have HS3 := Lib.hid (ex_below HS.out hb)
      clear hb q0 q1 q2 q3 q4 q5 q6 q7 q8 q9 q10 q11 q12 q13
      obtain ⟨q0, q1, q2, q3, q4, q5, q6, q7, q8, q9, q10, q11, q12, q13⟩ := rep_at HS3.out
      go_wp2_with fail
      go_ret
      exact ⟨by rw [HX.out]; simp, HB3.out⟩
    cases z6
    all_goals
      go_enter Try.func14, Try.ntmps14
      go_wp2_with fail
      refine (H1.out _).mono ?_
      rintro e w1 ⟨rfl, rfl⟩
      go_wp2_with fail
      refine (H2.out _).mono ?_
      rintro e w1 ⟨rfl, rfl⟩
      go_wp2_with fail
      refine (HA.out _).mono ?_
      rintro e w3 ⟨rfl, hb⟩
      have HB3 := Lib.hid (HB.out.trans (hb.mono HB.out.size))
      have HS3 := Lib.hid (ex_below HS.out hb)
      clear hb q0 q1 q2 q3 q4 q5 q6 q7 q8 q9 q10 q11 q12 q13
      obtain ⟨q0, q1, q2, q3, q4, q5, q6, q7, q8, q9, q10, q11, q12, q13⟩ := rep_at HS3.out
      go_wp2_with fail
      refine (H3.out _).mono ?_
      rintro e w1 ⟨rfl, rfl⟩
      go_wp2_with fail
      go_ret
      exact ⟨by rw [HX.out]; simp, HB3.out⟩
  cases z4
  case false =>
    go_enter Try.func14, Try.ntmps14
    go_wp2_with fail
    refine (H1.out _).mono ?_
    rintro e w1 ⟨rfl, rfl⟩
    go_wp2_with fail
    refine (H2.out _).mono ?_
    rintro e w1 ⟨rfl, rfl⟩
    go_wp2_with fail
    refine (HA.out _).mono ?_
    rintro e w3 ⟨rfl, hb⟩
    have HB3 := Lib.hid (HB.out.trans (hb.mono HB.out.size))
    have HS3 := Lib.hid (ex_below HS.out hb)
    clear hb q0 q1 q2 q3 q4 q5 q6 q7 q8 q9 q10 q11 q12 q13
    obtain ⟨q0, q1, q2, q3, q4, q5, q6, q7, q8, q9, q10, q11, q12, q13⟩ := rep_at HS3.out
    go_wp2_with fail
    refine (HT.out _).mono ?_
    rintro e w4 ⟨rfl, hb⟩
    have HB4 := Lib.hid (HB3.out.trans (hb.mono HB3.out.size))
    have HS4 := Lib.hid (ex_below HS3.out hb)
    clear hb q0 q1 q2 q3 q4 q5 q6 q7 q8 q9 q10 q11 q12 q13
    obtain ⟨q0, q1, q2, q3, q4, q5, q6, q7, q8, q9, q10, q11, q12, q13⟩ := rep_at HS4.out
    go_wp2_with fail
    go_ret
    exact ⟨by rw [HX.out]; simp, HB4.out⟩
  cases z5
  case false =>
    go_enter Try.func14, Try.ntmps14
    go_wp2_with fail
    refine (H1.out _).mono ?_
    rintro e w1 ⟨rfl, rfl⟩
    go_wp2_with fail
    refine (H2.out _).mono ?_
    rintro e w1 ⟨rfl, rfl⟩
    go_wp2_with fail
    refine (HA.out _).mono ?_
    rintro e w3 ⟨rfl, hb⟩
    have HB3 := Lib.hid (HB.out.trans (hb.mono HB.out.size))
    have HS3 := Lib.hid (ex_below HS.out hb)
    clear hb q0 q1 q2 q3 q4 q5 q6 q7 q8 q9 q10 q11 q12 q13
    obtain ⟨q0, q1, q2, q3, q4, q5, q6, q7, q8, q9, q10, q11, q12, q13⟩ := rep_at HS3.out
    go_wp2_with fail
    refine (HT.out _).mono ?_
    rintro e w4 ⟨rfl, hb⟩
    have HB4 := Lib.hid (HB3.out.trans (hb.mono HB3.out.size))
    have HS4 := Lib.hid (ex_below HS3.out hb)
    clear hb q0 q1 q2 q3 q4 q5 q6 q7 q8 q9 q10 q11 q12 q13
    obtain ⟨q0, q1, q2, q3, q4, q5, q6, q7, q8, q9, q10, q11, q12, q13⟩ := rep_at HS4.out
    go_wp2_with fail
    go_ret
    exact ⟨by rw [HX.out]; simp, HB4.out⟩
  cases z6
  all_goals
    go_enter Try.func14, Try.ntmps14
    go_wp2_with fail
    refine (H1.out _).mono ?_
    rintro e w1 ⟨rfl, rfl⟩
    go_wp2_with fail
    refine (H2.out _).mono ?_
    rintro e w1 ⟨rfl, rfl⟩
    go_wp2_with fail
    refine (HA.out _).mono ?_
    rintro e w3 ⟨rfl, hb⟩
    have HB3 := Lib.hid (HB.out.trans (hb.mono HB.out.size))
    have HS3 := Lib.hid (ex_below HS.out hb)
    clear hb q0 q1 q2 q3 q4 q5 q6 q7 q8 q9 q10 q11 q12 q13
    obtain ⟨q0, q1, q2, q3, q4, q5, q6, q7, q8, q9, q10, q11, q12, q13⟩ := rep_at HS3.out
    go_wp2_with fail
    refine (HT.out _).mono ?_
    rintro e w4 ⟨rfl, hb⟩
    have HB4 := Lib.hid (HB3.out.trans (hb.mono HB3.out.size))
    have HS4 := Lib.hid (ex_below HS3.out hb)
    clear hb q0 q1 q2 q3 q4 q5 q6 q7 q8 q9 q10 q11 q12 q13
    obtain ⟨q0, q1, q2, q3, q4, q5, q6, q7, q8, q9, q10, q11, q12, q13⟩ := rep_at HS4.out
    go_wp2_with fail
    refine (H3.out _).mono ?_
    rintro e w1 ⟨rfl, rfl⟩
    go_wp2_with fail
    go_ret
    exact ⟨by rw [HX.out]; simp, HB4.out⟩
set_option maxRecDepth 100000 in
set_option maxHeartbeats 8000000 in
theorem rrsound19 (cd tm id cn st lv ge fr lf du tl : Int) (a : Option Addr) (n ca : Nat) (nt de : Int) (w : World) : Calls Try.prog 15 #[repV cd tm id cn st lv ge fr lf du tl a n ca nt de] w fun e w' => e = .returned (.bool (repS cd tm id cn st lv ge fr lf du tl n de)) ∧ Below w.heap.size w w' := by
  have HX : Hid (repS cd tm id cn st lv ge fr lf du tl n de = (rngB cd 0 99 && (rngB tm 0 1125899906842624 && ((noT id cn st lv ge fr lf du tl || soundB cn st lv ge fr lf du tl) && (decide (n ≤ 64) && rngB de 0 128))))) := Lib.hid rfl
  obtain ⟨ok, hok⟩ : ∃ x, repS cd tm id cn st lv ge fr lf du tl n de = x := ⟨_, rfl⟩
  rw [hok] at HX ⊢
  have HT : Hid (∀ W, Calls Try.prog 47 #[tkV id cn st lv ge fr lf du tl] W fun e w' => e = .returned (.bool (soundB cn st lv ge fr lf du tl)) ∧ Below W.heap.size W w') := Lib.hid (fun W => rsound_any id cn st lv ge fr lf du tl W)
  have hd : decide ((n : Int) ≤ 64) = decide (n ≤ 64) := decide_eq_decide.2 (by omega)
  have h3 := eql_tz id cn st lv ge fr lf du tl
  have hg := guard_tk
  unfold rngB at HX
  obtain ⟨a0, e1⟩ : ∃ x, decide (0 ≤ cd) = x := ⟨_, rfl⟩
  obtain ⟨a1, e2⟩ : ∃ x, decide (cd ≤ 99) = x := ⟨_, rfl⟩
  obtain ⟨b0, e3⟩ : ∃ x, decide (0 ≤ tm) = x := ⟨_, rfl⟩
  obtain ⟨b1, e4⟩ : ∃ x, decide (tm ≤ 1125899906842624) = x := ⟨_, rfl⟩
  obtain ⟨z3, e5⟩ : ∃ x, noT id cn st lv ge fr lf du tl = x := ⟨_, rfl⟩
  obtain ⟨z4, e6⟩ : ∃ x, soundB cn st lv ge fr lf du tl = x := ⟨_, rfl⟩
  obtain ⟨z5, e7⟩ : ∃ x, decide (n ≤ 64) = x := ⟨_, rfl⟩
  obtain ⟨c0, e8⟩ : ∃ x, decide (0 ≤ de) = x := ⟨_, rfl⟩
  obtain ⟨c1, e9⟩ : ∃ x, decide (de ≤ 128) = x := ⟨_, rfl⟩
  rw [e1, e2, e3, e4, e5, e6, e7, e8, e9] at HX
  rw [e5] at h3
  rw [e6] at HT
  rw [e7] at hd
  obtain ⟨B1, s0, -⟩ := box1 w #[.int .i64 cd, .int .i64 tm, .int .u64 id, .int .i64 cn, .int .i64 st, .int .i64 lv, .int .u64 ge, .int .i64 fr, .int .i64 lf, .int .i64 du, .int .i64 tl, .slice a n ca, .int .u64 nt, .int .i64 de] 28
  obtain ⟨q0, q1, q2, q3, q4, q5, q6, q7, q8, q9, q10, q11, q12, q13⟩ := rep_at s0
  have HB := Lib.hid B1
  have HS := Lib.hid s0
  clear B1 s0 hok e5 e6 e7
  unfold repV
  unfold tkV at HT
  cases a0
  case false =>
    go_enter Try.func15, Try.ntmps15
    go_wp2_with fail
    go_ret
    exact ⟨by rw [HX.out]; simp, HB.out⟩
  cases a1
  case false =>
    go_enter Try.func15, Try.ntmps15
    go_wp2_with fail
    go_ret
    exact ⟨by rw [HX.out]; simp, HB.out⟩
  cases b0
  case false =>
    go_enter Try.func15, Try.ntmps15
    go_wp2_with fail
    go_ret
    exact ⟨by rw [HX.out]; simp, HB.out⟩
  cases b1
  case false =>
    go_enter Try.func15, Try.ntmps15
    go_wp2_with fail
    go_ret
    exact ⟨by rw [HX.out]; simp, HB.out⟩
  cases z3
  case true =>
    cases z5
    case false =>
      go_enter Try.func15, Try.ntmps15
      go_wp2_with fail
      go_ret
      exact ⟨by rw [HX.out]; simp, HB.out⟩
    cases c0
    case false =>
      go_enter Try.func15, Try.ntmps15
      go_wp2_with fail
      go_ret
      exact ⟨by rw [HX.out]; simp, HB.out⟩
    cases c1
    all_goals
      go_enter Try.func15, Try.ntmps15
      go_wp2_with fail
      go_ret
      exact ⟨by rw [HX.out]; simp, HB.out⟩
  cases z4
  case false =>
    go_enter Try.func15, Try.ntmps15
    go_wp2_with fail
    refine (HT.out _).mono ?_
    rintro e w4 ⟨rfl, hb⟩
    have HB4 := Lib.hid (HB.out.trans (hb.mono HB.out.size))
    have HS4 := Lib.hid (ex_below HS.out hb)
    clear hb q0 q1 q2 q3 q4 q5 q6 q7 q8 q9 q10 q11 q12 q13
    obtain ⟨q0, q1, q2, q3, q4, q5, q6, q7, q8, q9, q10, q11, q12, q13⟩ := rep_at HS4.out
    go_wp2_with fail
    go_ret
    exact ⟨by rw [HX.out]; simp, HB4.out⟩
  cases z5
  case false =>
    go_enter Try.func15, Try.ntmps15
    go_wp2_with fail
    refine (HT.out _).mono ?_
    rintro e w4 ⟨rfl, hb⟩
    have HB4 := Lib.hid (HB.out.trans (hb.mono HB.out.size))
    have HS4 := Lib.hid (ex_below HS.out hb)
    clear hb q0 q1 q2 q3 q4 q5 q6 q7 q8 q9 q10 q11 q12 q13
    obtain ⟨q0, q1, q2, q3, q4, q5, q6, q7, q8, q9, q10, q11, q12, q13⟩ := rep_at HS4.out
    go_wp2_with fail
    go_ret
    exact ⟨by rw [HX.out]; simp, HB4.out⟩
  cases c0
  case false =>
    go_enter Try.func15, Try.ntmps15
    go_wp2_with fail
    refine (HT.out _).mono ?_
    rintro e w4 ⟨rfl, hb⟩
    have HB4 := Lib.hid (HB.out.trans (hb.mono HB.out.size))
    have HS4 := Lib.hid (ex_below HS.out hb)
    clear hb q0 q1 q2 q3 q4 q5 q6 q7 q8 q9 q10 q11 q12 q13
    obtain ⟨q0, q1, q2, q3, q4, q5, q6, q7, q8, q9, q10, q11, q12, q13⟩ := rep_at HS4.out
    go_wp2_with fail
    go_ret
    exact ⟨by rw [HX.out]; simp, HB4.out⟩
  cases c1
  all_goals
    go_enter Try.func15, Try.ntmps15
    go_wp2_with fail
    refine (HT.out _).mono ?_
    rintro e w4 ⟨rfl, hb⟩
    have HB4 := Lib.hid (HB.out.trans (hb.mono HB.out.size))
    have HS4 := Lib.hid (ex_below HS.out hb)
    clear hb q0 q1 q2 q3 q4 q5 q6 q7 q8 q9 q10 q11 q12 q13
    obtain ⟨q0, q1, q2, q3, q4, q5, q6, q7, q8, q9, q10, q11, q12, q13⟩ := rep_at HS4.out
    go_wp2_with fail
    go_ret
    exact ⟨by rw [HX.out]; simp, HB4.out⟩
end Go.Proofs.Ytnhaakdjijjinaa

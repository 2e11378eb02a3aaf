/- Replies: Copy, Refused, Sound. -/
import Derived.Test.YtnhaakdjijjinaaRyC
import Derived.Test.YtnhaakdjijjinaaTbC
import Derived.Deep.RegionHeld3
namespace Go.Proofs.Ytnhaakdjijjinaa
open Go.RowKit
theorem thr_of_below {w w' W : World} {T : Nat} {ob : Obj} (h : w.heap[T]? = some ob) (hb : Below w.heap.size w w') : w'.heap[T]? = some ob := ex_below h hb
set_option maxRecDepth 100000 in
set_option maxHeartbeats 8000000 in
theorem light19 (cd tm id cn st lv ge fr lf du tl : Int) (a : Option Addr) (n ca : Nat) (nt de : Int) (w : World) : Calls Try.prog 10 #[repV cd tm id cn st lv ge fr lf du tl a n ca nt de] w fun e w' => e = .returned (.bool (decide (n ≤ 200))) ∧ Below w.heap.size w w' := by
  obtain ⟨B1, s0, -⟩ := box1 w #[.int .i64 cd, .int .i64 tm, .int .u64 id, .int .i64 cn, .int .i64 st, .int .i64 lv, .int .u64 ge, .int .i64 fr, .int .i64 lf, .int .i64 du, .int .i64 tl, .slice a n ca, .int .u64 nt, .int .i64 de] 28
  obtain ⟨q0, q1, q2, q3, q4, q5, q6, q7, q8, q9, q10, q11, q12, q13⟩ := rep_at s0
  have HB := Lib.hid B1
  have hd : decide ((n : Int) ≤ 200) = decide (n ≤ 200) := decide_eq_decide.2 (by omega)
  obtain ⟨z, hz⟩ : ∃ z, decide (n ≤ 200) = z := ⟨_, rfl⟩
  rw [hz] at hd ⊢
  unfold repV
  clear B1 s0 hz
  go_enter Try.func10, Try.ntmps10
  go_wp2_with fail
  go_ret
  exact ⟨rfl, HB.out⟩
set_option maxRecDepth 100000 in
set_option maxHeartbeats 8000000 in
theorem refused_any (cd tm : Int) (w : World) : Calls Try.prog 17 #[.int .i64 cd, .int .i64 tm] w fun e w' => e = .returned (repV cd tm 0 0 0 0 0 0 0 0 0 none 0 0 0 0) ∧ Below w.heap.size w w' := by
  obtain ⟨B1, s0, -⟩ := box1 w #[.int .i64 0, .int .i64 0, .int .u64 0, .int .i64 0, .int .i64 0, .int .i64 0, .int .u64 0, .int .i64 0, .int .i64 0, .int .i64 0, .int .i64 0, .slice none 0 0, .int .u64 0, .int .i64 0] 28
  obtain ⟨B2, s2, -⟩ := box1 w #[.int .i64 cd, .int .i64 tm, .int .u64 0, .int .i64 0, .int .i64 0, .int .i64 0, .int .u64 0, .int .i64 0, .int .i64 0, .int .i64 0, .int .i64 0, .slice none 0 0, .int .u64 0, .int .i64 0] 28
  have HB := Lib.hid B2
  have HS := Lib.hid s2
  obtain ⟨q0, q1, q2, q3, q4, q5, q6, q7, q8, q9, q10, q11, q12, q13⟩ := rep_at s0
  have qf := rep_fr s0
  unfold repV
  clear B1 s0 B2 s2
  go_enter Try.func17, Try.ntmps17
  go_wp2_with fail
  clear q0 q1 q2 q3 q4 q5 q6 q7 q8 q9 q10 q11 q12 q13 qf
  obtain ⟨p0, p1, p2, p3, p4, p5, p6, p7, p8, p9, p10, p11, p12, p13⟩ := rep_at HS.out
  exact bodyPost_ret (v := .agg #[.int .i64 cd, .int .i64 tm, .int .u64 0, .int .i64 0, .int .i64 0, .int .i64 0, .int .u64 0, .int .i64 0, .int .i64 0, .int .i64 0, .int .i64 0, .slice none 0 0, .int .u64 0, .int .i64 0]) (by simp [results, Try.results17, go_sem, p0, p1, p2, p3, p4, p5, p6, p7, p8, p9, p10, p11, p12, p13]) rfl ⟨rfl, HB.out⟩
end Go.Proofs.Ytnhaakdjijjinaa

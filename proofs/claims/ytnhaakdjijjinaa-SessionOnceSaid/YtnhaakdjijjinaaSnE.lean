/- Session: the chapter's example. -/
import Derived.Test.YtnhaakdjijjinaaSnC
import Derived.Test.YtnhaakdjijjinaaSnD
namespace Go.Proofs.Ytnhaakdjijjinaa
open Go.RowKit Go.Maps
theorem grown_below {B : Nat} {W w w' : World} {mb : Nat} (h : Below B W w) (g : w.grownBy w' (some mb)) (hmb : B ≤ mb) (hB : B ≤ w.heap.size) : Below B W w' :=
  ⟨g.os.trans h.os, g.tape.trans h.tape, g.output.trans h.output, Nat.le_trans h.size g.size, fun k hk => (g.block k (Nat.lt_of_lt_of_le hk hB) (by intro e; injection e with e; omega)).trans (h.block k hk)⟩
set_option maxRecDepth 100000 in
set_option maxHeartbeats 8000000 in
theorem lives20 (w : World) : Calls Try.prog 28 #[] w fun e w' => e = .returned (.bool true) ∧ Below w.heap.size w w' := by
  go_enter Try.func28, Try.ntmps28
  go_wp2_with fail
  refine (empty_any w).mono ?_
  rintro e w1 ⟨T, mb, rfl, hT, hmb, ht, hb⟩
  have HT1 := Lib.hid ht
  have HB1 := Lib.hid hb
  have HMB := Lib.hid hmb
  clear ht hb hT hmb
  have HD := Lib.hid (done_ok T mb 0 (fun _ => none) 1 5 0 7 0 0 0 0 0 0 0 0 0 none 0 0 0 0 w1 HT1.out 0 0 0 0 0 0 0 0 0 0 0 0 none 0 0 0 0 rfl [] (Us.none w1) (by omega) (by omega) (by unfold maxLen; omega) (by omega) (by decide) (by omega))
  unfold repV at HD
  go_wp2_with fail
  refine HD.out.mono ?_
  rintro e w2 ⟨rfl, ac, cc, M, ht, ⟨hM, -⟩, ho, hg⟩
  have HT2 := Lib.hid ht
  have HB2 := Lib.hid (grown_below HB1.out hg HMB.out HB1.out.size)
  have HU2 := Lib.hid ((ho.us (by simp)).2)
  have HV : Hid ((M (.int .u64 1)).getD (.agg #[.int .u64 0, .int .i64 0, .int .i64 0, .int .u64 0, .int .i64 0, .int .i64 0, .int .i64 0, .int .u64 0, .int .i64 0, .int .i64 0, .int .i64 0, .int .i64 0, .slice none 0 0, .int .u64 0, .int .i64 0]) = .agg #[.int .u64 5, .int .i64 0, .int .i64 7, .int .u64 0, .int .i64 0, .int .i64 0, .int .i64 0, .int .u64 0, .int .i64 0, .int .i64 0, .int .i64 0, .int .i64 0, .slice ac 0 cc, .int .u64 0, .int .i64 0]) := Lib.hid (by rw [hM]; rfl)
  clear ht hM ho hg HD HT1 HB1 HMB
  generalize upC (fun _ => none) (Lit.int .u64 1) 0 = c0 at HT2
  go_wp2_with fail
  refine (look_again T mb c0 M 1 5 5 0 7 0 0 0 0 0 0 0 0 0 ac 0 cc 0 0 w2 HT2.out (by omega) HV.out [] HU2.out (by omega) rfl (by omega)).mono ?_
  rintro e w3 ⟨a2, c2, rfl, -, hb⟩
  obtain ⟨X1, X2, -⟩ := box1 w3 #[.int .i64 0, .int .i64 7, .int .u64 0, .int .i64 0, .int .i64 0, .int .i64 0, .int .u64 0, .int .i64 0, .int .i64 0, .int .i64 0, .int .i64 0, .slice a2 0 c2, .int .u64 0, .int .i64 0] 28
  obtain ⟨Y1, Y2, -⟩ := box1 w3 #[.int .i64 0, .int .i64 0, .int .u64 0, .int .i64 0, .int .i64 0, .int .i64 0, .int .u64 0, .int .i64 0, .int .i64 0, .int .i64 0, .int .i64 0, .slice none 0 0, .int .u64 0, .int .i64 0] 28
  have HT3 := Lib.hid (HT2.out.kept (hb.trans (X1.mono hb.size)))
  have HB3 := Lib.hid (HB2.out.trans ((hb.trans (X1.mono hb.size)).mono HB2.out.size))
  obtain ⟨G, hG⟩ : ∃ y, w3.heap.size = y := ⟨_, rfl⟩
  obtain ⟨q0, q1, q2, q3, q4, q5, q6, q7, q8, q9, q10, q11, q12, q13⟩ := rep_at Y2
  have qf := rep_fr Y2
  rw [hG] at X2 q0 q1 q2 q3 q4 q5 q6 q7 q8 q9 q10 q11 q12 q13 qf
  have HX := Lib.hid X2
  clear hb X1 X2 Y1 Y2 HT2 HB2 HU2
  unfold repV
  go_wp2_with fail
  clear q0 q1 q2 q3 q4 q5 q6 q7 q8 q9 q10 q11 q12 q13 qf
  try rw [hG]
  clear hG
  generalize w3.alloc (.cells #[.int .i64 0, .int .i64 7, .int .u64 0, .int .i64 0, .int .i64 0, .int .i64 0, .int .u64 0, .int .i64 0, .int .i64 0, .int .i64 0, .int .i64 0, .slice a2 0 c2, .int .u64 0, .int .i64 0] 28) = w4 at HT3 HB3 HX ⊢
  refine (look_old T mb c0 M 1 5 4 0 7 0 0 0 0 0 0 0 0 0 ac 0 cc 0 0 w4 HT3.out (by omega) HV.out (by omega)).mono ?_
  rintro e w5 ⟨rfl, hb⟩
  obtain ⟨X1, X2, -⟩ := box1 w5 #[.int .i64 0, .int .i64 0, .int .u64 0, .int .i64 0, .int .i64 0, .int .i64 0, .int .u64 0, .int .i64 0, .int .i64 0, .int .i64 0, .int .i64 0, .slice none 0 0, .int .u64 0, .int .i64 0] 28
  have HT5 := Lib.hid (HT3.out.kept (hb.trans (X1.mono hb.size)))
  have HB5 := Lib.hid (HB3.out.trans ((hb.trans (X1.mono hb.size)).mono HB3.out.size))
  have HX5 := Lib.hid (ex_below HX.out (hb.trans (X1.mono hb.size)))
  obtain ⟨q0, q1, q2, q3, q4, q5, q6, q7, q8, q9, q10, q11, q12, q13⟩ := rep_at X2
  have qf := rep_fr X2
  clear hb X1 X2 HT3 HB3 HX
  go_wp2_with fail
  clear q0 q1 q2 q3 q4 q5 q6 q7 q8 q9 q10 q11 q12 q13 qf
  generalize w5.alloc (.cells #[.int .i64 0, .int .i64 0, .int .u64 0, .int .i64 0, .int .i64 0, .int .i64 0, .int .u64 0, .int .i64 0, .int .i64 0, .int .i64 0, .int .i64 0, .slice none 0 0, .int .u64 0, .int .i64 0] 28) = w6 at HT5 HB5 HX5 ⊢
  refine (look_new T mb c0 M 1 5 6 0 7 0 0 0 0 0 0 0 0 0 ac 0 cc 0 0 w6 HT5.out (by omega) HV.out (by omega)).mono ?_
  rintro e w7 ⟨rfl, hb⟩
  obtain ⟨X1, X2, -⟩ := box1 w7 #[.int .i64 0, .int .i64 0, .int .u64 0, .int .i64 0, .int .i64 0, .int .i64 0, .int .u64 0, .int .i64 0, .int .i64 0, .int .i64 0, .int .i64 0, .slice none 0 0, .int .u64 0, .int .i64 0] 28
  have HB7 := Lib.hid (HB5.out.trans ((hb.trans (X1.mono hb.size)).mono HB5.out.size))
  have hx7 := ex_below HX5.out (hb.trans (X1.mono hb.size))
  obtain ⟨q0, q1, q2, q3, q4, q5, q6, q7, q8, q9, q10, q11, q12, q13⟩ := rep_at X2
  obtain ⟨p0, p1, p2, p3, p4, p5, p6, p7, p8, p9, p10, p11, p12, p13⟩ := rep_at hx7
  have qf := rep_fr X2
  clear hb X1 X2 HT5 HB5 HX5 hx7
  go_wp2_with fail
  go_ret
  exact ⟨rfl, HB7.out⟩
end Go.Proofs.Ytnhaakdjijjinaa

/- The example's command, read. -/
import Derived.Test.YtibjboacjobaoaaNkH
import Derived.Test.YtibjboacjobaoaaMgBG
import Derived.Test.YtibjboacjobaoaaMgAS
namespace Go.Proofs.Ytibjboacjobaoaa
open Go.RowKit
set_option maxRecDepth 100000 in
set_option maxHeartbeats 8000000 in
theorem read_noop (v : Value) (w : World) (hrb : RB w v [1, 1, 1, 1, 1, 2]) :
    Calls Try.prog 20 #[v] w fun e w' => e = .returned (.tuple #[cmdV 1 1 2 0 0 0 0 none 0 0 none 0 0 0 none 0 0 0 0, .int .i64 0]) ∧ Below w.heap.size w w' := by
  obtain ⟨a, cap, rfl, -, -⟩ := hrb.shape
  have hsd : soundB 1 1 2 0 0 0 0 0 0 0 0 0 0 (fun _ => 0) (fun _ => 0) (fun _ => 0) (fun _ => 0) (fun _ => 0) (fun _ => 0) = true := rfl
  have HSD := Lib.hid (fun W => sound_any 1 1 2 0 0 0 0 none 0 0 none 0 0 0 none 0 0 0 0 (fun _ => 0) (fun _ => 0) (fun _ => 0) (fun _ => 0) (fun _ => 0) (fun _ => 0) W (sps_none _ _ _) (sps_none _ _ _) (sps_none _ _ _))
  rw [hsd] at HSD
  have HOF : Hid (∀ W, Calls Try.prog 51 #[.int .i64 1] W fun e w' => e = .returned (ofV false false false false false) ∧ Below W.heap.size W w') := Lib.hid (fun W => of_any 1 W)
  have HHD : Hid (∀ b W, RR W b [1, 1, 1, 1, 1, 2] false → Calls Try.prog 70 #[.pointer (some ⟨b, 0, none⟩)] W fun e w' => e = .returned (cmdV 1 1 2 0 0 0 0 none 0 0 none 0 0 0 none 0 0 0 0) ∧ RR w' b [] false ∧ Rd b W w') := Lib.hid (fun b W h => head_rd b [1, 1, 1, 1, 1, 2] false W h)
  have HEN : Hid (∀ b W, RR W b [] false → Calls Try.prog 75 #[.pointer (some ⟨b, 0, none⟩)] W fun e w' => e = .returned (.int .i64 0) ∧ W = w') := Lib.hid (fun b W h => end_rd b [] false W h)
  obtain ⟨B1, s0, sz⟩ := box1 w #[.int .i64 0, .int .u64 0, .int .u64 0, .int .u64 0, .int .i64 0, .int .i64 0, .int .i64 0, .slice none 0 0, .slice none 0 0, .int .i64 0, .slice none 0 0, .int .i64 0, .int .i64 0] 30
  have hop := open_any _ _ _ (hrb.kept B1) (by simp)
  have HB0 := Lib.hid B1
  have HT0 := Lib.hid s0
  clear hsd B1 s0 sz hrb
  unfold Opens at hop
  simp only [List.length_cons, List.length_nil, Nat.reduceAdd] at hop ⊢
  unfold cmdV ofV at *
  go_enter Try.func20, Try.ntmps20
  go_wp2_with fail
  generalize w.alloc (.cells #[.int .i64 0, .int .u64 0, .int .u64 0, .int .u64 0, .int .i64 0, .int .i64 0, .int .i64 0, .slice none 0 0, .slice none 0 0, .int .i64 0, .slice none 0 0, .int .i64 0, .int .i64 0] 30) = W0 at HB0 HT0 hop ⊢
  refine hop.mono ?_
  rintro e W1 ⟨rb, rfl, hgb, hr, hb⟩
  have HB1 := Lib.hid (HB0.out.trans (hb.mono HB0.out.size))
  have HT1 := Lib.hid (ex_below HT0.out hb)
  have HG : Hid (w.heap.size < rb) := Lib.hid (by have := ex_lt HT0.out; omega)
  have HR1 := Lib.hid hr
  clear hop hgb hr hb HB0 HT0
  go_wp2_with fail
  refine (HHD.out _ _ HR1.out).mono ?_
  rintro e W2 ⟨rfl, hr2, ht2⟩
  have HB2 := Lib.hid (Rd.outside ht2 HB1.out HB1.out.size (Nat.le_of_lt HG.out))
  have HT2 := Lib.hid (ht2.keep HT1.out (by have := HG.out; omega))
  obtain ⟨g, hg⟩ : ∃ g, W2.heap.size = g := ⟨_, rfl⟩
  obtain ⟨B3, s3, z3⟩ := box1 W2 #[.int .i64 1, .int .u64 1, .int .u64 2, .int .u64 0, .int .i64 0, .int .i64 0, .int .i64 0, .slice none 0 0, .slice none 0 0, .int .i64 0, .slice none 0 0, .int .i64 0, .int .i64 0] 30
  have HB3 := Lib.hid (HB2.out.trans (B3.mono HB2.out.size))
  have HT3 := Lib.hid (ex_below HT2.out B3)
  have HR3 := Lib.hid (hr2.kept B3)
  rw [hg] at s3
  have HC3 := Lib.hid s3
  have HL3 : Hid (w.heap.size < g) := Lib.hid (by have := ex_lt HT2.out; omega)
  clear hr2 ht2 B3 s3 z3 HB1 HT1 HR1 HB2 HT2 HHD
  obtain ⟨q0, q1, q2, q3, q4, q5, q6, q7, q8, q9, q10, q11, q12⟩ := cmd_at HC3.out
  go_wp2_with fail
  refine (HOF.out _).mono ?_
  rintro e W4 ⟨rfl, hb⟩
  obtain ⟨B5, f0, fz⟩ := box1 W4 #[.bool false, .bool false, .bool false, .bool false, .bool false] 106
  have HB5 := Lib.hid ((HB3.out.trans (hb.mono HB3.out.size)).trans (B5.mono (Nat.le_trans HB3.out.size hb.size)))
  have HT5 := Lib.hid (ex_below (ex_below HT3.out hb) B5)
  have HC5 := Lib.hid (ex_below (ex_below HC3.out hb) B5)
  have HR5 := Lib.hid ((HR3.out.kept hb).kept B5)
  obtain ⟨⟨r0, r1, r2, r3, r4⟩, -⟩ := five_at f0
  clear hb B5 f0 fz HB3 HR3 HT3 HC3 q0 q1 q2 q3 q4 q5 q6 q7 q8 q9 q10 q11 q12 HOF
  obtain ⟨q0, q1, q2, q3, q4, q5, q6, q7, q8, q9, q10, q11, q12⟩ := cmd_at HC5.out
  go_wp2_with fail
  generalize W4.alloc (.cells #[.bool false, .bool false, .bool false, .bool false, .bool false] 106) = W5 at HB5 HT5 HC5 HR5 r0 r1 r2 r3 r4 q0 q1 q2 q3 q4 q5 q6 q7 q8 q9 q10 q11 q12 ⊢
  refine (HEN.out _ _ HR5.out).mono ?_
  rintro e W6 ⟨rfl, rfl⟩
  go_wp2_with fail
  refine (HSD.out _).mono ?_
  rintro e W7 ⟨rfl, hb⟩
  have HB7 := Lib.hid (HB5.out.trans (hb.mono HB5.out.size))
  have HT7 := ex_below HT5.out hb
  have HC7 := ex_below HC5.out hb
  clear hb HB5 HT5 HC5 HR5 r0 r1 r2 r3 r4 q0 q1 q2 q3 q4 q5 q6 q7 q8 q9 q10 q11 q12 HEN HSD
  obtain ⟨q0, q1, q2, q3, q4, q5, q6, q7, q8, q9, q10, q11, q12⟩ := cmd_at HC7
  obtain ⟨p0, p1, p2, p3, p4, p5, p6, p7, p8, p9, p10, p11, p12⟩ := cmd_at HT7
  have pf := cmd_fr HT7
  have HP := Lib.hid (And.intro (put13_at HT7 (.int .i64 1) (.int .u64 1) (.int .u64 2) (.int .u64 0) (.int .i64 0) (.int .i64 0) (.int .i64 0) (.slice none 0 0) (.slice none 0 0) (.int .i64 0) (.slice none 0 0) (.int .i64 0) (.int .i64 0)) (HB7.out.trans (put13_below (B := w.heap.size) W7 (Nat.le_refl w.heap.size) (.int .i64 1) (.int .u64 1) (.int .u64 2) (.int .u64 0) (.int .i64 0) (.int .i64 0) (.int .i64 0) (.slice none 0 0) (.slice none 0 0) (.int .i64 0) (.slice none 0 0) (.int .i64 0) (.int .i64 0))))
  clear HC7 HT7
  go_wp2_with fail
  clear p0 p1 p2 p3 p4 p5 p6 p7 p8 p9 p10 p11 p12 q0 q1 q2 q3 q4 q5 q6 q7 q8 q9 q10 q11 q12
  obtain ⟨hp, hb⟩ := HP.out
  unfold put13 at hp hb
  obtain ⟨p0, p1, p2, p3, p4, p5, p6, p7, p8, p9, p10, p11, p12⟩ := cmd_at hp
  refine bodyPost_ret (v := .tuple #[.agg #[.int .i64 1, .int .u64 1, .int .u64 2, .int .u64 0, .int .i64 0, .int .i64 0, .int .i64 0, .slice none 0 0, .slice none 0 0, .int .i64 0, .slice none 0 0, .int .i64 0, .int .i64 0], .int .i64 0]) (by simp [results, Try.results20, go_sem, p0, p1, p2, p3, p4, p5, p6, p7, p8, p9, p10, p11, p12]) rfl ⟨rfl, hb⟩
end Go.Proofs.Ytibjboacjobaoaa

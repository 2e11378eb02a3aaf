/- The disk: what a disk tells that no call made. -/
import Derived.Test.YthefnakbpalecaaDkZ
namespace Go.Proofs.Ythefnakbpalecaa
open Go.RowKit Go.Maps
set_option maxRecDepth 100000 in
theorem dsync_no (v : Value) (n : Nm) (w : World) (h : NoD w v) : Calls Try.prog 83 #[v, encStr n] w fun e w' => e = .returned (.int .i64 1) ∧ Below w.heap.size w w' := by
  have HF := Lib.hid (dfind_no v n w h)
  clear h
  go_enter Try.func83, Try.ntmps83
  go_wp2_with fail
  refine HF.out.mono ?_
  rintro e w1 ⟨rfl, hb⟩
  have hz : zF = .agg #[.slice none 0 0, .int .i64 0] := rfl
  rw [hz]
  clear hz
  have HB := Lib.hid (hb.trans ((boxF (w := w1) (.slice none 0 0) (.int .i64 0)).1.mono hb.size))
  clear hb HF
  go_wp2_with fail
  go_ret
  exact ⟨rfl, HB.out⟩
set_option maxRecDepth 100000 in
theorem dremove_no (v : Value) (n : Nm) (w : World) (h : NoD w v) : Calls Try.prog 117 #[v, encStr n] w fun e w' => e = .returned (.int .i64 1) ∧ Below w.heap.size w w' := by
  have HF := Lib.hid (dfind_no v n w h)
  clear h
  go_enter Try.func117, Try.ntmps117
  go_wp2_with fail
  refine HF.out.mono ?_
  rintro e w1 ⟨rfl, hb⟩
  have hz : zF = .agg #[.slice none 0 0, .int .i64 0] := rfl
  rw [hz]
  clear hz
  have HB := Lib.hid (hb.trans ((boxF (w := w1) (.slice none 0 0) (.int .i64 0)).1.mono hb.size))
  clear hb HF
  go_wp2_with fail
  go_ret
  exact ⟨rfl, HB.out⟩
set_option maxRecDepth 100000 in
theorem dcut_no (v : Value) (n : Nm) (k : Int) (w : World) (h : NoD w v) : Calls Try.prog 82 #[v, encStr n, .int .i64 k] w fun e w' => e = .returned (.int .i64 1) ∧ Below w.heap.size w w' := by
  have HF := Lib.hid (dfind_no v n w h)
  clear h
  go_enter Try.func82, Try.ntmps82
  go_wp2_with fail
  refine HF.out.mono ?_
  rintro e w1 ⟨rfl, hb⟩
  have hz : zF = .agg #[.slice none 0 0, .int .i64 0] := rfl
  rw [hz]
  clear hz
  have HB := Lib.hid (hb.trans ((boxF (w := w1) (.slice none 0 0) (.int .i64 0)).1.mono hb.size))
  clear hb HF
  go_wp2_with fail
  go_ret
  exact ⟨rfl, HB.out⟩
set_option maxRecDepth 100000 in
theorem dmove_no (v : Value) (n : Nm) (n2 : Nm) (w : World) (h : NoD w v) : Calls Try.prog 122 #[v, encStr n, encStr n2] w fun e w' => e = .returned (.int .i64 1) ∧ Below w.heap.size w w' := by
  have HF := Lib.hid (dfind_no v n w h)
  clear h
  go_enter Try.func122, Try.ntmps122
  go_wp2_with fail
  refine HF.out.mono ?_
  rintro e w1 ⟨rfl, hb⟩
  have hz : zF = .agg #[.slice none 0 0, .int .i64 0] := rfl
  rw [hz]
  clear hz
  have HB := Lib.hid (hb.trans ((boxF (w := w1) (.slice none 0 0) (.int .i64 0)).1.mono hb.size))
  clear hb HF
  go_wp2_with fail
  go_ret
  exact ⟨rfl, HB.out⟩
set_option maxRecDepth 100000 in
theorem dread_no (v : Value) (n : Nm) (w : World) (h : NoD w v) : Calls Try.prog 79 #[v, encStr n] w fun e w' => e = .returned (.tuple #[.slice none 0 0, .int .i64 1]) ∧ Below w.heap.size w w' := by
  have HF := Lib.hid (dfind_no v n w h)
  clear h
  go_enter Try.func79, Try.ntmps79
  go_wp2_with fail
  refine HF.out.mono ?_
  rintro e w1 ⟨rfl, hb⟩
  have hz : zF = .agg #[.slice none 0 0, .int .i64 0] := rfl
  rw [hz]
  clear hz
  have HB := Lib.hid (hb.trans ((boxF (w := w1) (.slice none 0 0) (.int .i64 0)).1.mono hb.size))
  clear hb HF
  go_wp2_with fail
  go_ret2
  exact ⟨rfl, HB.out⟩
set_option maxRecDepth 100000 in
theorem darm_no (v : Value) (k : Int) (w : World) (h : NoD w v) : Calls Try.prog 34 #[v, .int .i64 k] w fun e w' => e = .returned (.int .i64 1) ∧ w = w' := by
  have H := Lib.hid h
  clear h
  go_enter Try.func34, Try.ntmps34
  go_wp2_with fail
  refine (dpower_no v w H.out).mono ?_
  rintro e w1 ⟨rfl, rfl⟩
  go_wp2_with fail
  go_ret
  exact ⟨rfl, rfl⟩
set_option maxRecDepth 100000 in
theorem dresize_no (v : Value) (k : Int) (w : World) (h : NoD w v) : Calls Try.prog 40 #[v, .int .i64 k] w fun e w' => e = .returned (.int .i64 1) ∧ w = w' := by
  have H := Lib.hid h
  clear h
  go_enter Try.func40, Try.ntmps40
  go_wp2_with fail
  refine (dpower_no v w H.out).mono ?_
  rintro e w1 ⟨rfl, rfl⟩
  go_wp2_with fail
  go_ret
  exact ⟨rfl, rfl⟩
set_option maxRecDepth 100000 in
theorem dboot_no (v : Value) (w : World) (h : NoD w v) : Calls Try.prog 38 #[v] w fun e w' => e = .returned (.int .i64 1) ∧ w = w' := by
  have H := Lib.hid h
  clear h
  go_enter Try.func38, Try.ntmps38
  go_wp2_with fail
  refine (dcreated_no v w H.out).mono ?_
  rintro e w1 ⟨rfl, rfl⟩
  go_wp2_with fail
  go_ret
  exact ⟨rfl, rfl⟩
set_option maxRecDepth 100000 in
theorem ddown_no (v : Value) (w : World) (h : NoD w v) : Calls Try.prog 41 #[v] w fun e w' => e = .returned (.bool false) ∧ w = w' := by
  have H := Lib.hid h
  clear h
  go_enter Try.func41, Try.ntmps41
  go_wp2_with fail
  refine (dcreated_no v w H.out).mono ?_
  rintro e w1 ⟨rfl, rfl⟩
  go_wp2_with fail
  go_ret
  exact ⟨rfl, rfl⟩
set_option maxRecDepth 100000 in
theorem dfree_no (v : Value) (w : World) (h : NoD w v) : Calls Try.prog 155 #[v] w fun e w' => e = .returned (.int .i64 0) ∧ w = w' := by
  have H := Lib.hid h
  clear h
  go_enter Try.func155, Try.ntmps155
  go_wp2_with fail
  refine (dcreated_no v w H.out).mono ?_
  rintro e w1 ⟨rfl, rfl⟩
  go_wp2_with fail
  go_ret
  exact ⟨rfl, rfl⟩
set_option maxRecDepth 100000 in
theorem dsteps_no (v : Value) (w : World) (h : NoD w v) : Calls Try.prog 85 #[v] w fun e w' => e = .returned (.int .u64 0) ∧ w = w' := by
  have H := Lib.hid h
  clear h
  go_enter Try.func85, Try.ntmps85
  go_wp2_with fail
  refine (dcreated_no v w H.out).mono ?_
  rintro e w1 ⟨rfl, rfl⟩
  go_wp2_with fail
  go_ret
  exact ⟨rfl, rfl⟩
set_option maxRecDepth 100000 in
theorem dnames_no (v : Value) (w : World) (h : NoD w v) : Calls Try.prog 91 #[v] w fun e w' => e = .returned (.slice none 0 0) ∧ w = w' := by
  have H := Lib.hid h
  clear h
  go_enter Try.func91, Try.ntmps91
  go_wp2_with fail
  refine (dcreated_no v w H.out).mono ?_
  rintro e w1 ⟨rfl, rfl⟩
  go_wp2_with fail
  go_ret
  exact ⟨rfl, rfl⟩
set_option maxRecDepth 100000 in
theorem dcrash_no (v : Value) (a : Option Addr) (n c : Nat) (w : World) (h : NoD w v) : Calls Try.prog 37 #[v, .slice a n c] w fun e w' => e = .returned (.int .i64 1) ∧ Below w.heap.size w w' := by
  have H := Lib.hid h
  clear h
  have HA := Lib.hid ((Below.refl w.heap.size w).alloc (Nat.le_refl _) (.cells #[.slice a n c] 55))
  go_enter Try.func37, Try.ntmps37
  go_wp2_with fail
  refine (dcreated_no v _ (H.out.below (Below.refl _ _ |>.alloc (Nat.le_refl _) (.cells #[.slice a n c] 55)))).mono ?_
  rintro e w1 ⟨rfl, rfl⟩
  go_wp2_with fail
  go_ret
  exact ⟨rfl, HA.out⟩
end Go.Proofs.Ythefnakbpalecaa

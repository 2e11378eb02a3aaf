/- The disk: what a disk tells that no call made. -/
import Derived.Test.YtdkkpabemimmlaaDkZ
namespace Go.Proofs.Ytdkkpabemimmlaa
open Go.RowKit Go.Maps
set_option maxRecDepth 100000 in
theorem dsync_no (v : Value) (n : Nm) (w : World) (h : NoD w v) : Calls Try.prog 27 #[v, encStr n] w fun e w' => e = .returned (.int .i64 1) ∧ Below w.heap.size w w' := by
  have HF := Lib.hid (dfind_no v n w h)
  clear h
  go_enter Try.func27, Try.ntmps27
  go_wp2_with fail
  refine HF.out.mono ?_
  rintro e w1 ⟨rfl, hb⟩
  have hz : zF = .agg #[.slice none 0 0, .int .i64 0] := rfl
  rw [hz]
  clear hz
  have HB := Lib.hid (hb.trans ((boxF (w := w1) (.slice none 0 0) (.int .i64 0)).1.mono hb.size))
  clear hb HF
  go_wp2_with fail
  go_ret
  exact ⟨rfl, HB.out⟩
set_option maxRecDepth 100000 in
theorem dremove_no (v : Value) (n : Nm) (w : World) (h : NoD w v) : Calls Try.prog 29 #[v, encStr n] w fun e w' => e = .returned (.int .i64 1) ∧ Below w.heap.size w w' := by
  have HF := Lib.hid (dfind_no v n w h)
  clear h
  go_enter Try.func29, Try.ntmps29
  go_wp2_with fail
  refine HF.out.mono ?_
  rintro e w1 ⟨rfl, hb⟩
  have hz : zF = .agg #[.slice none 0 0, .int .i64 0] := rfl
  rw [hz]
  clear hz
  have HB := Lib.hid (hb.trans ((boxF (w := w1) (.slice none 0 0) (.int .i64 0)).1.mono hb.size))
  clear hb HF
  go_wp2_with fail
  go_ret
  exact ⟨rfl, HB.out⟩
set_option maxRecDepth 100000 in
theorem dcut_no (v : Value) (n : Nm) (k : Int) (w : World) (h : NoD w v) : Calls Try.prog 28 #[v, encStr n, .int .i64 k] w fun e w' => e = .returned (.int .i64 1) ∧ Below w.heap.size w w' := by
  have HF := Lib.hid (dfind_no v n w h)
  clear h
  go_enter Try.func28, Try.ntmps28
  go_wp2_with fail
  refine HF.out.mono ?_
  rintro e w1 ⟨rfl, hb⟩
  have hz : zF = .agg #[.slice none 0 0, .int .i64 0] := rfl
  rw [hz]
  clear hz
  have HB := Lib.hid (hb.trans ((boxF (w := w1) (.slice none 0 0) (.int .i64 0)).1.mono hb.size))
  clear hb HF
  go_wp2_with fail
  go_ret
  exact ⟨rfl, HB.out⟩
set_option maxRecDepth 100000 in
theorem dmove_no (v : Value) (n : Nm) (n2 : Nm) (w : World) (h : NoD w v) : Calls Try.prog 30 #[v, encStr n, encStr n2] w fun e w' => e = .returned (.int .i64 1) ∧ Below w.heap.size w w' := by
  have HF := Lib.hid (dfind_no v n w h)
  clear h
  go_enter Try.func30, Try.ntmps30
  go_wp2_with fail
  refine HF.out.mono ?_
  rintro e w1 ⟨rfl, hb⟩
  have hz : zF = .agg #[.slice none 0 0, .int .i64 0] := rfl
  rw [hz]
  clear hz
  have HB := Lib.hid (hb.trans ((boxF (w := w1) (.slice none 0 0) (.int .i64 0)).1.mono hb.size))
  clear hb HF
  go_wp2_with fail
  go_ret
  exact ⟨rfl, HB.out⟩
set_option maxRecDepth 100000 in
theorem dread_no (v : Value) (n : Nm) (w : World) (h : NoD w v) : Calls Try.prog 33 #[v, encStr n] w fun e w' => e = .returned (.tuple #[.slice none 0 0, .int .i64 1]) ∧ Below w.heap.size w w' := by
  have HF := Lib.hid (dfind_no v n w h)
  clear h
  go_enter Try.func33, Try.ntmps33
  go_wp2_with fail
  refine HF.out.mono ?_
  rintro e w1 ⟨rfl, hb⟩
  have hz : zF = .agg #[.slice none 0 0, .int .i64 0] := rfl
  rw [hz]
  clear hz
  have HB := Lib.hid (hb.trans ((boxF (w := w1) (.slice none 0 0) (.int .i64 0)).1.mono hb.size))
  clear hb HF
  go_wp2_with fail
  go_ret2
  exact ⟨rfl, HB.out⟩
set_option maxRecDepth 100000 in
theorem darm_no (v : Value) (k : Int) (w : World) (h : NoD w v) : Calls Try.prog 25 #[v, .int .i64 k] w fun e w' => e = .returned (.int .i64 1) ∧ w = w' := by
  have H := Lib.hid h
  clear h
  go_enter Try.func25, Try.ntmps25
  go_wp2_with fail
  refine (dpower_no v w H.out).mono ?_
  rintro e w1 ⟨rfl, rfl⟩
  go_wp2_with fail
  go_ret
  exact ⟨rfl, rfl⟩
set_option maxRecDepth 100000 in
theorem dresize_no (v : Value) (k : Int) (w : World) (h : NoD w v) : Calls Try.prog 31 #[v, .int .i64 k] w fun e w' => e = .returned (.int .i64 1) ∧ w = w' := by
  have H := Lib.hid h
  clear h
  go_enter Try.func31, Try.ntmps31
  go_wp2_with fail
  refine (dpower_no v w H.out).mono ?_
  rintro e w1 ⟨rfl, rfl⟩
  go_wp2_with fail
  go_ret
  exact ⟨rfl, rfl⟩
set_option maxRecDepth 100000 in
theorem dboot_no (v : Value) (w : World) (h : NoD w v) : Calls Try.prog 32 #[v] w fun e w' => e = .returned (.int .i64 1) ∧ w = w' := by
  have H := Lib.hid h
  clear h
  go_enter Try.func32, Try.ntmps32
  go_wp2_with fail
  refine (dcreated_no v w H.out).mono ?_
  rintro e w1 ⟨rfl, rfl⟩
  go_wp2_with fail
  go_ret
  exact ⟨rfl, rfl⟩
set_option maxRecDepth 100000 in
theorem ddown_no (v : Value) (w : World) (h : NoD w v) : Calls Try.prog 17 #[v] w fun e w' => e = .returned (.bool false) ∧ w = w' := by
  have H := Lib.hid h
  clear h
  go_enter Try.func17, Try.ntmps17
  go_wp2_with fail
  refine (dcreated_no v w H.out).mono ?_
  rintro e w1 ⟨rfl, rfl⟩
  go_wp2_with fail
  go_ret
  exact ⟨rfl, rfl⟩
set_option maxRecDepth 100000 in
theorem dfree_no (v : Value) (w : World) (h : NoD w v) : Calls Try.prog 18 #[v] w fun e w' => e = .returned (.int .i64 0) ∧ w = w' := by
  have H := Lib.hid h
  clear h
  go_enter Try.func18, Try.ntmps18
  go_wp2_with fail
  refine (dcreated_no v w H.out).mono ?_
  rintro e w1 ⟨rfl, rfl⟩
  go_wp2_with fail
  go_ret
  exact ⟨rfl, rfl⟩
set_option maxRecDepth 100000 in
theorem dsteps_no (v : Value) (w : World) (h : NoD w v) : Calls Try.prog 20 #[v] w fun e w' => e = .returned (.int .u64 0) ∧ w = w' := by
  have H := Lib.hid h
  clear h
  go_enter Try.func20, Try.ntmps20
  go_wp2_with fail
  refine (dcreated_no v w H.out).mono ?_
  rintro e w1 ⟨rfl, rfl⟩
  go_wp2_with fail
  go_ret
  exact ⟨rfl, rfl⟩
set_option maxRecDepth 100000 in
theorem dnames_no (v : Value) (w : World) (h : NoD w v) : Calls Try.prog 16 #[v] w fun e w' => e = .returned (.slice none 0 0) ∧ w = w' := by
  have H := Lib.hid h
  clear h
  go_enter Try.func16, Try.ntmps16
  go_wp2_with fail
  refine (dcreated_no v w H.out).mono ?_
  rintro e w1 ⟨rfl, rfl⟩
  go_wp2_with fail
  go_ret
  exact ⟨rfl, rfl⟩
set_option maxRecDepth 100000 in
theorem dfiles_no (v : Value) (w : World) (h : NoD w v) : Calls Try.prog 23 #[v] w fun e w' => e = .returned (.slice none 0 0) ∧ w = w' := by
  have H := Lib.hid h
  clear h
  go_enter Try.func23, Try.ntmps23
  go_wp2_with fail
  refine (dnames_no v w H.out).mono ?_
  rintro e w1 ⟨rfl, rfl⟩
  go_wp2_with fail
  go_loopg [3, 10] 0 (fun kx s3 s10 wr => s3 = .slice none 0 0 ∧ s10 = .int .i64 0 ∧ w = wr)
  case atStart => exact ⟨rfl, rfl, rfl⟩
  case round =>
    obtain ⟨rfl, rfl, rfl⟩ := hrel
    go_wp2_with fail
    go_ret
    exact ⟨rfl, rfl⟩
set_option maxRecDepth 100000 in
theorem dcrash_no (v : Value) (a : Option Addr) (n c : Nat) (w : World) (h : NoD w v) : Calls Try.prog 24 #[v, .slice a n c] w fun e w' => e = .returned (.int .i64 1) ∧ Below w.heap.size w w' := by
  have H := Lib.hid h
  clear h
  have HA := Lib.hid ((Below.refl w.heap.size w).alloc (Nat.le_refl _) (.cells #[.slice a n c] 32))
  go_enter Try.func24, Try.ntmps24
  go_wp2_with fail
  refine (dcreated_no v _ (H.out.below (Below.refl _ _ |>.alloc (Nat.le_refl _) (.cells #[.slice a n c] 32)))).mono ?_
  rintro e w1 ⟨rfl, rfl⟩
  go_wp2_with fail
  go_ret
  exact ⟨rfl, HA.out⟩
end Go.Proofs.Ytdkkpabemimmlaa

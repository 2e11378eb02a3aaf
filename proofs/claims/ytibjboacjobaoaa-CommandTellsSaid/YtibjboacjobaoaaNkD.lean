/- A command with just the fields of its kind, both ways. -/
import Derived.Test.YtibjboacjobaoaaNkC
namespace Go.Proofs.Ytibjboacjobaoaa
open Go.RowKit
/-- The command that is left. -/
def onlyV (kd cl rq id cn tm off : Int) (a : Option Addr) (n ca : Nat) (b : Option Addr) (m cb : Nat) (tc : Int) (d : Option Addr) (l cd : Nat) (tr tb : Int) (i c t y s : Bool) : Value := cmdV kd cl rq (if i = true then id else 0) (if c = true then cn else 0) (if t = true then tm else 0) (if y = true then off else 0) (if y = true then a else none) (if y = true then n else 0) (if y = true then ca else 0) (if y = true then b else none) (if y = true then m else 0) (if y = true then cb else 0) (if s = true then tc else 0) (if s = true then d else none) (if s = true then l else 0) (if s = true then cd else 0) (if s = true then tr else 0) (if s = true then tb else 0)
set_option maxRecDepth 100000 in
set_option maxHeartbeats 8000000 in
theorem only_0 (kd cl rq id cn tm off : Int) (a : Option Addr) (n ca : Nat) (b : Option Addr) (m cb : Nat) (tc : Int) (d : Option Addr) (l cd : Nat) (tr tb : Int) (w : World) :
    Calls Try.prog 54 #[cmdV kd cl rq id cn tm off a n ca b m cb tc d l cd tr tb, ofV false false false false false] w fun e w' => e = .returned (onlyV kd cl rq id cn tm off a n ca b m cb tc d l cd tr tb false false false false false) ∧ Below w.heap.size w w' := by
  obtain ⟨Bz, z0, z1, z2, z3, zz⟩ := box4 w #[.int .i64 kd, .int .u64 cl, .int .u64 rq, .int .u64 id, .int .i64 cn, .int .i64 tm, .int .i64 off, .slice a n ca, .slice b m cb, .int .i64 tc, .slice d l cd, .int .i64 tr, .int .i64 tb] #[.bool false, .bool false, .bool false, .bool false, .bool false] #[.int .i64 kd, .int .u64 cl, .int .u64 rq, .int .u64 0, .int .i64 0, .int .i64 0, .int .i64 0, .slice none 0 0, .slice none 0 0, .int .i64 0, .slice none 0 0, .int .i64 0, .int .i64 0] #[.int .i64 kd, .int .u64 cl, .int .u64 rq, .int .u64 0, .int .i64 0, .int .i64 0, .int .i64 0, .slice none 0 0, .slice none 0 0, .int .i64 0, .slice none 0 0, .int .i64 0, .int .i64 0] 30 106 30 30
  obtain ⟨p0, p1, p2, p3, p4, p5, p6, p7, p8, p9, p10, p11, p12⟩ := cmd_at z2
  have HZ := Lib.hid (And.intro Bz (And.intro p0 (And.intro p1 (And.intro p2 (And.intro p3 (And.intro p4 (And.intro p5 (And.intro p6 (And.intro p7 (And.intro p8 (And.intro p9 (And.intro p10 (And.intro p11 p12)))))))))))))
  clear Bz z0 z1 z2 z3 zz p0 p1 p2 p3 p4 p5 p6 p7 p8 p9 p10 p11 p12
  unfold cmdV ofV
  go_enter Try.func54, Try.ntmps54
  go_wp2_with fail
  obtain ⟨Bz, p0, p1, p2, p3, p4, p5, p6, p7, p8, p9, p10, p11, p12⟩ := HZ.out
  refine bodyPost_ret (v := .agg #[.int .i64 kd, .int .u64 cl, .int .u64 rq, .int .u64 0, .int .i64 0, .int .i64 0, .int .i64 0, .slice none 0 0, .slice none 0 0, .int .i64 0, .slice none 0 0, .int .i64 0, .int .i64 0]) (by simp [results, Try.results54, go_sem, p0, p1, p2, p3, p4, p5, p6, p7, p8, p9, p10, p11, p12]) rfl ⟨rfl, Bz⟩
set_option maxRecDepth 100000 in
set_option maxHeartbeats 8000000 in
theorem only_1 (kd cl rq id cn tm off : Int) (a : Option Addr) (n ca : Nat) (b : Option Addr) (m cb : Nat) (tc : Int) (d : Option Addr) (l cd : Nat) (tr tb : Int) (w : World) :
    Calls Try.prog 54 #[cmdV kd cl rq id cn tm off a n ca b m cb tc d l cd tr tb, ofV false false true false false] w fun e w' => e = .returned (onlyV kd cl rq id cn tm off a n ca b m cb tc d l cd tr tb false false true false false) ∧ Below w.heap.size w w' := by
  obtain ⟨Bz, z0, z1, z2, z3, zz⟩ := box4 w #[.int .i64 kd, .int .u64 cl, .int .u64 rq, .int .u64 id, .int .i64 cn, .int .i64 tm, .int .i64 off, .slice a n ca, .slice b m cb, .int .i64 tc, .slice d l cd, .int .i64 tr, .int .i64 tb] #[.bool false, .bool false, .bool true, .bool false, .bool false] #[.int .i64 kd, .int .u64 cl, .int .u64 rq, .int .u64 0, .int .i64 0, .int .i64 tm, .int .i64 0, .slice none 0 0, .slice none 0 0, .int .i64 0, .slice none 0 0, .int .i64 0, .int .i64 0] #[.int .i64 kd, .int .u64 cl, .int .u64 rq, .int .u64 0, .int .i64 0, .int .i64 tm, .int .i64 0, .slice none 0 0, .slice none 0 0, .int .i64 0, .slice none 0 0, .int .i64 0, .int .i64 0] 30 106 30 30
  obtain ⟨p0, p1, p2, p3, p4, p5, p6, p7, p8, p9, p10, p11, p12⟩ := cmd_at z2
  have HZ := Lib.hid (And.intro Bz (And.intro p0 (And.intro p1 (And.intro p2 (And.intro p3 (And.intro p4 (And.intro p5 (And.intro p6 (And.intro p7 (And.intro p8 (And.intro p9 (And.intro p10 (And.intro p11 p12)))))))))))))
  clear Bz z0 z1 z2 z3 zz p0 p1 p2 p3 p4 p5 p6 p7 p8 p9 p10 p11 p12
  unfold cmdV ofV
  go_enter Try.func54, Try.ntmps54
  go_wp2_with fail
  obtain ⟨Bz, p0, p1, p2, p3, p4, p5, p6, p7, p8, p9, p10, p11, p12⟩ := HZ.out
  refine bodyPost_ret (v := .agg #[.int .i64 kd, .int .u64 cl, .int .u64 rq, .int .u64 0, .int .i64 0, .int .i64 tm, .int .i64 0, .slice none 0 0, .slice none 0 0, .int .i64 0, .slice none 0 0, .int .i64 0, .int .i64 0]) (by simp [results, Try.results54, go_sem, p0, p1, p2, p3, p4, p5, p6, p7, p8, p9, p10, p11, p12]) rfl ⟨rfl, Bz⟩
set_option maxRecDepth 100000 in
set_option maxHeartbeats 8000000 in
theorem only_2 (kd cl rq id cn tm off : Int) (a : Option Addr) (n ca : Nat) (b : Option Addr) (m cb : Nat) (tc : Int) (d : Option Addr) (l cd : Nat) (tr tb : Int) (w : World) :
    Calls Try.prog 54 #[cmdV kd cl rq id cn tm off a n ca b m cb tc d l cd tr tb, ofV true false false false false] w fun e w' => e = .returned (onlyV kd cl rq id cn tm off a n ca b m cb tc d l cd tr tb true false false false false) ∧ Below w.heap.size w w' := by
  obtain ⟨Bz, z0, z1, z2, z3, zz⟩ := box4 w #[.int .i64 kd, .int .u64 cl, .int .u64 rq, .int .u64 id, .int .i64 cn, .int .i64 tm, .int .i64 off, .slice a n ca, .slice b m cb, .int .i64 tc, .slice d l cd, .int .i64 tr, .int .i64 tb] #[.bool true, .bool false, .bool false, .bool false, .bool false] #[.int .i64 kd, .int .u64 cl, .int .u64 rq, .int .u64 id, .int .i64 0, .int .i64 0, .int .i64 0, .slice none 0 0, .slice none 0 0, .int .i64 0, .slice none 0 0, .int .i64 0, .int .i64 0] #[.int .i64 kd, .int .u64 cl, .int .u64 rq, .int .u64 id, .int .i64 0, .int .i64 0, .int .i64 0, .slice none 0 0, .slice none 0 0, .int .i64 0, .slice none 0 0, .int .i64 0, .int .i64 0] 30 106 30 30
  obtain ⟨p0, p1, p2, p3, p4, p5, p6, p7, p8, p9, p10, p11, p12⟩ := cmd_at z2
  have HZ := Lib.hid (And.intro Bz (And.intro p0 (And.intro p1 (And.intro p2 (And.intro p3 (And.intro p4 (And.intro p5 (And.intro p6 (And.intro p7 (And.intro p8 (And.intro p9 (And.intro p10 (And.intro p11 p12)))))))))))))
  clear Bz z0 z1 z2 z3 zz p0 p1 p2 p3 p4 p5 p6 p7 p8 p9 p10 p11 p12
  unfold cmdV ofV
  go_enter Try.func54, Try.ntmps54
  go_wp2_with fail
  obtain ⟨Bz, p0, p1, p2, p3, p4, p5, p6, p7, p8, p9, p10, p11, p12⟩ := HZ.out
  refine bodyPost_ret (v := .agg #[.int .i64 kd, .int .u64 cl, .int .u64 rq, .int .u64 id, .int .i64 0, .int .i64 0, .int .i64 0, .slice none 0 0, .slice none 0 0, .int .i64 0, .slice none 0 0, .int .i64 0, .int .i64 0]) (by simp [results, Try.results54, go_sem, p0, p1, p2, p3, p4, p5, p6, p7, p8, p9, p10, p11, p12]) rfl ⟨rfl, Bz⟩
set_option maxRecDepth 100000 in
set_option maxHeartbeats 8000000 in
theorem only_3 (kd cl rq id cn tm off : Int) (a : Option Addr) (n ca : Nat) (b : Option Addr) (m cb : Nat) (tc : Int) (d : Option Addr) (l cd : Nat) (tr tb : Int) (w : World) :
    Calls Try.prog 54 #[cmdV kd cl rq id cn tm off a n ca b m cb tc d l cd tr tb, ofV true true false false false] w fun e w' => e = .returned (onlyV kd cl rq id cn tm off a n ca b m cb tc d l cd tr tb true true false false false) ∧ Below w.heap.size w w' := by
  obtain ⟨Bz, z0, z1, z2, z3, zz⟩ := box4 w #[.int .i64 kd, .int .u64 cl, .int .u64 rq, .int .u64 id, .int .i64 cn, .int .i64 tm, .int .i64 off, .slice a n ca, .slice b m cb, .int .i64 tc, .slice d l cd, .int .i64 tr, .int .i64 tb] #[.bool true, .bool true, .bool false, .bool false, .bool false] #[.int .i64 kd, .int .u64 cl, .int .u64 rq, .int .u64 id, .int .i64 cn, .int .i64 0, .int .i64 0, .slice none 0 0, .slice none 0 0, .int .i64 0, .slice none 0 0, .int .i64 0, .int .i64 0] #[.int .i64 kd, .int .u64 cl, .int .u64 rq, .int .u64 id, .int .i64 cn, .int .i64 0, .int .i64 0, .slice none 0 0, .slice none 0 0, .int .i64 0, .slice none 0 0, .int .i64 0, .int .i64 0] 30 106 30 30
  obtain ⟨p0, p1, p2, p3, p4, p5, p6, p7, p8, p9, p10, p11, p12⟩ := cmd_at z2
  have HZ := Lib.hid (And.intro Bz (And.intro p0 (And.intro p1 (And.intro p2 (And.intro p3 (And.intro p4 (And.intro p5 (And.intro p6 (And.intro p7 (And.intro p8 (And.intro p9 (And.intro p10 (And.intro p11 p12)))))))))))))
  clear Bz z0 z1 z2 z3 zz p0 p1 p2 p3 p4 p5 p6 p7 p8 p9 p10 p11 p12
  unfold cmdV ofV
  go_enter Try.func54, Try.ntmps54
  go_wp2_with fail
  obtain ⟨Bz, p0, p1, p2, p3, p4, p5, p6, p7, p8, p9, p10, p11, p12⟩ := HZ.out
  refine bodyPost_ret (v := .agg #[.int .i64 kd, .int .u64 cl, .int .u64 rq, .int .u64 id, .int .i64 cn, .int .i64 0, .int .i64 0, .slice none 0 0, .slice none 0 0, .int .i64 0, .slice none 0 0, .int .i64 0, .int .i64 0]) (by simp [results, Try.results54, go_sem, p0, p1, p2, p3, p4, p5, p6, p7, p8, p9, p10, p11, p12]) rfl ⟨rfl, Bz⟩
set_option maxRecDepth 100000 in
set_option maxHeartbeats 8000000 in
theorem only_4 (kd cl rq id cn tm off : Int) (a : Option Addr) (n ca : Nat) (b : Option Addr) (m cb : Nat) (tc : Int) (d : Option Addr) (l cd : Nat) (tr tb : Int) (w : World) :
    Calls Try.prog 54 #[cmdV kd cl rq id cn tm off a n ca b m cb tc d l cd tr tb, ofV true false false true false] w fun e w' => e = .returned (onlyV kd cl rq id cn tm off a n ca b m cb tc d l cd tr tb true false false true false) ∧ Below w.heap.size w w' := by
  obtain ⟨Bz, z0, z1, z2, z3, zz⟩ := box4 w #[.int .i64 kd, .int .u64 cl, .int .u64 rq, .int .u64 id, .int .i64 cn, .int .i64 tm, .int .i64 off, .slice a n ca, .slice b m cb, .int .i64 tc, .slice d l cd, .int .i64 tr, .int .i64 tb] #[.bool true, .bool false, .bool false, .bool true, .bool false] #[.int .i64 kd, .int .u64 cl, .int .u64 rq, .int .u64 id, .int .i64 0, .int .i64 0, .int .i64 off, .slice a n ca, .slice b m cb, .int .i64 0, .slice none 0 0, .int .i64 0, .int .i64 0] #[.int .i64 kd, .int .u64 cl, .int .u64 rq, .int .u64 id, .int .i64 0, .int .i64 0, .int .i64 off, .slice a n ca, .slice b m cb, .int .i64 0, .slice none 0 0, .int .i64 0, .int .i64 0] 30 106 30 30
  obtain ⟨p0, p1, p2, p3, p4, p5, p6, p7, p8, p9, p10, p11, p12⟩ := cmd_at z2
  have HZ := Lib.hid (And.intro Bz (And.intro p0 (And.intro p1 (And.intro p2 (And.intro p3 (And.intro p4 (And.intro p5 (And.intro p6 (And.intro p7 (And.intro p8 (And.intro p9 (And.intro p10 (And.intro p11 p12)))))))))))))
  clear Bz z0 z1 z2 z3 zz p0 p1 p2 p3 p4 p5 p6 p7 p8 p9 p10 p11 p12
  unfold cmdV ofV
  go_enter Try.func54, Try.ntmps54
  go_wp2_with fail
  obtain ⟨Bz, p0, p1, p2, p3, p4, p5, p6, p7, p8, p9, p10, p11, p12⟩ := HZ.out
  refine bodyPost_ret (v := .agg #[.int .i64 kd, .int .u64 cl, .int .u64 rq, .int .u64 id, .int .i64 0, .int .i64 0, .int .i64 off, .slice a n ca, .slice b m cb, .int .i64 0, .slice none 0 0, .int .i64 0, .int .i64 0]) (by simp [results, Try.results54, go_sem, p0, p1, p2, p3, p4, p5, p6, p7, p8, p9, p10, p11, p12]) rfl ⟨rfl, Bz⟩
set_option maxRecDepth 100000 in
set_option maxHeartbeats 8000000 in
theorem only_5 (kd cl rq id cn tm off : Int) (a : Option Addr) (n ca : Nat) (b : Option Addr) (m cb : Nat) (tc : Int) (d : Option Addr) (l cd : Nat) (tr tb : Int) (w : World) :
    Calls Try.prog 54 #[cmdV kd cl rq id cn tm off a n ca b m cb tc d l cd tr tb, ofV true false false false true] w fun e w' => e = .returned (onlyV kd cl rq id cn tm off a n ca b m cb tc d l cd tr tb true false false false true) ∧ Below w.heap.size w w' := by
  obtain ⟨Bz, z0, z1, z2, z3, zz⟩ := box4 w #[.int .i64 kd, .int .u64 cl, .int .u64 rq, .int .u64 id, .int .i64 cn, .int .i64 tm, .int .i64 off, .slice a n ca, .slice b m cb, .int .i64 tc, .slice d l cd, .int .i64 tr, .int .i64 tb] #[.bool true, .bool false, .bool false, .bool false, .bool true] #[.int .i64 kd, .int .u64 cl, .int .u64 rq, .int .u64 id, .int .i64 0, .int .i64 0, .int .i64 0, .slice none 0 0, .slice none 0 0, .int .i64 tc, .slice d l cd, .int .i64 tr, .int .i64 tb] #[.int .i64 kd, .int .u64 cl, .int .u64 rq, .int .u64 id, .int .i64 0, .int .i64 0, .int .i64 0, .slice none 0 0, .slice none 0 0, .int .i64 tc, .slice d l cd, .int .i64 tr, .int .i64 tb] 30 106 30 30
  obtain ⟨p0, p1, p2, p3, p4, p5, p6, p7, p8, p9, p10, p11, p12⟩ := cmd_at z2
  have HZ := Lib.hid (And.intro Bz (And.intro p0 (And.intro p1 (And.intro p2 (And.intro p3 (And.intro p4 (And.intro p5 (And.intro p6 (And.intro p7 (And.intro p8 (And.intro p9 (And.intro p10 (And.intro p11 p12)))))))))))))
  clear Bz z0 z1 z2 z3 zz p0 p1 p2 p3 p4 p5 p6 p7 p8 p9 p10 p11 p12
  unfold cmdV ofV
  go_enter Try.func54, Try.ntmps54
  go_wp2_with fail
  obtain ⟨Bz, p0, p1, p2, p3, p4, p5, p6, p7, p8, p9, p10, p11, p12⟩ := HZ.out
  refine bodyPost_ret (v := .agg #[.int .i64 kd, .int .u64 cl, .int .u64 rq, .int .u64 id, .int .i64 0, .int .i64 0, .int .i64 0, .slice none 0 0, .slice none 0 0, .int .i64 tc, .slice d l cd, .int .i64 tr, .int .i64 tb]) (by simp [results, Try.results54, go_sem, p0, p1, p2, p3, p4, p5, p6, p7, p8, p9, p10, p11, p12]) rfl ⟨rfl, Bz⟩
end Go.Proofs.Ytibjboacjobaoaa

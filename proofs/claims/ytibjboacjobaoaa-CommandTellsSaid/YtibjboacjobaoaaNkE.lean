/- A command with just the fields of its kind: the reference. -/
import Derived.Test.YtibjboacjobaoaaNkD
namespace Go.Proofs.Ytibjboacjobaoaa
open Go.RowKit
set_option maxRecDepth 100000 in
set_option maxHeartbeats 8000000 in
theorem kept_1 (kd cl rq id cn tm off : Int) (a : Option Addr) (n ca : Nat) (b : Option Addr) (m cb : Nat) (tc : Int) (d : Option Addr) (l cd : Nat) (tr tb : Int) (hk : kd = 1) (w : World) :
    Calls Try.prog 55 #[cmdV kd cl rq id cn tm off a n ca b m cb tc d l cd tr tb] w fun e w' => e = .returned (onlyV kd cl rq id cn tm off a n ca b m cb tc d l cd tr tb false false false false false) ∧ Below w.heap.size w w' := by
  obtain ⟨Bz, z0, z1, z2, zz⟩ := box3 w #[.int .i64 kd, .int .u64 cl, .int .u64 rq, .int .u64 id, .int .i64 cn, .int .i64 tm, .int .i64 off, .slice a n ca, .slice b m cb, .int .i64 tc, .slice d l cd, .int .i64 tr, .int .i64 tb] #[.int .i64 kd, .int .u64 cl, .int .u64 rq, .int .u64 0, .int .i64 0, .int .i64 0, .int .i64 0, .slice none 0 0, .slice none 0 0, .int .i64 0, .slice none 0 0, .int .i64 0, .int .i64 0] #[.int .i64 kd, .int .u64 cl, .int .u64 rq, .int .u64 0, .int .i64 0, .int .i64 0, .int .i64 0, .slice none 0 0, .slice none 0 0, .int .i64 0, .slice none 0 0, .int .i64 0, .int .i64 0] 30 30 30
  obtain ⟨p0, p1, p2, p3, p4, p5, p6, p7, p8, p9, p10, p11, p12⟩ := cmd_at z1
  have HZ := Lib.hid (And.intro Bz (And.intro p0 (And.intro p1 (And.intro p2 (And.intro p3 (And.intro p4 (And.intro p5 (And.intro p6 (And.intro p7 (And.intro p8 (And.intro p9 (And.intro p10 (And.intro p11 p12)))))))))))))
  clear Bz z0 z1 z2 zz p0 p1 p2 p3 p4 p5 p6 p7 p8 p9 p10 p11 p12
  subst hk
  unfold cmdV
  go_enter Try.func55, Try.ntmps55
  go_wp2_with fail
  obtain ⟨Bz, p0, p1, p2, p3, p4, p5, p6, p7, p8, p9, p10, p11, p12⟩ := HZ.out
  refine bodyPost_ret (v := .agg #[.int .i64 1, .int .u64 cl, .int .u64 rq, .int .u64 0, .int .i64 0, .int .i64 0, .int .i64 0, .slice none 0 0, .slice none 0 0, .int .i64 0, .slice none 0 0, .int .i64 0, .int .i64 0]) (by simp [results, Try.results55, go_sem, p0, p1, p2, p3, p4, p5, p6, p7, p8, p9, p10, p11, p12]) rfl ⟨rfl, Bz⟩
set_option maxRecDepth 100000 in
set_option maxHeartbeats 8000000 in
theorem kept_9 (kd cl rq id cn tm off : Int) (a : Option Addr) (n ca : Nat) (b : Option Addr) (m cb : Nat) (tc : Int) (d : Option Addr) (l cd : Nat) (tr tb : Int) (hk : kd = 9) (w : World) :
    Calls Try.prog 55 #[cmdV kd cl rq id cn tm off a n ca b m cb tc d l cd tr tb] w fun e w' => e = .returned (onlyV kd cl rq id cn tm off a n ca b m cb tc d l cd tr tb false false true false false) ∧ Below w.heap.size w w' := by
  obtain ⟨Bz, z0, z1, z2, zz⟩ := box3 w #[.int .i64 kd, .int .u64 cl, .int .u64 rq, .int .u64 id, .int .i64 cn, .int .i64 tm, .int .i64 off, .slice a n ca, .slice b m cb, .int .i64 tc, .slice d l cd, .int .i64 tr, .int .i64 tb] #[.int .i64 kd, .int .u64 cl, .int .u64 rq, .int .u64 0, .int .i64 0, .int .i64 tm, .int .i64 0, .slice none 0 0, .slice none 0 0, .int .i64 0, .slice none 0 0, .int .i64 0, .int .i64 0] #[.int .i64 kd, .int .u64 cl, .int .u64 rq, .int .u64 0, .int .i64 0, .int .i64 tm, .int .i64 0, .slice none 0 0, .slice none 0 0, .int .i64 0, .slice none 0 0, .int .i64 0, .int .i64 0] 30 30 30
  obtain ⟨p0, p1, p2, p3, p4, p5, p6, p7, p8, p9, p10, p11, p12⟩ := cmd_at z1
  have HZ := Lib.hid (And.intro Bz (And.intro p0 (And.intro p1 (And.intro p2 (And.intro p3 (And.intro p4 (And.intro p5 (And.intro p6 (And.intro p7 (And.intro p8 (And.intro p9 (And.intro p10 (And.intro p11 p12)))))))))))))
  clear Bz z0 z1 z2 zz p0 p1 p2 p3 p4 p5 p6 p7 p8 p9 p10 p11 p12
  subst hk
  unfold cmdV
  go_enter Try.func55, Try.ntmps55
  go_wp2_with fail
  obtain ⟨Bz, p0, p1, p2, p3, p4, p5, p6, p7, p8, p9, p10, p11, p12⟩ := HZ.out
  refine bodyPost_ret (v := .agg #[.int .i64 9, .int .u64 cl, .int .u64 rq, .int .u64 0, .int .i64 0, .int .i64 tm, .int .i64 0, .slice none 0 0, .slice none 0 0, .int .i64 0, .slice none 0 0, .int .i64 0, .int .i64 0]) (by simp [results, Try.results55, go_sem, p0, p1, p2, p3, p4, p5, p6, p7, p8, p9, p10, p11, p12]) rfl ⟨rfl, Bz⟩
set_option maxRecDepth 100000 in
set_option maxHeartbeats 8000000 in
theorem kept_4 (kd cl rq id cn tm off : Int) (a : Option Addr) (n ca : Nat) (b : Option Addr) (m cb : Nat) (tc : Int) (d : Option Addr) (l cd : Nat) (tr tb : Int) (hk : kd = 4) (w : World) :
    Calls Try.prog 55 #[cmdV kd cl rq id cn tm off a n ca b m cb tc d l cd tr tb] w fun e w' => e = .returned (onlyV kd cl rq id cn tm off a n ca b m cb tc d l cd tr tb true true false false false) ∧ Below w.heap.size w w' := by
  obtain ⟨Bz, z0, z1, z2, zz⟩ := box3 w #[.int .i64 kd, .int .u64 cl, .int .u64 rq, .int .u64 id, .int .i64 cn, .int .i64 tm, .int .i64 off, .slice a n ca, .slice b m cb, .int .i64 tc, .slice d l cd, .int .i64 tr, .int .i64 tb] #[.int .i64 kd, .int .u64 cl, .int .u64 rq, .int .u64 id, .int .i64 cn, .int .i64 0, .int .i64 0, .slice none 0 0, .slice none 0 0, .int .i64 0, .slice none 0 0, .int .i64 0, .int .i64 0] #[.int .i64 kd, .int .u64 cl, .int .u64 rq, .int .u64 id, .int .i64 cn, .int .i64 0, .int .i64 0, .slice none 0 0, .slice none 0 0, .int .i64 0, .slice none 0 0, .int .i64 0, .int .i64 0] 30 30 30
  obtain ⟨p0, p1, p2, p3, p4, p5, p6, p7, p8, p9, p10, p11, p12⟩ := cmd_at z1
  have HZ := Lib.hid (And.intro Bz (And.intro p0 (And.intro p1 (And.intro p2 (And.intro p3 (And.intro p4 (And.intro p5 (And.intro p6 (And.intro p7 (And.intro p8 (And.intro p9 (And.intro p10 (And.intro p11 p12)))))))))))))
  clear Bz z0 z1 z2 zz p0 p1 p2 p3 p4 p5 p6 p7 p8 p9 p10 p11 p12
  subst hk
  unfold cmdV
  go_enter Try.func55, Try.ntmps55
  go_wp2_with fail
  obtain ⟨Bz, p0, p1, p2, p3, p4, p5, p6, p7, p8, p9, p10, p11, p12⟩ := HZ.out
  refine bodyPost_ret (v := .agg #[.int .i64 4, .int .u64 cl, .int .u64 rq, .int .u64 id, .int .i64 cn, .int .i64 0, .int .i64 0, .slice none 0 0, .slice none 0 0, .int .i64 0, .slice none 0 0, .int .i64 0, .int .i64 0]) (by simp [results, Try.results55, go_sem, p0, p1, p2, p3, p4, p5, p6, p7, p8, p9, p10, p11, p12]) rfl ⟨rfl, Bz⟩
set_option maxRecDepth 100000 in
set_option maxHeartbeats 8000000 in
theorem kept_2 (kd cl rq id cn tm off : Int) (a : Option Addr) (n ca : Nat) (b : Option Addr) (m cb : Nat) (tc : Int) (d : Option Addr) (l cd : Nat) (tr tb : Int) (hk : kd = 2) (w : World) :
    Calls Try.prog 55 #[cmdV kd cl rq id cn tm off a n ca b m cb tc d l cd tr tb] w fun e w' => e = .returned (onlyV kd cl rq id cn tm off a n ca b m cb tc d l cd tr tb true false false true false) ∧ Below w.heap.size w w' := by
  obtain ⟨Bz, z0, z1, z2, zz⟩ := box3 w #[.int .i64 kd, .int .u64 cl, .int .u64 rq, .int .u64 id, .int .i64 cn, .int .i64 tm, .int .i64 off, .slice a n ca, .slice b m cb, .int .i64 tc, .slice d l cd, .int .i64 tr, .int .i64 tb] #[.int .i64 kd, .int .u64 cl, .int .u64 rq, .int .u64 id, .int .i64 0, .int .i64 0, .int .i64 off, .slice a n ca, .slice b m cb, .int .i64 0, .slice none 0 0, .int .i64 0, .int .i64 0] #[.int .i64 kd, .int .u64 cl, .int .u64 rq, .int .u64 id, .int .i64 0, .int .i64 0, .int .i64 off, .slice a n ca, .slice b m cb, .int .i64 0, .slice none 0 0, .int .i64 0, .int .i64 0] 30 30 30
  obtain ⟨p0, p1, p2, p3, p4, p5, p6, p7, p8, p9, p10, p11, p12⟩ := cmd_at z1
  have HZ := Lib.hid (And.intro Bz (And.intro p0 (And.intro p1 (And.intro p2 (And.intro p3 (And.intro p4 (And.intro p5 (And.intro p6 (And.intro p7 (And.intro p8 (And.intro p9 (And.intro p10 (And.intro p11 p12)))))))))))))
  clear Bz z0 z1 z2 zz p0 p1 p2 p3 p4 p5 p6 p7 p8 p9 p10 p11 p12
  subst hk
  unfold cmdV
  go_enter Try.func55, Try.ntmps55
  go_wp2_with fail
  obtain ⟨Bz, p0, p1, p2, p3, p4, p5, p6, p7, p8, p9, p10, p11, p12⟩ := HZ.out
  refine bodyPost_ret (v := .agg #[.int .i64 2, .int .u64 cl, .int .u64 rq, .int .u64 id, .int .i64 0, .int .i64 0, .int .i64 off, .slice a n ca, .slice b m cb, .int .i64 0, .slice none 0 0, .int .i64 0, .int .i64 0]) (by simp [results, Try.results55, go_sem, p0, p1, p2, p3, p4, p5, p6, p7, p8, p9, p10, p11, p12]) rfl ⟨rfl, Bz⟩
set_option maxRecDepth 100000 in
set_option maxHeartbeats 8000000 in
theorem kept_3 (kd cl rq id cn tm off : Int) (a : Option Addr) (n ca : Nat) (b : Option Addr) (m cb : Nat) (tc : Int) (d : Option Addr) (l cd : Nat) (tr tb : Int) (hk : kd = 3) (w : World) :
    Calls Try.prog 55 #[cmdV kd cl rq id cn tm off a n ca b m cb tc d l cd tr tb] w fun e w' => e = .returned (onlyV kd cl rq id cn tm off a n ca b m cb tc d l cd tr tb true false false false true) ∧ Below w.heap.size w w' := by
  obtain ⟨Bz, z0, z1, z2, zz⟩ := box3 w #[.int .i64 kd, .int .u64 cl, .int .u64 rq, .int .u64 id, .int .i64 cn, .int .i64 tm, .int .i64 off, .slice a n ca, .slice b m cb, .int .i64 tc, .slice d l cd, .int .i64 tr, .int .i64 tb] #[.int .i64 kd, .int .u64 cl, .int .u64 rq, .int .u64 id, .int .i64 0, .int .i64 0, .int .i64 0, .slice none 0 0, .slice none 0 0, .int .i64 tc, .slice d l cd, .int .i64 tr, .int .i64 tb] #[.int .i64 kd, .int .u64 cl, .int .u64 rq, .int .u64 id, .int .i64 0, .int .i64 0, .int .i64 0, .slice none 0 0, .slice none 0 0, .int .i64 tc, .slice d l cd, .int .i64 tr, .int .i64 tb] 30 30 30
  obtain ⟨p0, p1, p2, p3, p4, p5, p6, p7, p8, p9, p10, p11, p12⟩ := cmd_at z1
  have HZ := Lib.hid (And.intro Bz (And.intro p0 (And.intro p1 (And.intro p2 (And.intro p3 (And.intro p4 (And.intro p5 (And.intro p6 (And.intro p7 (And.intro p8 (And.intro p9 (And.intro p10 (And.intro p11 p12)))))))))))))
  clear Bz z0 z1 z2 zz p0 p1 p2 p3 p4 p5 p6 p7 p8 p9 p10 p11 p12
  subst hk
  unfold cmdV
  go_enter Try.func55, Try.ntmps55
  go_wp2_with fail
  obtain ⟨Bz, p0, p1, p2, p3, p4, p5, p6, p7, p8, p9, p10, p11, p12⟩ := HZ.out
  refine bodyPost_ret (v := .agg #[.int .i64 3, .int .u64 cl, .int .u64 rq, .int .u64 id, .int .i64 0, .int .i64 0, .int .i64 0, .slice none 0 0, .slice none 0 0, .int .i64 tc, .slice d l cd, .int .i64 tr, .int .i64 tb]) (by simp [results, Try.results55, go_sem, p0, p1, p2, p3, p4, p5, p6, p7, p8, p9, p10, p11, p12]) rfl ⟨rfl, Bz⟩
set_option maxRecDepth 100000 in
set_option maxHeartbeats 8000000 in
theorem kept_id (kd cl rq id cn tm off : Int) (a : Option Addr) (n ca : Nat) (b : Option Addr) (m cb : Nat) (tc : Int) (d : Option Addr) (l cd : Nat) (tr tb : Int) (hk : kd ≠ 1 ∧ kd ≠ 9 ∧ kd ≠ 2 ∧ kd ≠ 3 ∧ kd ≠ 4) (w : World) :
    Calls Try.prog 55 #[cmdV kd cl rq id cn tm off a n ca b m cb tc d l cd tr tb] w fun e w' => e = .returned (onlyV kd cl rq id cn tm off a n ca b m cb tc d l cd tr tb true false false false false) ∧ Below w.heap.size w w' := by
  obtain ⟨Bz, z0, z1, z2, zz⟩ := box3 w #[.int .i64 kd, .int .u64 cl, .int .u64 rq, .int .u64 id, .int .i64 cn, .int .i64 tm, .int .i64 off, .slice a n ca, .slice b m cb, .int .i64 tc, .slice d l cd, .int .i64 tr, .int .i64 tb] #[.int .i64 kd, .int .u64 cl, .int .u64 rq, .int .u64 id, .int .i64 0, .int .i64 0, .int .i64 0, .slice none 0 0, .slice none 0 0, .int .i64 0, .slice none 0 0, .int .i64 0, .int .i64 0] #[.int .i64 kd, .int .u64 cl, .int .u64 rq, .int .u64 id, .int .i64 0, .int .i64 0, .int .i64 0, .slice none 0 0, .slice none 0 0, .int .i64 0, .slice none 0 0, .int .i64 0, .int .i64 0] 30 30 30
  obtain ⟨p0, p1, p2, p3, p4, p5, p6, p7, p8, p9, p10, p11, p12⟩ := cmd_at z1
  have HZ := Lib.hid (And.intro Bz (And.intro p0 (And.intro p1 (And.intro p2 (And.intro p3 (And.intro p4 (And.intro p5 (And.intro p6 (And.intro p7 (And.intro p8 (And.intro p9 (And.intro p10 (And.intro p11 p12)))))))))))))
  clear Bz z0 z1 z2 zz p0 p1 p2 p3 p4 p5 p6 p7 p8 p9 p10 p11 p12
  have e1 : decide (kd = 1) = false := decide_eq_false (by omega)
  have f1 : (kd == 1) = false := by simp; omega
  have g1 : (kd != 1) = true := by simp; omega
  have e9 : decide (kd = 9) = false := decide_eq_false (by omega)
  have f9 : (kd == 9) = false := by simp; omega
  have g9 : (kd != 9) = true := by simp; omega
  have e2 : decide (kd = 2) = false := decide_eq_false (by omega)
  have f2 : (kd == 2) = false := by simp; omega
  have g2 : (kd != 2) = true := by simp; omega
  have e3 : decide (kd = 3) = false := decide_eq_false (by omega)
  have f3 : (kd == 3) = false := by simp; omega
  have g3 : (kd != 3) = true := by simp; omega
  have e4 : decide (kd = 4) = false := decide_eq_false (by omega)
  have f4 : (kd == 4) = false := by simp; omega
  have g4 : (kd != 4) = true := by simp; omega
  unfold cmdV
  go_enter Try.func55, Try.ntmps55
  go_wp2_with fail
  obtain ⟨Bz, p0, p1, p2, p3, p4, p5, p6, p7, p8, p9, p10, p11, p12⟩ := HZ.out
  refine bodyPost_ret (v := .agg #[.int .i64 kd, .int .u64 cl, .int .u64 rq, .int .u64 id, .int .i64 0, .int .i64 0, .int .i64 0, .slice none 0 0, .slice none 0 0, .int .i64 0, .slice none 0 0, .int .i64 0, .int .i64 0]) (by simp [results, Try.results55, go_sem, p0, p1, p2, p3, p4, p5, p6, p7, p8, p9, p10, p11, p12]) rfl ⟨rfl, Bz⟩
end Go.Proofs.Ytibjboacjobaoaa

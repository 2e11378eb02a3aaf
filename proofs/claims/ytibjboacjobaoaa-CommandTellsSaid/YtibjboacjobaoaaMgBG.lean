import Derived.Test.YtibjboacjobaoaaNkH
import Derived.Test.YtibjboacjobaoaaMgBF
import Derived.Test.YtibjboacjobaoaaMgAR
import Derived.Test.YtibjboacjobaoaaNkC
import Derived.Deep.LoopGhost
namespace Go.Proofs.Ytibjboacjobaoaa
open Go.RowKit
/- The example's command, written. -/
open Go.RowKit
theorem rv_three (w : World) (N : Nat) (t : TypeId) (x y z : Value) (hN : N = w.heap.size) : RV (w.alloc (.cells #[x, y, z] t)) (.slice (some ⟨N, 0, none⟩) 3 3) [x, y, z] := by
  subst hN
  refine ⟨by simp, _, _, rfl, fun i hi => ⟨_, _, rfl, ?_⟩⟩
  rw [World.cell?_alloc_at _ _ _ _ rfl]
  simp only [List.length_cons, List.length_nil] at hi
  have : i = 0 ∨ i = 1 ∨ i = 2 := by omega
  rcases this with rfl | rfl | rfl <;> rfl
theorem num_three (b base : Nat) (v : Value) (f t u : Nat) (bs : List Nat) (w : World) (hw : WR w b base v bs) (hbl : bs.length ≤ 10000000) (hf : f < 18446744073709551616) (ht : t < 18446744073709551616) (hu : u < 18446744073709551616) :
    Calls Try.prog 62 #[.pointer (some ⟨b, 0, none⟩), .slice (some ⟨w.heap.size, 0, none⟩) 3 3] (w.alloc (.cells #[.int .u64 (f : Int), .int .u64 (t : Int), .int .u64 (u : Int)] 22)) fun e w' => e = .returned (.tuple #[]) ∧ Wrote b base v w (bs ++ (num 0 f ++ (num 0 t ++ num 0 u))) w' := by
  have b1 : Below w.heap.size w (w.alloc (.cells #[.int .u64 (f : Int), .int .u64 (t : Int), .int .u64 (u : Int)] 22)) := (Below.refl _ _).alloc (Nat.le_refl _) _
  have hrv : RV (w.alloc (.cells #[.int .u64 (f : Int), .int .u64 (t : Int), .int .u64 (u : Int)] 22)) (.slice (some ⟨w.heap.size, 0, none⟩) 3 3) (List.map (fun n : Nat => Value.int .u64 ((n : Nat) : Int)) [f, t, u]) := by
    simp only [List.map_cons, List.map_nil]
    exact rv_three w _ _ _ _ _ rfl
  refine (num_wr b base v bs [f, t, u] _ _ (hw.kept b1) hbl hrv (by intro n hn; simp only [List.mem_cons, List.not_mem_nil, or_false] at hn; omega)).mono ?_
  rintro e w' ⟨rfl, hwr⟩
  have e2 : nums [f, t, u] = num 0 f ++ (num 0 t ++ num 0 u) := by unfold nums; simp
  rw [e2] at hwr
  exact ⟨rfl, hwr.after b1⟩
set_option maxRecDepth 100000 in
set_option maxHeartbeats 8000000 in
theorem bytes_noop (w : World) :
    Calls Try.prog 18 #[cmdV 1 1 2 0 0 0 0 none 0 0 none 0 0 0 none 0 0 0 0] w fun e w' => ∃ v, e = .returned (.tuple #[v, .int .i64 0]) ∧ OB w' w.heap.size v [1, 1, 1, 1, 1, 2] ∧ Below w.heap.size w w' := by
  have hsd : soundB 1 1 2 0 0 0 0 0 0 0 0 0 0 (fun _ => 0) (fun _ => 0) (fun _ => 0) (fun _ => 0) (fun _ => 0) (fun _ => 0) = true := rfl
  have HSD := Lib.hid (fun W => sound_any 1 1 2 0 0 0 0 none 0 0 none 0 0 0 none 0 0 0 0 (fun _ => 0) (fun _ => 0) (fun _ => 0) (fun _ => 0) (fun _ => 0) (fun _ => 0) W (sps_none _ _ _) (sps_none _ _ _) (sps_none _ _ _))
  rw [hsd] at HSD
  have HOF : Hid (∀ W, Calls Try.prog 51 #[.int .i64 1] W fun e w' => e = .returned (ofV false false false false false) ∧ Below W.heap.size W w') := Lib.hid (fun W => of_any 1 W)
  have HNM : Hid (∀ b base v W, WR W b base v [] → Calls Try.prog 62 #[.pointer (some ⟨b, 0, none⟩), .slice (some ⟨W.heap.size, 0, none⟩) 3 3] (W.alloc (.cells #[.int .u64 1, .int .u64 1, .int .u64 2] 22)) fun e w' => e = .returned (.tuple #[]) ∧ Wrote b base v W [1, 1, 1, 1, 1, 2] w') := Lib.hid (fun b base v W h => num_three b base v 1 1 2 [] W h (by simp) (by omega) (by omega) (by omega))
  have HBY : Hid (∀ b base v W, WR W b base v [1, 1, 1, 1, 1, 2] → Calls Try.prog 43 #[.pointer (some ⟨b, 0, none⟩)] W (Owned W [1, 1, 1, 1, 1, 2])) := Lib.hid (fun b base v W h => bytes_wr b base v _ W h (by simp))
  obtain ⟨B1, s0, sz⟩ := box1 w #[.int .i64 1, .int .u64 1, .int .u64 2, .int .u64 0, .int .i64 0, .int .i64 0, .int .i64 0, .slice none 0 0, .slice none 0 0, .int .i64 0, .slice none 0 0, .int .i64 0, .int .i64 0] 30
  have HB0 := Lib.hid B1
  have HT0 := Lib.hid s0
  obtain ⟨q0, q1, q2, q3, q4, q5, q6, q7, q8, q9, q10, q11, q12⟩ := cmd_at s0
  clear hsd B1 s0 sz
  unfold cmdV ofV at *
  go_enter Try.func18, Try.ntmps18
  go_wp2_with fail
  generalize w.alloc (.cells #[.int .i64 1, .int .u64 1, .int .u64 2, .int .u64 0, .int .i64 0, .int .i64 0, .int .i64 0, .slice none 0 0, .slice none 0 0, .int .i64 0, .slice none 0 0, .int .i64 0, .int .i64 0] 30) = W0 at HB0 HT0 q0 q1 q2 q3 q4 q5 q6 q7 q8 q9 q10 q11 q12 ⊢
  refine (HSD.out W0).mono ?_
  rintro e W1 ⟨rfl, hb⟩
  obtain ⟨g, hg⟩ : ∃ g, W1.heap.size = g := ⟨_, rfl⟩
  obtain ⟨B2, bn, bz⟩ := box1 W1 #[.slice none 0 0] 84
  have HT2 := Lib.hid (ex_below (ex_below HT0.out hb) B2)
  have HB2 := Lib.hid ((HB0.out.trans (hb.mono HB0.out.size)).trans (B2.mono (Nat.le_trans HB0.out.size hb.size)))
  have HG : Hid (w.heap.size < g) := Lib.hid (by have := ex_lt HT0.out; have := hb.size; omega)
  rw [hg] at bn bz
  have HWR : Hid (WR (W1.alloc (.cells #[.slice none 0 0] 84)) g (g + 1) (.slice none 0 0) []) := Lib.hid ⟨bn, by omega, by rw [bz]; omega, World.ownsRow_nil _ _ _ _, by simp⟩
  have HBZ := Lib.hid bz
  clear hb B2 bn bz HB0 HT0 q0 q1 q2 q3 q4 q5 q6 q7 q8 q9 q10 q11 q12 HSD
  obtain ⟨q0, q1, q2, q3, q4, q5, q6, q7, q8, q9, q10, q11, q12⟩ := cmd_at HT2.out
  have hn := HNM.out _ _ _ _ HWR.out
  rw [HBZ.out] at hn
  clear HNM
  go_wp2_with fail
  refine hn.mono ?_
  rintro e W3 ⟨rfl, v1, hw3, ht3, hm3⟩
  have HT3 := Lib.hid ((ht3.block w.heap.size (ex_lt HT2.out) (by have := HG.out; omega) (by simp [Value.ownBlock])).trans HT2.out)
  have HB3 := Lib.hid (Turn.outside ht3 HB2.out HB2.out.size (Nat.le_of_lt HG.out) (by simp [Value.ownBlock]))
  have HW3 := Lib.hid hw3
  clear hn hw3 ht3 hm3 HT2 HB2 HWR HBZ q0 q1 q2 q3 q4 q5 q6 q7 q8 q9 q10 q11 q12
  obtain ⟨q0, q1, q2, q3, q4, q5, q6, q7, q8, q9, q10, q11, q12⟩ := cmd_at HT3.out
  go_wp2_with fail
  refine (HOF.out W3).mono ?_
  rintro e W4 ⟨rfl, hb⟩
  obtain ⟨B5, f0, fz⟩ := box1 W4 #[.bool false, .bool false, .bool false, .bool false, .bool false] 106
  have HB5 := Lib.hid ((HB3.out.trans (hb.mono HB3.out.size)).trans (B5.mono (Nat.le_trans HB3.out.size hb.size)))
  have HW5 := Lib.hid ((HW3.out.kept hb).kept B5)
  obtain ⟨⟨r0, r1, r2, r3, r4⟩, -⟩ := five_at f0
  clear hb B5 f0 fz HB3 HW3 HT3 q0 q1 q2 q3 q4 q5 q6 q7 q8 q9 q10 q11 q12 HOF
  go_wp2_with fail
  refine (HBY.out _ _ _ _ HW5.out).mono ?_
  rintro e W6 ⟨v6, rfl, ho, hb⟩
  have HO6 := Lib.hid ho
  have HB6 := Lib.hid (HB5.out.trans (hb.mono HB5.out.size))
  have HZ6 := Lib.hid HB5.out.size
  clear ho hb
  go_wp2_with fail
  go_ret2
  exact ⟨_, rfl, HO6.out.mono HZ6.out, HB6.out⟩
/- The numbers that each command begins with. -/
open Go.RowKit
def hK (ds : List Nat) : Nat := nN 12 ds
def hC (ds : List Nat) : Nat := nN 8 (nR 12 ds)
def hQ (ds : List Nat) : Nat := nN 18446744073709551615 (nR 8 (nR 12 ds))
def hRest (ds : List Nat) : List Nat := nR 18446744073709551615 (nR 8 (nR 12 ds))
def hBad (ds : List Nat) : Bool := nB 18446744073709551615 (nR 8 (nR 12 ds))
theorem idx_arr {P : Program} {t e : TypeId} {n : Nat} {A : Array Value} {v : Value} (h : P.underlying t = some (.array n e)) (z : ∀ w, Sem.run P (Go.sizeOf e) w = .ok 1 w) (a : ∀ w, Sem.run P (isAgg e) w = .ok false w) (k : Nat) (hk : k < n) (hn : n < 1000) (hA : A[k]? = some v) (w : World) :
    Sem.run P (Instr.index t (.agg A) (.int .i64 k)) w = .ok v w := by
  have hi : IntKind.i64.wrap (k : Int) = (k : Int) := by rw [IntKind.wrap_i64]; omega
  simp [Instr.index, run_underlying h, asIntOf, go_sem, z, a, hA, hk]
theorem most_read (w : World) : Sem.run Try.prog (Instr.index 174 (.agg #[.int .u64 12, .int .u64 8, .int .u64 18446744073709551615]) (.int .i64 0)) w = .ok (.int .u64 12) w ∧ Sem.run Try.prog (Instr.index 174 (.agg #[.int .u64 12, .int .u64 8, .int .u64 18446744073709551615]) (.int .i64 1)) w = .ok (.int .u64 8) w ∧ Sem.run Try.prog (Instr.index 174 (.agg #[.int .u64 12, .int .u64 8, .int .u64 18446744073709551615]) (.int .i64 2)) w = .ok (.int .u64 18446744073709551615) w :=
  ⟨idx_arr Try.underlying174 Try.sizeOf22 Try.isAgg22 0 (by omega) (by omega) rfl w, idx_arr Try.underlying174 Try.sizeOf22 Try.isAgg22 1 (by omega) (by omega) rfl w, idx_arr Try.underlying174 Try.sizeOf22 Try.isAgg22 2 (by omega) (by omega) rfl w⟩
theorem keep_other {w : World} {T N : Nat} {ob : Obj} (k : w.heap[T]? = some ob) (h : T ≠ N) (j : Nat) (u : Value) : (w.setCell ⟨N, j, none⟩ u).heap[T]? = some ob := (Below.heap_setCell _ _ _ _ (by exact h)).trans k
theorem thr_fr {w : World} {N : Nat} {x y z : Value} {t : TypeId} (h : w.heap[N]? = some (.cells #[x, y, z] t (0, 0))) : (w.cell? ⟨N, 0, none⟩ = some x ∧ w.cell? ⟨N, 1, none⟩ = some y ∧ w.cell? ⟨N, 2, none⟩ = some z) ∧ ∀ o, w.frozen? ⟨N, o, none⟩ = false := by
  simp [World.cell?, World.frozen?, h]
set_option maxRecDepth 100000 in
set_option maxHeartbeats 8000000 in
theorem head_rd (b : Nat) (ds : List Nat) (bad : Bool) (w : World) (hr : RR w b ds bad) :
    Calls Try.prog 70 #[.pointer (some ⟨b, 0, none⟩)] w fun e w' => e = .returned (cmdV (hK ds : Int) (hC ds : Int) (hQ ds : Int) 0 0 0 0 none 0 0 none 0 0 0 none 0 0 0 0) ∧ RR w' b (hRest ds) (hBad ds) ∧ Rd b w w' := by
  have hbl := hr.lt
  have HBL := Lib.hid hbl
  have h12 : hK ds ≤ 12 := nN_le 12 ds
  have H1 : Hid (∀ W, RR W b ds bad → Calls Try.prog 71 #[.pointer (some ⟨b, 0, none⟩), .int .u64 12] W fun e w' => e = .returned (.int .u64 ((hK ds : Nat) : Int)) ∧ RR w' b (nR 12 ds) (nB 12 ds) ∧ Rd b W w') := Lib.hid (fun W h => num_rd1 b 12 ds bad W h)
  have H2 : Hid (∀ W, RR W b (nR 12 ds) (nB 12 ds) → Calls Try.prog 71 #[.pointer (some ⟨b, 0, none⟩), .int .u64 8] W fun e w' => e = .returned (.int .u64 ((hC ds : Nat) : Int)) ∧ RR w' b (nR 8 (nR 12 ds)) (nB 8 (nR 12 ds)) ∧ Rd b W w') := Lib.hid (fun W h => num_rd1 b 8 _ _ W h)
  have H3 : Hid (∀ W, RR W b (nR 8 (nR 12 ds)) (nB 8 (nR 12 ds)) → Calls Try.prog 71 #[.pointer (some ⟨b, 0, none⟩), .int .u64 18446744073709551615] W fun e w' => e = .returned (.int .u64 ((hQ ds : Nat) : Int)) ∧ RR w' b (hRest ds) (hBad ds) ∧ Rd b W w') := Lib.hid (fun W h => num_rd1 b 18446744073709551615 _ _ W h)
  obtain ⟨n0, e0⟩ : ∃ n, hK ds = n := ⟨_, rfl⟩
  obtain ⟨n1, e1⟩ : ∃ n, hC ds = n := ⟨_, rfl⟩
  obtain ⟨n2, e2⟩ : ∃ n, hQ ds = n := ⟨_, rfl⟩
  obtain ⟨d3, e3⟩ : ∃ n, hRest ds = n := ⟨_, rfl⟩
  obtain ⟨b3, e4⟩ : ∃ n, hBad ds = n := ⟨_, rfl⟩
  rw [e0] at H1 h12
  rw [e1] at H2
  rw [e2, e3, e4] at H3
  rw [e0, e1, e2, e3, e4]
  generalize nR 8 (nR 12 ds) = d2 at H2 H3
  generalize nB 8 (nR 12 ds) = b2 at H2 H3
  generalize nR 12 ds = d1 at H1 H2
  generalize nB 12 ds = b1 at H1 H2
  clear e0 e1 e2 e3 e4
  have w0z : IntKind.i64.wrap (n0 : Int) = (n0 : Int) := IntWalk.i64_in _ ⟨by omega, by omega⟩
  clear h12
  obtain ⟨B2, s0, s1, sz⟩ := box2 w #[.int .i64 0, .int .u64 0, .int .u64 0, .int .u64 0, .int .i64 0, .int .i64 0, .int .i64 0, .slice none 0 0, .slice none 0 0, .int .i64 0, .slice none 0 0, .int .i64 0, .int .i64 0] #[.int .u64 0, .int .u64 0, .int .u64 0] 30 174
  have HR0 := Lib.hid (hr.kept B2)
  have HD0 := Lib.hid (Rd.below (b := b) B2)
  have HS0 := Lib.hid s0
  have HS1 := Lib.hid s1
  clear hr hbl s0 s1 sz B2
  unfold cmdV
  go_enter Try.func70, Try.ntmps70
  go_wp2_with fail
  go_loopg [7] 3 (fun kx s7 wr => ∃ x0 x1 x2 : Int, Hid (wr.heap[w.heap.size]? = some (.cells #[.int .i64 0, .int .u64 0, .int .u64 0, .int .u64 0, .int .i64 0, .int .i64 0, .int .i64 0, .slice none 0 0, .slice none 0 0, .int .i64 0, .slice none 0 0, .int .i64 0, .int .i64 0] 30 (0, 0))) ∧ Hid (wr.heap[w.heap.size + 1]? = some (.cells #[.int .u64 x0, .int .u64 x1, .int .u64 x2] 174 (0, 0))) ∧ Hid (Rd b w wr) ∧ ((s7 = .int .i64 0 ∧ 3 ≤ kx ∧ Hid (x1 = 0 ∧ x2 = 0 ∧ RR wr b ds bad)) ∨ (s7 = .int .i64 1 ∧ 2 ≤ kx ∧ Hid (x0 = n0 ∧ x2 = 0 ∧ RR wr b d1 b1)) ∨ (s7 = .int .i64 2 ∧ 1 ≤ kx ∧ Hid (x0 = n0 ∧ x1 = n1 ∧ RR wr b d2 b2)) ∨ (s7 = .int .i64 3 ∧ Hid (x0 = n0 ∧ x1 = n1 ∧ x2 = n2 ∧ RR wr b d3 b3))))
  case atStart => exact ⟨0, 0, 0, HS0, HS1, HD0, Or.inl ⟨rfl, by omega, Lib.hid ⟨rfl, rfl, HR0.out⟩⟩⟩
  case round =>
    obtain ⟨x0, x1, x2, HS, HH, HD, hcase⟩ := hrel
    have hne : w.heap.size ≠ b := by have := HBL.out; omega
    have hne1 : w.heap.size + 1 ≠ b := by have := HBL.out; omega
    rcases hcase with ⟨rfl, hkx, HX⟩ | ⟨rfl, hkx, HX⟩ | ⟨rfl, hkx, HX⟩ | ⟨rfl, HX⟩
    · obtain ⟨rfl, rfl, hrr⟩ := HX.out
      have hn := H1.out wr hrr
      obtain ⟨ix0, ix1, ix2⟩ := most_read wr
      clear hrr HX
      go_wp2_with fail
      refine hn.mono ?_
      rintro e w2 ⟨rfl, hr2, ht2⟩
      have hs2 := ht2.keep HS.out hne
      have hh2 := ht2.keep HH.out hne1
      have HD2 := Lib.hid (HD.out.trans ht2)
      have HB3 : Hid (Below w.heap.size w2 (w2.setCell ⟨w.heap.size + 1, 0, none⟩ (.int .u64 n0))) := Lib.hid ((Below.refl _ _).setCell (p := ⟨w.heap.size + 1, 0, none⟩) (Nat.le_succ _) _)
      have HR3 := hr2.under HB3.out HBL.out
      have HD3 := Lib.hid (HD2.out.under HB3.out (Nat.le_refl _))
      have HS3 := Lib.hid (keep_other hs2 (by omega : w.heap.size ≠ w.heap.size + 1) 0 (.int .u64 n0))
      have HH3 := heap_set hh2 0 (.int .u64 n0)
      obtain ⟨⟨q0, q1, q2⟩, qf⟩ := thr_fr hh2
      have HR3' := Lib.hid HR3
      have HH3' := Lib.hid HH3
      clear hn hr2 ht2 hs2 hh2 HS HH HD HD2 HR3 HH3
      go_wp2_with fail
      go_roundg 2
      case measure => omega
      case rel => exact ⟨_, _, _, HS3, HH3', HD3, Or.inr (Or.inl ⟨rfl, by omega, Lib.hid ⟨rfl, rfl, HR3'.out⟩⟩)⟩
    · obtain ⟨rfl, rfl, hrr⟩ := HX.out
      have hn := H2.out wr hrr
      obtain ⟨ix0, ix1, ix2⟩ := most_read wr
      clear hrr HX
      go_wp2_with fail
      refine hn.mono ?_
      rintro e w2 ⟨rfl, hr2, ht2⟩
      have hs2 := ht2.keep HS.out hne
      have hh2 := ht2.keep HH.out hne1
      have HD2 := Lib.hid (HD.out.trans ht2)
      have HB3 : Hid (Below w.heap.size w2 (w2.setCell ⟨w.heap.size + 1, 1, none⟩ (.int .u64 n1))) := Lib.hid ((Below.refl _ _).setCell (p := ⟨w.heap.size + 1, 1, none⟩) (Nat.le_succ _) _)
      have HR3 := hr2.under HB3.out HBL.out
      have HD3 := Lib.hid (HD2.out.under HB3.out (Nat.le_refl _))
      have HS3 := Lib.hid (keep_other hs2 (by omega : w.heap.size ≠ w.heap.size + 1) 1 (.int .u64 n1))
      have HH3 := heap_set hh2 1 (.int .u64 n1)
      obtain ⟨⟨q0, q1, q2⟩, qf⟩ := thr_fr hh2
      have HR3' := Lib.hid HR3
      have HH3' := Lib.hid HH3
      clear hn hr2 ht2 hs2 hh2 HS HH HD HD2 HR3 HH3
      go_wp2_with fail
      go_roundg 1
      case measure => omega
      case rel => exact ⟨_, _, _, HS3, HH3', HD3, Or.inr (Or.inr (Or.inl ⟨rfl, by omega, Lib.hid ⟨rfl, rfl, HR3'.out⟩⟩))⟩
    · obtain ⟨rfl, rfl, hrr⟩ := HX.out
      have hn := H3.out wr hrr
      obtain ⟨ix0, ix1, ix2⟩ := most_read wr
      clear hrr HX
      go_wp2_with fail
      refine hn.mono ?_
      rintro e w2 ⟨rfl, hr2, ht2⟩
      have hs2 := ht2.keep HS.out hne
      have hh2 := ht2.keep HH.out hne1
      have HD2 := Lib.hid (HD.out.trans ht2)
      have HB3 : Hid (Below w.heap.size w2 (w2.setCell ⟨w.heap.size + 1, 2, none⟩ (.int .u64 n2))) := Lib.hid ((Below.refl _ _).setCell (p := ⟨w.heap.size + 1, 2, none⟩) (Nat.le_succ _) _)
      have HR3 := hr2.under HB3.out HBL.out
      have HD3 := Lib.hid (HD2.out.under HB3.out (Nat.le_refl _))
      have HS3 := Lib.hid (keep_other hs2 (by omega : w.heap.size ≠ w.heap.size + 1) 2 (.int .u64 n2))
      have HH3 := heap_set hh2 2 (.int .u64 n2)
      obtain ⟨⟨q0, q1, q2⟩, qf⟩ := thr_fr hh2
      have HR3' := Lib.hid HR3
      have HH3' := Lib.hid HH3
      clear hn hr2 ht2 hs2 hh2 HS HH HD HD2 HR3 HH3
      go_wp2_with fail
      go_roundg 0
      case measure => omega
      case rel => exact ⟨_, _, _, HS3, HH3', HD3, Or.inr (Or.inr (Or.inr ⟨rfl, Lib.hid ⟨rfl, rfl, rfl, HR3'.out⟩⟩))⟩
    · obtain ⟨rfl, rfl, rfl, hrr⟩ := HX.out
      obtain ⟨⟨q0, q1, q2⟩, qf⟩ := thr_fr HH.out
      have pf := cmd_fr HS.out
      have hp := put13_at HS.out (.int .i64 n0) (.int .u64 n1) (.int .u64 n2) (.int .u64 0) (.int .i64 0) (.int .i64 0) (.int .i64 0) (.slice none 0 0) (.slice none 0 0) (.int .i64 0) (.slice none 0 0) (.int .i64 0) (.int .i64 0)
      have hb := put13_below (B := w.heap.size) wr (Nat.le_refl w.heap.size) (.int .i64 n0) (.int .u64 n1) (.int .u64 n2) (.int .u64 0) (.int .i64 0) (.int .i64 0) (.int .i64 0) (.slice none 0 0) (.slice none 0 0) (.int .i64 0) (.slice none 0 0) (.int .i64 0) (.int .i64 0)
      have HP := Lib.hid (And.intro hp (And.intro (hrr.under hb HBL.out) (HD.out.under hb (Nat.le_refl _))))
      obtain ⟨p0, p1, p2, p3, p4, p5, p6, p7, p8, p9, p10, p11, p12⟩ := cmd_at HS.out
      clear hrr HX hp hb HS HH HD H1 H2 H3
      go_wp2_with fail
      clear p0 p1 p2 p3 p4 p5 p6 p7 p8 p9 p10 p11 p12
      obtain ⟨hp, hr4, hd4⟩ := HP.out
      unfold put13 at hp hr4 hd4
      obtain ⟨p0, p1, p2, p3, p4, p5, p6, p7, p8, p9, p10, p11, p12⟩ := cmd_at hp
      refine bodyPost_ret (v := .agg #[.int .i64 n0, .int .u64 n1, .int .u64 n2, .int .u64 0, .int .i64 0, .int .i64 0, .int .i64 0, .slice none 0 0, .slice none 0 0, .int .i64 0, .slice none 0 0, .int .i64 0, .int .i64 0]) (by simp [results, Try.results70, go_sem, p0, p1, p2, p3, p4, p5, p6, p7, p8, p9, p10, p11, p12]) rfl ⟨rfl, hr4, hd4⟩
end Go.Proofs.Ytibjboacjobaoaa

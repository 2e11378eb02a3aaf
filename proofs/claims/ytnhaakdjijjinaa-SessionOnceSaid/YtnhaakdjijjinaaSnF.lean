/- Session: the law's calls as they came in, and whether they are few. -/
import Derived.Test.YtnhaakdjijjinaaSnE
namespace Go.Proofs.Ytnhaakdjijjinaa
open Go.RowKit Go.Maps
theorem op_at {w : World} {N : Nat} { x0 x1 x2 x3 x4 x5 x6 x7 x8 x9 x10 x11 x12 x13 x14 x15 x16 : Value} {t : TypeId} (h : w.heap[N]? = some (.cells #[x0, x1, x2, x3, x4, x5, x6, x7, x8, x9, x10, x11, x12, x13, x14, x15, x16] t (0, 0))) : (w.cell? ⟨N, 0, none⟩ = some x0 ∧ w.cell? ⟨N, 1, none⟩ = some x1 ∧ w.cell? ⟨N, 2, none⟩ = some x2 ∧ w.cell? ⟨N, 3, none⟩ = some x3 ∧ w.cell? ⟨N, 4, none⟩ = some x4 ∧ w.cell? ⟨N, 5, none⟩ = some x5 ∧ w.cell? ⟨N, 6, none⟩ = some x6 ∧ w.cell? ⟨N, 7, none⟩ = some x7 ∧ w.cell? ⟨N, 8, none⟩ = some x8 ∧ w.cell? ⟨N, 9, none⟩ = some x9 ∧ w.cell? ⟨N, 10, none⟩ = some x10 ∧ w.cell? ⟨N, 11, none⟩ = some x11 ∧ w.cell? ⟨N, 12, none⟩ = some x12 ∧ w.cell? ⟨N, 13, none⟩ = some x13 ∧ w.cell? ⟨N, 14, none⟩ = some x14 ∧ w.cell? ⟨N, 15, none⟩ = some x15 ∧ w.cell? ⟨N, 16, none⟩ = some x16) := by
  simp [World.cell?, h]
theorem op_fr {w : World} {N : Nat} { x0 x1 x2 x3 x4 x5 x6 x7 x8 x9 x10 x11 x12 x13 x14 x15 x16 : Value} {t : TypeId} (h : w.heap[N]? = some (.cells #[x0, x1, x2, x3, x4, x5, x6, x7, x8, x9, x10, x11, x12, x13, x14, x15, x16] t (0, 0))) : ∀ o, w.frozen? ⟨N, o, none⟩ = false := by
  simp [World.frozen?, h]
def put17 (w : World) (N : Nat) (y0 y1 y2 y3 y4 y5 y6 y7 y8 y9 y10 y11 y12 y13 y14 y15 y16 : Value) : World := ((((((((((((((((w.setCell ⟨N, 0, none⟩ y0).setCell ⟨N, 1, none⟩ y1).setCell ⟨N, 2, none⟩ y2).setCell ⟨N, 3, none⟩ y3).setCell ⟨N, 4, none⟩ y4).setCell ⟨N, 5, none⟩ y5).setCell ⟨N, 6, none⟩ y6).setCell ⟨N, 7, none⟩ y7).setCell ⟨N, 8, none⟩ y8).setCell ⟨N, 9, none⟩ y9).setCell ⟨N, 10, none⟩ y10).setCell ⟨N, 11, none⟩ y11).setCell ⟨N, 12, none⟩ y12).setCell ⟨N, 13, none⟩ y13).setCell ⟨N, 14, none⟩ y14).setCell ⟨N, 15, none⟩ y15).setCell ⟨N, 16, none⟩ y16
theorem put17_at {w : World} {N : Nat} { x0 x1 x2 x3 x4 x5 x6 x7 x8 x9 x10 x11 x12 x13 x14 x15 x16 : Value} {t : TypeId} (h : w.heap[N]? = some (.cells #[x0, x1, x2, x3, x4, x5, x6, x7, x8, x9, x10, x11, x12, x13, x14, x15, x16] t (0, 0))) (y0 y1 y2 y3 y4 y5 y6 y7 y8 y9 y10 y11 y12 y13 y14 y15 y16 : Value) :
    (put17 w N y0 y1 y2 y3 y4 y5 y6 y7 y8 y9 y10 y11 y12 y13 y14 y15 y16).heap[N]? = some (.cells #[y0, y1, y2, y3, y4, y5, y6, y7, y8, y9, y10, y11, y12, y13, y14, y15, y16] t (0, 0)) := by
  unfold put17
  have hh := heap_set (heap_set (heap_set (heap_set (heap_set (heap_set (heap_set (heap_set (heap_set (heap_set (heap_set (heap_set (heap_set (heap_set (heap_set (heap_set (heap_set h 0 y0) 1 y1) 2 y2) 3 y3) 4 y4) 5 y5) 6 y6) 7 y7) 8 y8) 9 y9) 10 y10) 11 y11) 12 y12) 13 y13) 14 y14) 15 y15) 16 y16
  simp only [List.setIfInBounds_toArray, List.set_cons_zero, List.set_cons_succ] at hh
  exact hh
theorem put17_below {B : Nat} (w : World) {N : Nat} (hN : B ≤ N) (y0 y1 y2 y3 y4 y5 y6 y7 y8 y9 y10 y11 y12 y13 y14 y15 y16 : Value) : Below B w (put17 w N y0 y1 y2 y3 y4 y5 y6 y7 y8 y9 y10 y11 y12 y13 y14 y15 y16) :=
  (((((((((((((((((Below.refl B w).setCell (p := ⟨N, 0, none⟩) hN y0).setCell (p := ⟨N, 1, none⟩) hN y1).setCell (p := ⟨N, 2, none⟩) hN y2).setCell (p := ⟨N, 3, none⟩) hN y3).setCell (p := ⟨N, 4, none⟩) hN y4).setCell (p := ⟨N, 5, none⟩) hN y5).setCell (p := ⟨N, 6, none⟩) hN y6).setCell (p := ⟨N, 7, none⟩) hN y7).setCell (p := ⟨N, 8, none⟩) hN y8).setCell (p := ⟨N, 9, none⟩) hN y9).setCell (p := ⟨N, 10, none⟩) hN y10).setCell (p := ⟨N, 11, none⟩) hN y11).setCell (p := ⟨N, 12, none⟩) hN y12).setCell (p := ⟨N, 13, none⟩) hN y13).setCell (p := ⟨N, 14, none⟩) hN y14).setCell (p := ⟨N, 15, none⟩) hN y15).setCell (p := ⟨N, 16, none⟩) hN y16
theorem meas_lt (n k : Nat) (v : Value) (hv : v = .int .i64 ((k : Int) + 1)) (h : k < n) : n - (intOf v).toNat < n - (intOf (.int .i64 (k : Int))).toNat := by
  subst hv
  simp only [intOf]
  omega
/-- A call of the law. -/
structure Opn where
  (kd cl rq cd tm id cn st lv ge fr lf du tl : Int) (a : Option Addr) (n ca : Nat) (nt de : Int) (xs : List Nat)
def OpCells (w : World) (b o : Nat) (x : Opn) : Prop := w.cell? ⟨b, o, none⟩ = some (.int .i64 x.kd) ∧ w.cell? ⟨b, o + 1, none⟩ = some (.int .u64 x.cl) ∧ w.cell? ⟨b, o + 2, none⟩ = some (.int .u64 x.rq) ∧ w.cell? ⟨b, o + 3, none⟩ = some (.int .i64 x.cd) ∧ w.cell? ⟨b, o + 4, none⟩ = some (.int .i64 x.tm) ∧ w.cell? ⟨b, o + 5, none⟩ = some (.int .u64 x.id) ∧ w.cell? ⟨b, o + 6, none⟩ = some (.int .i64 x.cn) ∧ w.cell? ⟨b, o + 7, none⟩ = some (.int .i64 x.st) ∧ w.cell? ⟨b, o + 8, none⟩ = some (.int .i64 x.lv) ∧ w.cell? ⟨b, o + 9, none⟩ = some (.int .u64 x.ge) ∧ w.cell? ⟨b, o + 10, none⟩ = some (.int .i64 x.fr) ∧ w.cell? ⟨b, o + 11, none⟩ = some (.int .i64 x.lf) ∧ w.cell? ⟨b, o + 12, none⟩ = some (.int .i64 x.du) ∧ w.cell? ⟨b, o + 13, none⟩ = some (.int .i64 x.tl) ∧ w.cell? ⟨b, o + 14, none⟩ = some (.slice x.a x.n x.ca) ∧ w.cell? ⟨b, o + 15, none⟩ = some (.int .u64 x.nt) ∧ w.cell? ⟨b, o + 16, none⟩ = some (.int .i64 x.de)
def OpIn (w : World) (x : Opn) : Prop := Us w x.a x.n x.xs ∧ (0 ≤ x.cl ∧ x.cl < 18446744073709551616) ∧ (0 ≤ x.rq ∧ x.rq < 18446744073709551616) ∧ x.fr ≤ 9223372036854775807
theorem OpIn.kept {w w' : World} {x : Opn} (h : OpIn w x) (hb : Below w.heap.size w w') : OpIn w' x := ⟨h.1.kept hb, h.2⟩
theorem OpCells.kept {w w' : World} {b o : Nat} {x : Opn} (h : OpCells w b o x) (hb : Below w.heap.size w w') (hlt : b < w.heap.size) : OpCells w' b o x := by
  obtain ⟨q0, q1, q2, q3, q4, q5, q6, q7, q8, q9, q10, q11, q12, q13, q14, q15, q16⟩ := h
  exact ⟨(hb.cell (p := ⟨b, o, none⟩) hlt).trans q0, (hb.cell (p := ⟨b, o + 1, none⟩) hlt).trans q1, (hb.cell (p := ⟨b, o + 2, none⟩) hlt).trans q2, (hb.cell (p := ⟨b, o + 3, none⟩) hlt).trans q3, (hb.cell (p := ⟨b, o + 4, none⟩) hlt).trans q4, (hb.cell (p := ⟨b, o + 5, none⟩) hlt).trans q5, (hb.cell (p := ⟨b, o + 6, none⟩) hlt).trans q6, (hb.cell (p := ⟨b, o + 7, none⟩) hlt).trans q7, (hb.cell (p := ⟨b, o + 8, none⟩) hlt).trans q8, (hb.cell (p := ⟨b, o + 9, none⟩) hlt).trans q9, (hb.cell (p := ⟨b, o + 10, none⟩) hlt).trans q10, (hb.cell (p := ⟨b, o + 11, none⟩) hlt).trans q11, (hb.cell (p := ⟨b, o + 12, none⟩) hlt).trans q12, (hb.cell (p := ⟨b, o + 13, none⟩) hlt).trans q13, (hb.cell (p := ⟨b, o + 14, none⟩) hlt).trans q14, (hb.cell (p := ⟨b, o + 15, none⟩) hlt).trans q15, (hb.cell (p := ⟨b, o + 16, none⟩) hlt).trans q16⟩
def Ops (w : World) (a : Option Addr) (len : Nat) (O : Nat → Opn) : Prop := len ≤ maxLen ∧ (0 < len → ∃ ab ao, a = some ⟨ab, ao, none⟩ ∧ ab < w.heap.size ∧ ∀ k, k < len → OpCells w ab (ao + k * 17) (O k)) ∧ ∀ k, k < len → OpIn w (O k)
theorem Ops.kept {w w' : World} {a : Option Addr} {len : Nat} {O : Nat → Opn} (h : Ops w a len O) (hb : Below w.heap.size w w') : Ops w' a len O := by
  obtain ⟨h1, h2, h3⟩ := h
  refine ⟨h1, fun h0 => ?_, fun k hk => (h3 k hk).kept hb⟩
  obtain ⟨ab, ao, ha, hlt, hc⟩ := h2 h0
  exact ⟨ab, ao, ha, Nat.lt_of_lt_of_le hlt hb.size, fun k hk => (hc k hk).kept hb hlt⟩
set_option maxRecDepth 100000 in
set_option maxHeartbeats 8000000 in
theorem light20 (a0 : Option Addr) (len cap : Nat) (O : Nat → Opn) (w : World) (h : Ops w a0 len O) :
    Calls Try.prog 27 #[.slice a0 len cap] w fun e w' => ∃ z : Bool, e = .returned (.bool z) ∧ (z = true → (∀ k, k < len → (O k).n ≤ 200) ∧ len ≤ 100) ∧ Below w.heap.size w w' := by
  have HO := Lib.hid h
  clear h
  go_enter Try.func27, Try.ntmps27
  go_wp2_with fail
  go_loopw [7] (fun i wr => ∃ k : Nat, k ≤ len ∧ i = .int .i64 k ∧ Hid (∀ j, j < k → (O j).n ≤ 200) ∧ Hid (Below w.heap.size w wr)) (fun i _ => len - (intOf i).toNat)
  case atStart => exact ⟨0, Nat.zero_le _, rfl, Lib.hid (fun j hj => by omega), Lib.hid (Below.refl _ _)⟩
  case round =>
    obtain ⟨k, hk, rfl, HL, HB⟩ := hrel
    by_cases hlt : k < len
    · have h1 := HO.out.kept HB.out
      obtain ⟨ab, ao, rfl, hab, hcs⟩ := h1.2.1 (by omega)
      have hc := hcs k hlt
      unfold OpCells at hc
      obtain ⟨x, hx⟩ : ∃ x, O k = x := ⟨_, rfl⟩
      rw [hx] at hc
      obtain ⟨kd, cl, rq, cd, tm, id, cn, st, lv, ge, fr, lf, du, tl, a, n, ca, nt, de, xs⟩ := x
      have HX := Lib.hid hx
      clear hx
      dsimp only at hc
      obtain ⟨q0, q1, q2, q3, q4, q5, q6, q7, q8, q9, q10, q11, q12, q13, q14, q15, q16⟩ := hc
      have hml := HO.out.1
      have HML : Hid (len ≤ 9223372036854775807) := Lib.hid (by unfold maxLen at hml; omega)
      have k0 : (0 : Int) ≤ (k : Int) := by omega
      have kl : (k : Int) < (len : Int) := by omega
      have d4 : decide ((k : Int) < (len : Int)) = true := by simp [hlt]
      have hw64 : wrap64 ((k : Int) + 1) = (k : Int) + 1 := IntWalk.wrap64_in _ (by have := HML.out; omega)
      obtain ⟨X1, X2, -⟩ := box1 wr #[.int .i64 kd, .int .u64 cl, .int .u64 rq, .int .i64 cd, .int .i64 tm, .int .u64 id, .int .i64 cn, .int .i64 st, .int .i64 lv, .int .u64 ge, .int .i64 fr, .int .i64 lf, .int .i64 du, .int .i64 tl, .slice a n ca, .int .u64 nt, .int .i64 de] 64
      obtain ⟨Y1, Y2, -⟩ := box1 wr #[.int .i64 0, .int .u64 0, .int .u64 0, .int .i64 0, .int .i64 0, .int .u64 0, .int .i64 0, .int .i64 0, .int .i64 0, .int .u64 0, .int .i64 0, .int .i64 0, .int .i64 0, .int .i64 0, .slice none 0 0, .int .u64 0, .int .i64 0] 64
      obtain ⟨r0, r1, r2, r3, r4, r5, r6, r7, r8, r9, r10, r11, r12, r13, r14, r15, r16⟩ := op_at Y2
      have rf := op_fr Y2
      obtain ⟨s0, s1, s2, s3, s4, s5, s6, s7, s8, s9, s10, s11, s12, s13, s14, s15, s16⟩ := op_at X2
      have HB1 := Lib.hid (HB.out.trans (X1.mono HB.out.size))
      have HLT := Lib.hid (fun W => light19 cd tm id cn st lv ge fr lf du tl a n ca nt de W)
      obtain ⟨z, hz⟩ : ∃ z, decide (n ≤ 200) = z := ⟨_, rfl⟩
      rw [hz] at HLT
      have HZ : Hid (z = true → n ≤ 200) := Lib.hid (fun e => by rw [e] at hz; exact of_decide_eq_true hz)
      unfold repV at HLT
      clear hml X1 X2 Y1 Y2 h1 hcs hab hz
      go_wp2_with fail
      clear q0 q1 q2 q3 q4 q5 q6 q7 q8 q9 q10 q11 q12 q13 q14 q15 q16 r0 r1 r2 r3 r4 r5 r6 r7 r8 r9 r10 r11 r12 r13 r14 r15 r16 rf
      generalize wr.alloc (.cells #[.int .i64 kd, .int .u64 cl, .int .u64 rq, .int .i64 cd, .int .i64 tm, .int .u64 id, .int .i64 cn, .int .i64 st, .int .i64 lv, .int .u64 ge, .int .i64 fr, .int .i64 lf, .int .i64 du, .int .i64 tl, .slice a n ca, .int .u64 nt, .int .i64 de] 64) = W1 at HB1 s0 s1 s2 s3 s4 s5 s6 s7 s8 s9 s10 s11 s12 s13 s14 s15 s16 ⊢
      refine (HLT.out W1).mono ?_
      rintro e w2 ⟨rfl, hb⟩
      have HB2 := Lib.hid (HB1.out.trans (hb.mono HB1.out.size))
      clear hb s0 s1 s2 s3 s4 s5 s6 s7 s8 s9 s10 s11 s12 s13 s14 s15 s16 HLT
      cases z
      case false =>
        go_wp2_with fail
        go_ret
        exact ⟨false, rfl, ⟨fun h => absurd h (by decide), HB2.out⟩⟩
      case true =>
        have HZ2 := Lib.hid (HZ.out rfl)
        clear HZ
        go_wp2_with fail
        go_roundw
        case rel => exact ⟨k + 1, hlt, by rw [hw64]; rfl, Lib.hid (fun j hj => by
          rcases Nat.lt_succ_iff_lt_or_eq.1 hj with h | h
          · exact HL.out j h
          · subst h; rw [HX.out]; exact HZ2.out), HB2⟩
        case measure => exact meas_lt len k _ (by rw [hw64]) hlt
    · obtain rfl : k = len := by omega
      obtain ⟨z, hz⟩ : ∃ z, decide ((k : Int) ≤ 100) = z := ⟨_, rfl⟩
      go_wp2_with fail
      go_ret
      exact ⟨z, rfl, fun h => ⟨HL.out, by rw [h] at hz; have := of_decide_eq_true hz; omega⟩, HB.out⟩
end Go.Proofs.Ytnhaakdjijjinaa

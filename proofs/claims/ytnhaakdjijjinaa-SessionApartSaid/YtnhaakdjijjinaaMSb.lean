import Derived.Test.YtnhaakdjijjinaaMSa
import Derived.DeepKeys4
namespace Go.Proofs.Ytnhaakdjijjinaa
open Go.RowKit
/- Session: the law's calls as they came in, and whether they are few. -/
open Go.RowKit Go.Maps
theorem op_at {w : World} {N : Nat} { x0 x1 x2 x3 x4 x5 x6 x7 x8 x9 x10 x11 x12 x13 x14 x15 x16 : Value} {t : TypeId} (h : w.heap[N]? = some (.cells #[x0, x1, x2, x3, x4, x5, x6, x7, x8, x9, x10, x11, x12, x13, x14, x15, x16] t (0, 0))) : (w.cell? ⟨N, 0, none⟩ = some x0 ∧ w.cell? ⟨N, 1, none⟩ = some x1 ∧ w.cell? ⟨N, 2, none⟩ = some x2 ∧ w.cell? ⟨N, 3, none⟩ = some x3 ∧ w.cell? ⟨N, 4, none⟩ = some x4 ∧ w.cell? ⟨N, 5, none⟩ = some x5 ∧ w.cell? ⟨N, 6, none⟩ = some x6 ∧ w.cell? ⟨N, 7, none⟩ = some x7 ∧ w.cell? ⟨N, 8, none⟩ = some x8 ∧ w.cell? ⟨N, 9, none⟩ = some x9 ∧ w.cell? ⟨N, 10, none⟩ = some x10 ∧ w.cell? ⟨N, 11, none⟩ = some x11 ∧ w.cell? ⟨N, 12, none⟩ = some x12 ∧ w.cell? ⟨N, 13, none⟩ = some x13 ∧ w.cell? ⟨N, 14, none⟩ = some x14 ∧ w.cell? ⟨N, 15, none⟩ = some x15 ∧ w.cell? ⟨N, 16, none⟩ = some x16) := by
  simp [World.cell?, h]
theorem op_fr {w : World} {N : Nat} { x0 x1 x2 x3 x4 x5 x6 x7 x8 x9 x10 x11 x12 x13 x14 x15 x16 : Value} {t : TypeId} (h : w.heap[N]? = some (.cells #[x0, x1, x2, x3, x4, x5, x6, x7, x8, x9, x10, x11, x12, x13, x14, x15, x16] t (0, 0))) : ∀ o, w.frozen? ⟨N, o, none⟩ = false := by
  simp [World.frozen?, h]
def put17 (w : World) (N : Nat) (y0 y1 y2 y3 y4 y5 y6 y7 y8 y9 y10 y11 y12 y13 y14 y15 y16 : Value) : World := ((((((((((((((((w.setCell ⟨N, 0, none⟩ y0).setCell ⟨N, 1, none⟩ y1).setCell ⟨N, 2, none⟩ y2).setCell ⟨N, 3, none⟩ y3).setCell ⟨N, 4, none⟩ y4).setCell ⟨N, 5, none⟩ y5).setCell ⟨N, 6, none⟩ y6).setCell ⟨N, 7, none⟩ y7).setCell ⟨N, 8, none⟩ y8).setCell ⟨N, 9, none⟩ y9).setCell ⟨N, 10, none⟩ y10).setCell ⟨N, 11, none⟩ y11).setCell ⟨N, 12, none⟩ y12).setCell ⟨N, 13, none⟩ y13).setCell ⟨N, 14, none⟩ y14).setCell ⟨N, 15, none⟩ y15).setCell ⟨N, 16, none⟩ y16
theorem put17_at {w : World} {N : Nat} { x0 x1 x2 x3 x4 x5 x6 x7 x8 x9 x10 x11 x12 x13 x14 x15 x16 : Value} {t : TypeId} (h : w.heap[N]? = some (.cells #[x0, x1, x2, x3, x4, x5, x6, x7, x8, x9, x10, x11, x12, x13, x14, x15, x16] t (0, 0))) (y0 y1 y2 y3 y4 y5 y6 y7 y8 y9 y10 y11 y12 y13 y14 y15 y16 : Value) :
    (put17 w N y0 y1 y2 y3 y4 y5 y6 y7 y8 y9 y10 y11 y12 y13 y14 y15 y16).heap[N]? = some (.cells #[y0, y1, y2, y3, y4, y5, y6, y7, y8, y9, y10, y11, y12, y13, y14, y15, y16] t (0, 0)) := by
  unfold put17
  have hh := heap_set (heap_set (heap_set (heap_set (heap_set (heap_set (heap_set (heap_set (heap_set (heap_set (heap_set (heap_set (heap_set (heap_set (heap_set (heap_set (heap_set h 0 y0) 1 y1) 2 y2) 3 y3) 4 y4) 5 y5) 6 y6) 7 y7) 8 y8) 9 y9) 10 y10) 11 y11) 12 y12) 13 y13) 14 y14) 15 y15) 16 y16
  simp only [List.setIfInBounds_toArray, List.set_cons_zero, List.set_cons_succ] at hh
  exact hh
theorem put17_below {B : Nat} (w : World) {N : Nat} (hN : B ≤ N) (y0 y1 y2 y3 y4 y5 y6 y7 y8 y9 y10 y11 y12 y13 y14 y15 y16 : Value) : Below B w (put17 w N y0 y1 y2 y3 y4 y5 y6 y7 y8 y9 y10 y11 y12 y13 y14 y15 y16) :=
  (((((((((((((((((Below.refl B w).setCell (p := ⟨N, 0, none⟩) hN y0).setCell (p := ⟨N, 1, none⟩) hN y1).setCell (p := ⟨N, 2, none⟩) hN y2).setCell (p := ⟨N, 3, none⟩) hN y3).setCell (p := ⟨N, 4, none⟩) hN y4).setCell (p := ⟨N, 5, none⟩) hN y5).setCell (p := ⟨N, 6, none⟩) hN y6).setCell (p := ⟨N, 7, none⟩) hN y7).setCell (p := ⟨N, 8, none⟩) hN y8).setCell (p := ⟨N, 9, none⟩) hN y9).setCell (p := ⟨N, 10, none⟩) hN y10).setCell (p := ⟨N, 11, none⟩) hN y11).setCell (p := ⟨N, 12, none⟩) hN y12).setCell (p := ⟨N, 13, none⟩) hN y13).setCell (p := ⟨N, 14, none⟩) hN y14).setCell (p := ⟨N, 15, none⟩) hN y15).setCell (p := ⟨N, 16, none⟩) hN y16
theorem meas_lt (n k : Nat) (v : Value) (hv : v = .int .i64 ((k : Int) + 1)) (h : k < n) : n - (intOf v).toNat < n - (intOf (.int .i64 (k : Int))).toNat := by
  subst hv
  simp only [intOf]
  omega
/-- A call of the law. -/
structure Opn where
  (kd cl rq cd tm id cn st lv ge fr lf du tl : Int) (a : Option Addr) (n ca : Nat) (nt de : Int) (xs : List Nat)
def OpCells (w : World) (b o : Nat) (x : Opn) : Prop := w.cell? ⟨b, o, none⟩ = some (.int .i64 x.kd) ∧ w.cell? ⟨b, o + 1, none⟩ = some (.int .u64 x.cl) ∧ w.cell? ⟨b, o + 2, none⟩ = some (.int .u64 x.rq) ∧ w.cell? ⟨b, o + 3, none⟩ = some (.int .i64 x.cd) ∧ w.cell? ⟨b, o + 4, none⟩ = some (.int .i64 x.tm) ∧ w.cell? ⟨b, o + 5, none⟩ = some (.int .u64 x.id) ∧ w.cell? ⟨b, o + 6, none⟩ = some (.int .i64 x.cn) ∧ w.cell? ⟨b, o + 7, none⟩ = some (.int .i64 x.st) ∧ w.cell? ⟨b, o + 8, none⟩ = some (.int .i64 x.lv) ∧ w.cell? ⟨b, o + 9, none⟩ = some (.int .u64 x.ge) ∧ w.cell? ⟨b, o + 10, none⟩ = some (.int .i64 x.fr) ∧ w.cell? ⟨b, o + 11, none⟩ = some (.int .i64 x.lf) ∧ w.cell? ⟨b, o + 12, none⟩ = some (.int .i64 x.du) ∧ w.cell? ⟨b, o + 13, none⟩ = some (.int .i64 x.tl) ∧ w.cell? ⟨b, o + 14, none⟩ = some (.slice x.a x.n x.ca) ∧ w.cell? ⟨b, o + 15, none⟩ = some (.int .u64 x.nt) ∧ w.cell? ⟨b, o + 16, none⟩ = some (.int .i64 x.de)
def OpIn (w : World) (x : Opn) : Prop := Us w x.a x.n x.xs ∧ (0 ≤ x.cl ∧ x.cl < 18446744073709551616) ∧ (0 ≤ x.rq ∧ x.rq < 18446744073709551616) ∧ x.fr ≤ 9223372036854775807
theorem OpIn.kept {w w' : World} {x : Opn} (h : OpIn w x) (hb : Below w.heap.size w w') : OpIn w' x := ⟨h.1.kept hb, h.2⟩
theorem OpCells.kept {w w' : World} {b o : Nat} {x : Opn} (h : OpCells w b o x) (hb : Below w.heap.size w w') (hlt : b < w.heap.size) : OpCells w' b o x := by
  obtain ⟨q0, q1, q2, q3, q4, q5, q6, q7, q8, q9, q10, q11, q12, q13, q14, q15, q16⟩ := h
  exact ⟨(hb.cell (p := ⟨b, o, none⟩) hlt).trans q0, (hb.cell (p := ⟨b, o + 1, none⟩) hlt).trans q1, (hb.cell (p := ⟨b, o + 2, none⟩) hlt).trans q2, (hb.cell (p := ⟨b, o + 3, none⟩) hlt).trans q3, (hb.cell (p := ⟨b, o + 4, none⟩) hlt).trans q4, (hb.cell (p := ⟨b, o + 5, none⟩) hlt).trans q5, (hb.cell (p := ⟨b, o + 6, none⟩) hlt).trans q6, (hb.cell (p := ⟨b, o + 7, none⟩) hlt).trans q7, (hb.cell (p := ⟨b, o + 8, none⟩) hlt).trans q8, (hb.cell (p := ⟨b, o + 9, none⟩) hlt).trans q9, (hb.cell (p := ⟨b, o + 10, none⟩) hlt).trans q10, (hb.cell (p := ⟨b, o + 11, none⟩) hlt).trans q11, (hb.cell (p := ⟨b, o + 12, none⟩) hlt).trans q12, (hb.cell (p := ⟨b, o + 13, none⟩) hlt).trans q13, (hb.cell (p := ⟨b, o + 14, none⟩) hlt).trans q14, (hb.cell (p := ⟨b, o + 15, none⟩) hlt).trans q15, (hb.cell (p := ⟨b, o + 16, none⟩) hlt).trans q16⟩
def Ops (w : World) (a : Option Addr) (len : Nat) (O : Nat → Opn) : Prop := len ≤ maxLen ∧ (0 < len → ∃ ab ao, a = some ⟨ab, ao, none⟩ ∧ ab < w.heap.size ∧ ∀ k, k < len → OpCells w ab (ao + k * 17) (O k)) ∧ ∀ k, k < len → OpIn w (O k)
theorem Ops.kept {w w' : World} {a : Option Addr} {len : Nat} {O : Nat → Opn} (h : Ops w a len O) (hb : Below w.heap.size w w') : Ops w' a len O := by
  obtain ⟨h1, h2, h3⟩ := h
  refine ⟨h1, fun h0 => ?_, fun k hk => (h3 k hk).kept hb⟩
  obtain ⟨ab, ao, ha, hlt, hc⟩ := h2 h0
  exact ⟨ab, ao, ha, Nat.lt_of_lt_of_le hlt hb.size, fun k hk => (hc k hk).kept hb hlt⟩
set_option maxRecDepth 100000 in
set_option maxHeartbeats 8000000 in
theorem light20 (a0 : Option Addr) (len cap : Nat) (O : Nat → Opn) (w : World) (h : Ops w a0 len O) :
    Calls Try.prog 27 #[.slice a0 len cap] w fun e w' => ∃ z : Bool, e = .returned (.bool z) ∧ (z = true → (∀ k, k < len → (O k).n ≤ 200) ∧ len ≤ 100) ∧ Below w.heap.size w w' := by
  have HO := Lib.hid h
  clear h
  go_enter Try.func27, Try.ntmps27
  go_wp2_with fail
  go_loopw [7] (fun i wr => ∃ k : Nat, k ≤ len ∧ i = .int .i64 k ∧ Hid (∀ j, j < k → (O j).n ≤ 200) ∧ Hid (Below w.heap.size w wr)) (fun i _ => len - (intOf i).toNat)
  case atStart => exact ⟨0, Nat.zero_le _, rfl, Lib.hid (fun j hj => by omega), Lib.hid (Below.refl _ _)⟩
  case round =>
    obtain ⟨k, hk, rfl, HL, HB⟩ := hrel
    by_cases hlt : k < len
    · have h1 := HO.out.kept HB.out
      obtain ⟨ab, ao, rfl, hab, hcs⟩ := h1.2.1 (by omega)
      have hc := hcs k hlt
      unfold OpCells at hc
      obtain ⟨x, hx⟩ : ∃ x, O k = x := ⟨_, rfl⟩
      rw [hx] at hc
      obtain ⟨kd, cl, rq, cd, tm, id, cn, st, lv, ge, fr, lf, du, tl, a, n, ca, nt, de, xs⟩ := x
      have HX := Lib.hid hx
      clear hx
      dsimp only at hc
      obtain ⟨q0, q1, q2, q3, q4, q5, q6, q7, q8, q9, q10, q11, q12, q13, q14, q15, q16⟩ := hc
      have hml := HO.out.1
      have HML : Hid (len ≤ 9223372036854775807) := Lib.hid (by unfold maxLen at hml; omega)
      have k0 : (0 : Int) ≤ (k : Int) := by omega
      have kl : (k : Int) < (len : Int) := by omega
      have d4 : decide ((k : Int) < (len : Int)) = true := by simp [hlt]
      have hw64 : wrap64 ((k : Int) + 1) = (k : Int) + 1 := IntWalk.wrap64_in _ (by have := HML.out; omega)
      obtain ⟨X1, X2, -⟩ := box1 wr #[.int .i64 kd, .int .u64 cl, .int .u64 rq, .int .i64 cd, .int .i64 tm, .int .u64 id, .int .i64 cn, .int .i64 st, .int .i64 lv, .int .u64 ge, .int .i64 fr, .int .i64 lf, .int .i64 du, .int .i64 tl, .slice a n ca, .int .u64 nt, .int .i64 de] 64
      obtain ⟨Y1, Y2, -⟩ := box1 wr #[.int .i64 0, .int .u64 0, .int .u64 0, .int .i64 0, .int .i64 0, .int .u64 0, .int .i64 0, .int .i64 0, .int .i64 0, .int .u64 0, .int .i64 0, .int .i64 0, .int .i64 0, .int .i64 0, .slice none 0 0, .int .u64 0, .int .i64 0] 64
      obtain ⟨r0, r1, r2, r3, r4, r5, r6, r7, r8, r9, r10, r11, r12, r13, r14, r15, r16⟩ := op_at Y2
      have rf := op_fr Y2
      obtain ⟨s0, s1, s2, s3, s4, s5, s6, s7, s8, s9, s10, s11, s12, s13, s14, s15, s16⟩ := op_at X2
      have HB1 := Lib.hid (HB.out.trans (X1.mono HB.out.size))
      have HLT := Lib.hid (fun W => light19 cd tm id cn st lv ge fr lf du tl a n ca nt de W)
      obtain ⟨z, hz⟩ : ∃ z, decide (n ≤ 200) = z := ⟨_, rfl⟩
      rw [hz] at HLT
      have HZ : Hid (z = true → n ≤ 200) := Lib.hid (fun e => by rw [e] at hz; exact of_decide_eq_true hz)
      unfold repV at HLT
      clear hml X1 X2 Y1 Y2 h1 hcs hab hz
      go_wp2_with fail
      clear q0 q1 q2 q3 q4 q5 q6 q7 q8 q9 q10 q11 q12 q13 q14 q15 q16 r0 r1 r2 r3 r4 r5 r6 r7 r8 r9 r10 r11 r12 r13 r14 r15 r16 rf
      generalize wr.alloc (.cells #[.int .i64 kd, .int .u64 cl, .int .u64 rq, .int .i64 cd, .int .i64 tm, .int .u64 id, .int .i64 cn, .int .i64 st, .int .i64 lv, .int .u64 ge, .int .i64 fr, .int .i64 lf, .int .i64 du, .int .i64 tl, .slice a n ca, .int .u64 nt, .int .i64 de] 64) = W1 at HB1 s0 s1 s2 s3 s4 s5 s6 s7 s8 s9 s10 s11 s12 s13 s14 s15 s16 ⊢
      refine (HLT.out W1).mono ?_
      rintro e w2 ⟨rfl, hb⟩
      have HB2 := Lib.hid (HB1.out.trans (hb.mono HB1.out.size))
      clear hb s0 s1 s2 s3 s4 s5 s6 s7 s8 s9 s10 s11 s12 s13 s14 s15 s16 HLT
      cases z
      case false =>
        go_wp2_with fail
        go_ret
        exact ⟨false, rfl, ⟨fun h => absurd h (by decide), HB2.out⟩⟩
      case true =>
        have HZ2 := Lib.hid (HZ.out rfl)
        clear HZ
        go_wp2_with fail
        go_roundw
        case rel => exact ⟨k + 1, hlt, by rw [hw64]; rfl, Lib.hid (fun j hj => by
          rcases Nat.lt_succ_iff_lt_or_eq.1 hj with h | h
          · exact HL.out j h
          · subst h; rw [HX.out]; exact HZ2.out), HB2⟩
        case measure => exact meas_lt len k _ (by rw [hw64]) hlt
    · obtain rfl : k = len := by omega
      obtain ⟨z, hz⟩ : ∃ z, decide ((k : Int) ≤ 100) = z := ⟨_, rfl⟩
      go_wp2_with fail
      go_ret
      exact ⟨z, rfl, fun h => ⟨HL.out, by rw [h] at hz; have := of_decide_eq_true hz; omega⟩, HB.out⟩
/- Session: what the table, the law's own two maps and the calls so far have to do with each other. -/
open Go.RowKit Go.Maps
/-- What a table keeps of a call, its row copied. -/
def Opn.req (x : Opn) (ac : Option Addr) (cc : Nat) : Value := .agg #[.int .u64 x.rq, .int .i64 x.cd, .int .i64 x.tm, .int .u64 x.id, .int .i64 x.cn, .int .i64 x.st, .int .i64 x.lv, .int .u64 x.ge, .int .i64 x.fr, .int .i64 x.lf, .int .i64 x.du, .int .i64 x.tl, .slice ac x.n cc, .int .u64 x.nt, .int .i64 x.de]
def Opn.val (x : Opn) : Value := .agg #[.int .i64 x.kd, .int .u64 x.cl, .int .u64 x.rq, .int .i64 x.cd, .int .i64 x.tm, .int .u64 x.id, .int .i64 x.cn, .int .i64 x.st, .int .i64 x.lv, .int .u64 x.ge, .int .i64 x.fr, .int .i64 x.lf, .int .i64 x.du, .int .i64 x.tl, .slice x.a x.n x.ca, .int .u64 x.nt, .int .i64 x.de]
theorem laid7 : laidOutB Try.prog = true := by kernel_rfl
theorem keyedA : Maps.Keyed Try.prog 73 := Keyed.of_law (deep_law_laid laid7 (m := 2) (by omega) (of_decide_eq_true (by kernel_rfl)) (by kernel_rfl) (by rw [Try.underlying73]))
def kA (c q : Int) : Value := .agg #[.int .u64 c, .int .u64 q]
set_option maxRecDepth 100000 in
theorem kA_ex {c q : Int} (hc : 0 ≤ c ∧ c < 18446744073709551616) (hq : 0 ≤ q ∧ q < 18446744073709551616) : ∃ l, keyOf Try.prog 73 (kA c q) = some l := by
  have h1 : Try.prog.keyType 73 = true := by kernel_rfl
  have h2 : (kA c q).formed Try.prog 73 = true := by
    have : Try.prog.cellsOf 73 = 2 := by kernel_rfl
    simp [Value.formed, Try.underlying73, kA, this]
  have h3 : ∃ ls, Try.prog.keyLits (Try.prog.types.size + 1) 73 [.int .u64 c, .int .u64 q] = some ls := by
    have w1 := u64_wf hc
    have w2 := u64_wf hq
    have c73 : Try.prog.cellsOf 73 = 2 := by kernel_rfl
    have c23 : Try.prog.cellsOf 23 = 1 := by kernel_rfl
    obtain ⟨m, hm⟩ : ∃ m, Try.prog.types.size = m + 1 := ⟨Try.prog.types.size - 1, by have : 0 < Try.prog.types.size := of_decide_eq_true (by kernel_rfl); omega⟩
    rw [hm]
    exact ⟨[.int .u64 c, .int .u64 q], by simp [Program.keyLits, Try.underlying73, Try.underlying23, c73, c23, w1, w2, List.range_succ]⟩
  obtain ⟨ls, hls⟩ := h3
  refine ⟨Lit.string (keyBytes ls), ?_⟩
  have h4 : (kA c q).cells.toList = [.int .u64 c, .int .u64 q] := rfl
  unfold keyOf
  rw [Try.underlying73]
  show (if Try.prog.keyType 73 && (kA c q).formed Try.prog 73 then (Try.prog.keyLits (Try.prog.types.size + 1) 73 (kA c q).cells.toList).map fun ls => Lit.string (keyBytes ls) else none) = _
  rw [h1, h2, h4, hls]
  rfl
theorem kA_inj {c q c' q' : Int} {l : Lit} (h : keyOf Try.prog 73 (kA c q) = some l) (h' : keyOf Try.prog 73 (kA c' q') = some l) : c = c' ∧ q = q' := by
  have e := keyedA.inj h h'
  unfold kA at e
  simp only [Value.agg.injEq, Array.mk.injEq, List.cons.injEq, Value.int.injEq, true_and, and_true] at e
  exact e
theorem Us.grown {w w' : World} {a : Option Addr} {n : Nat} {xs : List Nat} {mb : Nat} (h : Us w a n xs) (g : w.grownBy w' (some mb)) (hm : ∃ es cl, w.heap[mb]? = some (.map es cl)) : Us w' a n xs := by
  obtain ⟨h1, h2, h3, h4⟩ := h
  obtain ⟨es, cl, hm⟩ := hm
  refine ⟨h1, h2, h3, fun i hi => ?_⟩
  obtain ⟨b, off, ha, hlt, hc⟩ := h4 i hi
  have hne : b ≠ mb := by
    intro e
    subst e
    simp [World.cell?, hm] at hc
  refine ⟨b, off, ha, Nat.lt_of_lt_of_le hlt g.size, ?_⟩
  rw [World.cell?_of_block (g.block b hlt (by intro e; injection e with e; exact hne e))]
  exact hc
/-- The table and the law's maps behind k calls. -/
def Rel (W : World) (T mb m1 m2 k : Nat) (M D L : Lit → Option Value) (c c1 c2 : Nat) : Prop :=
  Tab W T mb c M ∧ VM 73 W m1 c1 D ∧ VM 23 W m2 c2 L ∧ (c ≤ k ∧ c1 ≤ k ∧ c2 ≤ k) ∧ (∀ l v, D l = some v → v = .bool true) ∧
  ∀ cl : Int, (0 ≤ cl ∧ cl < 18446744073709551616) →
    (M (.int .u64 cl) = none ∧ ∀ q l, keyOf Try.prog 73 (kA cl q) = some l → D l = none) ∨
    ∃ (x : Opn) (ac : Option Addr) (cc : Nat), M (.int .u64 cl) = some (x.req ac cc) ∧ L (.int .u64 cl) = some x.val ∧ Us W ac x.n x.xs ∧ Us W x.a x.n x.xs ∧ x.n ≤ 200 ∧ ∀ q l, keyOf Try.prog 73 (kA cl q) = some l → D l ≠ none → q ≤ x.rq
theorem Rel.kept {W W' : World} {T mb m1 m2 k : Nat} {M D L : Lit → Option Value} {c c1 c2 : Nat} (h : Rel W T mb m1 m2 k M D L c c1 c2) (hb : Below W.heap.size W W') : Rel W' T mb m1 m2 k M D L c c1 c2 := by
  obtain ⟨h1, h2, h3, h4, h6, h5⟩ := h
  refine ⟨h1.kept hb, h2.kept hb, h3.kept hb, h4, h6, fun cl hcl => ?_⟩
  rcases h5 cl hcl with h | ⟨x, ac, cc, k1, k2, k3, k4, k5⟩
  · exact .inl h
  · exact .inr ⟨x, ac, cc, k1, k2, k3.kept hb, k4.kept hb, k5⟩
theorem Rel.mono {W : World} {T mb m1 m2 k k' : Nat} {M D L : Lit → Option Value} {c c1 c2 : Nat} (h : Rel W T mb m1 m2 k M D L c c1 c2) (hk : k ≤ k') : Rel W T mb m1 m2 k' M D L c c1 c2 := by
  obtain ⟨h1, h2, h3, h4, h5⟩ := h
  exact ⟨h1, h2, h3, ⟨by omega, by omega, by omega⟩, h5⟩
/-- The last request of a client, and what the maps say of it. -/
theorem Rel.last {W : World} {T mb m1 m2 k : Nat} {M D L : Lit → Option Value} {c c1 c2 : Nat} (h : Rel W T mb m1 m2 k M D L c c1 c2) {cl : Int} (hcl : 0 ≤ cl ∧ cl < 18446744073709551616) :
    ∃ (q : Int) (cd tm id cn st lv ge fr lf du tl : Int) (a : Option Addr) (n ca : Nat) (nt de : Int) (xs : List Nat), (M (.int .u64 cl)).getD (.agg #[.int .u64 0, .int .i64 0, .int .i64 0, .int .u64 0, .int .i64 0, .int .i64 0, .int .i64 0, .int .u64 0, .int .i64 0, .int .i64 0, .int .i64 0, .int .i64 0, .slice none 0 0, .int .u64 0, .int .i64 0]) = .agg #[.int .u64 q, .int .i64 cd, .int .i64 tm, .int .u64 id, .int .i64 cn, .int .i64 st, .int .i64 lv, .int .u64 ge, .int .i64 fr, .int .i64 lf, .int .i64 du, .int .i64 tl, .slice a n ca, .int .u64 nt, .int .i64 de] ∧ Us W a n xs ∧ n ≤ 200 ∧
      (∀ r l, q < r → keyOf Try.prog 73 (kA cl r) = some l → (D l).getD (.bool false) = .bool false) ∧ (0 < q → ∃ (kd y : Int) (a' : Option Addr) (ca' : Nat), (L (.int .u64 cl)).getD (.agg #[.int .i64 0, .int .u64 0, .int .u64 0, .int .i64 0, .int .i64 0, .int .u64 0, .int .i64 0, .int .i64 0, .int .i64 0, .int .u64 0, .int .i64 0, .int .i64 0, .int .i64 0, .int .i64 0, .slice none 0 0, .int .u64 0, .int .i64 0]) = .agg #[.int .i64 kd, .int .u64 y, .int .u64 q, .int .i64 cd, .int .i64 tm, .int .u64 id, .int .i64 cn, .int .i64 st, .int .i64 lv, .int .u64 ge, .int .i64 fr, .int .i64 lf, .int .i64 du, .int .i64 tl, .slice a' n ca', .int .u64 nt, .int .i64 de] ∧ Us W a' n xs) := by
  rcases h.2.2.2.2.2 cl hcl with ⟨h1, h2⟩ | ⟨x, ac, cc, k1, k2, k3, k4, k5, k6⟩
  · refine ⟨0, 0, 0, 0, 0, 0, 0, 0, 0, 0, 0, 0, none, 0, 0, 0, 0, [], by rw [h1]; rfl, Us.none W, by omega, fun r l hr hl => by rw [h2 r l hl]; rfl, fun h0 => absurd h0 (by omega)⟩
  · refine ⟨x.rq, x.cd, x.tm, x.id, x.cn, x.st, x.lv, x.ge, x.fr, x.lf, x.du, x.tl, ac, x.n, cc, x.nt, x.de, x.xs, by rw [k1]; rfl, k3, k5, fun r l hr hl => ?_, fun _ => ⟨x.kd, x.cl, x.a, x.ca, by rw [k2]; rfl, k4⟩⟩
    have : D l = none := by
      cases e : D l with
      | none => rfl
      | some v => exact absurd (k6 r l hl (by rw [e]; simp)) (by omega)
    rw [this]
    rfl
theorem Rel.put {W W' : World} {T mb m1 m2 k : Nat} {M D L M' D' L' : Lit → Option Value} {c c1 c2 c' c1' c2' : Nat} (h : Rel W T mb m1 m2 k M D L c c1 c2) (x : Opn) (ac : Option Addr) (cc : Nat) (q : Int)
    (hT : Tab W' T mb c' M') (hD : VM 73 W' m1 c1' D') (hL : VM 23 W' m2 c2' L') (hc : c' ≤ k + 1 ∧ c1' ≤ k + 1 ∧ c2' ≤ k + 1) (hUs : ∀ a n xs, Us W a n xs → Us W' a n xs)
    (hM1 : M' (.int .u64 x.cl) = some (x.req ac cc)) (hM2 : ∀ y, y ≠ .int .u64 x.cl → M' y = M y) (hL1 : L' (.int .u64 x.cl) = some x.val) (hL2 : ∀ y, y ≠ .int .u64 x.cl → L' y = L y)
    {l0 : Lit} (hl0 : keyOf Try.prog 73 (kA x.cl x.rq) = some l0) (hD2 : ∀ y, y ≠ l0 → D' y = D y) (hU : Us W' ac x.n x.xs) (hU' : Us W' x.a x.n x.xs) (hn : x.n ≤ 200)
    (hq : ∀ r l, q < r → keyOf Try.prog 73 (kA x.cl r) = some l → (D l).getD (.bool false) = .bool false) (hD1 : D' l0 = some (.bool true)) (hqr : q < x.rq) : Rel W' T mb m1 m2 (k + 1) M' D' L' c' c1' c2' := by
  have hDt := h.2.2.2.2.1
  refine ⟨hT, hD, hL, hc, fun l v hl => ?_, fun cl hcl => ?_⟩
  · by_cases e : l = l0
    · subst e
      rw [hD1] at hl
      exact (Option.some.inj hl).symm
    · rw [hD2 l e] at hl
      exact hDt l v hl
  by_cases e : cl = x.cl
  · subst e
    refine .inr ⟨x, ac, cc, hM1, hL1, hU, hU', hn, fun r l hl hd => ?_⟩
    by_cases e2 : l = l0
    · subst e2
      exact Int.le_of_eq (kA_inj hl hl0).2
    · rw [hD2 l e2] at hd
      by_cases hr : q < r
      · have h1 := hq r l hr hl
        cases e3 : D l with
        | none => exact absurd e3 hd
        | some v =>
          rw [e3] at h1
          have h2 := hDt l v e3
          subst h2
          simp at h1
      · omega
  · have hne : (Lit.int .u64 cl) ≠ .int .u64 x.cl := fun h => e (by injection h)
    rcases h.2.2.2.2.2 cl hcl with ⟨h1, h2⟩ | ⟨y, a1, b1, k1, k2, k3, k4, k5, k6⟩
    · refine .inl ⟨by rw [hM2 _ hne]; exact h1, fun r l hl => ?_⟩
      have : l ≠ l0 := fun e2 => e (by subst e2; exact (kA_inj hl hl0).1)
      rw [hD2 l this]
      exact h2 r l hl
    · refine .inr ⟨y, a1, b1, by rw [hM2 _ hne]; exact k1, by rw [hL2 _ hne]; exact k2, hUs _ _ _ k3, hUs _ _ _ k4, k5, fun r l hl hd => ?_⟩
      have : l ≠ l0 := fun e2 => e (by subst e2; exact (kA_inj hl hl0).1)
      rw [hD2 l this] at hd
      exact k6 r l hl hd
end Go.Proofs.Ytnhaakdjijjinaa

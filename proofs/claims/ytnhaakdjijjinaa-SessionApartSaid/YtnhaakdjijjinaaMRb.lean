import Derived.Test.YtnhaakdjijjinaaNbA
import Derived.Test.YtnhaakdjijjinaaTbH
import Derived.Test.YtnhaakdjijjinaaTbB
import Derived.Test.YtnhaakdjijjinaaMRa
import Derived.Test.YtnhaakdjijjinaaQuW
import Derived.Deep.RegionHeld
import Derived.Deep.LoopGhost
namespace Go.Proofs.Ytnhaakdjijjinaa
open Go.RowKit
/- Tickets: what was written is read as it was; two tickets compared. -/
open Go.RowKit
theorem nums_nine (n1 n2 n3 n4 n5 n6 n7 n8 n9 : Nat) : nums [n1, n2, n3, n4, n5, n6, n7, n8, n9] = num 0 n1 ++ (num 0 n2 ++ (num 0 n3 ++ (num 0 n4 ++ (num 0 n5 ++ (num 0 n6 ++ (num 0 n7 ++ (num 0 n8 ++ (num 0 n9 ++ [])))))))) := by
  unfold nums
  simp only [List.map_cons, List.map_nil, List.flatten_cons, List.flatten_nil]
theorem nine_back (n1 n2 n3 n4 n5 n6 n7 n8 n9 : Nat) (h1 : n1 ≤ 18446744073709551615) (h2 : n2 ≤ 15) (h3 : n3 ≤ 4) (h4 : n4 ≤ 5) (h5 : n5 ≤ 1152921504606846976) (h6 : n6 ≤ 1125899906842624) (h7 : n7 ≤ 1125899906842624) (h8 : n8 ≤ 1125899906842624) (h9 : n9 ≤ 2147483648) (hs : soundB n2 n3 n4 n5 n6 n7 n8 n9 = true) :
    tkOk (nums [n1, n2, n3, n4, n5, n6, n7, n8, n9]) = true ∧ (nine (nums [n1, n2, n3, n4, n5, n6, n7, n8, n9])).t = tkV n1 n2 n3 n4 n5 n6 n7 n8 n9 := by
  have hn : nine (nums [n1, n2, n3, n4, n5, n6, n7, n8, n9]) = ⟨n1, n2, n3, n4, n5, n6, n7, n8, n9⟩ ∧ nineB (nums [n1, n2, n3, n4, n5, n6, n7, n8, n9]) = false := by
    unfold nine nineB
    rw [nums_nine]
    obtain ⟨a1, r1, -⟩ := nN_back 18446744073709551615 n1 (num 0 n2 ++ (num 0 n3 ++ (num 0 n4 ++ (num 0 n5 ++ (num 0 n6 ++ (num 0 n7 ++ (num 0 n8 ++ (num 0 n9 ++ [])))))))) (by omega) h1
    obtain ⟨a2, r2, -⟩ := nN_back 15 n2 (num 0 n3 ++ (num 0 n4 ++ (num 0 n5 ++ (num 0 n6 ++ (num 0 n7 ++ (num 0 n8 ++ (num 0 n9 ++ []))))))) (by omega) h2
    obtain ⟨a3, r3, -⟩ := nN_back 4 n3 (num 0 n4 ++ (num 0 n5 ++ (num 0 n6 ++ (num 0 n7 ++ (num 0 n8 ++ (num 0 n9 ++ [])))))) (by omega) h3
    obtain ⟨a4, r4, -⟩ := nN_back 5 n4 (num 0 n5 ++ (num 0 n6 ++ (num 0 n7 ++ (num 0 n8 ++ (num 0 n9 ++ []))))) (by omega) h4
    obtain ⟨a5, r5, -⟩ := nN_back 1152921504606846976 n5 (num 0 n6 ++ (num 0 n7 ++ (num 0 n8 ++ (num 0 n9 ++ [])))) (by omega) h5
    obtain ⟨a6, r6, -⟩ := nN_back 1125899906842624 n6 (num 0 n7 ++ (num 0 n8 ++ (num 0 n9 ++ []))) (by omega) h6
    obtain ⟨a7, r7, -⟩ := nN_back 1125899906842624 n7 (num 0 n8 ++ (num 0 n9 ++ [])) (by omega) h7
    obtain ⟨a8, r8, -⟩ := nN_back 1125899906842624 n8 (num 0 n9 ++ []) (by omega) h8
    obtain ⟨a9, r9, b9⟩ := nN_back 2147483648 n9 [] (by omega) h9
    simp only [r1, r2, r3, r4, r5, r6, r7, r8, a1, a2, a3, a4, a5, a6, a7, a8, a9, b9, and_self]
  unfold tkOk
  rw [hn.1, hn.2]
  exact ⟨by show (!false && soundB n2 n3 n4 n5 n6 n7 n8 n9) = true; rw [hs]; rfl, rfl⟩
/-- A sound ticket's numbers. -/
theorem sound_nat {id cn st lv ge fr lf du tl : Int} (h : soundB cn st lv ge fr lf du tl = true) (h0 : 0 ≤ id ∧ id < 18446744073709551616) (hg : 0 ≤ ge ∧ ge < 18446744073709551616) :
    ∃ n1 n2 n3 n4 n5 n6 n7 n8 n9 : Nat, id = n1 ∧ cn = n2 ∧ st = n3 ∧ lv = n4 ∧ ge = n5 ∧ fr = n6 ∧ lf = n7 ∧ du = n8 ∧ tl = n9 ∧ n1 ≤ 18446744073709551615 ∧ n2 ≤ 15 ∧ n3 ≤ 4 ∧ n4 ≤ 5 ∧ n5 ≤ 1152921504606846976 ∧ n6 ≤ 1125899906842624 ∧ n7 ≤ 1125899906842624 ∧ n8 ≤ 1125899906842624 ∧ n9 ≤ 2147483648 := by
  have hb : 0 ≤ cn ∧ cn ≤ 15 ∧ 0 ≤ st ∧ st ≤ 4 ∧ 0 ≤ lv ∧ lv ≤ 5 ∧ ge ≤ 1152921504606846976 ∧ 0 ≤ fr ∧ fr ≤ 1125899906842624 ∧ 0 ≤ lf ∧ lf ≤ 1125899906842624 ∧ 0 ≤ du ∧ du ≤ 1125899906842624 ∧ 0 ≤ tl ∧ tl ≤ 2147483648 := by
    unfold soundB headT runT pauT endT rngB at h
    by_cases s1 : st = 1
    · simp only [s1, if_true, Bool.and_eq_true, decide_eq_true_eq, Bool.not_eq_true', decide_eq_false_iff_not, bne_iff_ne, ne_eq] at h
      omega
    · by_cases s2 : st = 2
      · simp only [s2, if_true, Bool.and_eq_true, decide_eq_true_eq, Bool.not_eq_true', decide_eq_false_iff_not, beq_iff_eq, show ¬ (2 : Int) = 1 by decide, if_false] at h
        omega
      · by_cases s3 : st = 3 ∨ st = 4
        · simp only [s1, s2, s3, if_true, if_false, Bool.and_eq_true, decide_eq_true_eq, Bool.not_eq_true', decide_eq_false_iff_not, beq_iff_eq] at h
          omega
        · simp only [s1, s2, s3, if_false, Bool.and_false, Bool.false_eq_true] at h
  refine ⟨id.toNat, cn.toNat, st.toNat, lv.toNat, ge.toNat, fr.toNat, lf.toNat, du.toNat, tl.toNat, ?_⟩
  omega
/- Replies: what is read as one. -/
open Go.RowKit
def fN (ds : List Nat) : Bool := nN 1 ds == 1
theorem flag_rd1 (b : Nat) (ds : List Nat) (bad : Bool) (w : World) (hr : RR w b ds bad) :
    Calls Try.prog 57 #[.pointer (some ⟨b, 0, none⟩)] w fun e w' => e = .returned (.bool (fN ds)) ∧ RR w' b (nR 1 ds) (nB 1 ds) ∧ Rd b w w' := by
  refine (flag_rd b ds bad w hr).mono fun e w' h => ?_
  unfold fN nN nR nB
  cases hq : rNum 1 ds with
  | none => exact h.1 (by unfold rFlag; rw [hq]; rfl)
  | some p => exact h.2 _ _ (by unfold rFlag; rw [hq]; rfl)
theorem flag_rf1 (b : Nat) (ds : List Nat) (bad : Bool) (w : World) (hr : RF w b ds bad) :
    Calls Try.prog 66 #[.pointer (some ⟨b, 0, none⟩)] w fun e w' => e = .returned (.bool (fN ds)) ∧ RF w' b (nR 1 ds) (nB 1 ds) ∧ Rd b w w' := by
  refine (flag_rf b ds bad w hr).mono fun e w' h => ?_
  unfold fN nN nR nB
  cases hq : rNum 1 ds with
  | none => exact h.1 (by unfold rFlag; rw [hq]; rfl)
  | some p => exact h.2 _ _ (by unfold rFlag; rw [hq]; rfl)
/-- A row of numbers that is read. -/
def qL (m : Nat) : Nat → List Nat → List Nat
  | 0, _ => []
  | k + 1, ds => nN m ds :: qL m k (nR m ds)
def qR (m : Nat) : Nat → List Nat → List Nat
  | 0, ds => ds
  | k + 1, ds => qR m k (nR m ds)
theorem qL_len (m : Nat) : ∀ (k : Nat) (ds : List Nat), (qL m k ds).length = k
  | 0, _ => rfl
  | k + 1, ds => by rw [qL, List.length_cons, qL_len]
theorem qL_le (m : Nat) : ∀ (k : Nat) (ds : List Nat), ∀ s ∈ qL m k ds, s ≤ m
  | 0, _ => by simp [qL]
  | k + 1, ds => by
    intro s hs
    rw [qL, List.mem_cons] at hs
    rcases hs with rfl | hs
    · exact nN_le m ds
    · exact qL_le m k _ s hs
def zNine : Nine := ⟨0, 0, 0, 0, 0, 0, 0, 0, 0⟩
def tkN (ds : List Nat) : Nine := if tkOk ds = true then nine ds else zNine
def tkRest (ds : List Nat) : List Nat := if tkOk ds = true then nineR ds else []
theorem tk_rd (b : Nat) (ds : List Nat) (bad : Bool) (w : World) (hr : RR w b ds bad) :
    Calls Try.prog 58 #[.pointer (some ⟨b, 0, none⟩)] w fun e w' => e = .returned (.tuple #[(tkN ds).t, .bool (tkOk ds)]) ∧ RR w' b (tkRest ds) (!tkOk ds) ∧ Rd b w w' := by
  refine (read_first b ds bad w hr _ rfl).mono fun e w' h => ?_
  unfold tkN tkRest
  cases ho : tkOk ds <;> rw [ho] at h <;> exact h
theorem tk_rf (b : Nat) (ds : List Nat) (bad : Bool) (w : World) (hr : RF w b ds bad) :
    Calls Try.prog 67 #[.pointer (some ⟨b, 0, none⟩)] w fun e w' => e = .returned (.tuple #[(tkN ds).t, .bool (tkOk ds)]) ∧ RF w' b (tkRest ds) (!tkOk ds) ∧ Rd b w w' := by
  refine (rread_any b ds bad w hr _ rfl).mono fun e w' h => ?_
  unfold tkN tkRest
  cases ho : tkOk ds <;> rw [ho] at h <;> exact h
/-- What is read as a reply: the numbers, what is left, whether that is bad. -/
def y2 (ds : List Nat) : List Nat := iR (nR 99 ds)
def y3 (ds : List Nat) : List Nat := nR 1 (y2 ds)
def yNine (ds : List Nat) : Nine := if fN (y2 ds) = true then tkN (y3 ds) else zNine
def y4 (ds : List Nat) : List Nat := if fN (y2 ds) = true then tkRest (y3 ds) else y3 ds
def y4b (ds : List Nat) : Bool := if fN (y2 ds) = true then !tkOk (y3 ds) else nB 1 (y2 ds)
def y5 (ds : List Nat) : List Nat := nR 64 (y4 ds)
def yXs (ds : List Nat) : List Nat := qL 18446744073709551615 (nN 64 (y4 ds)) (y5 ds)
def y6 (ds : List Nat) : List Nat := qR 18446744073709551615 (nN 64 (y4 ds)) (y5 ds)
def y7 (ds : List Nat) : List Nat := nR 18446744073709551615 (y6 ds)
def yRest (ds : List Nat) : List Nat := nR 128 (y7 ds)
def yBad (ds : List Nat) : Bool := nB 128 (y7 ds)
/-- A reader on the way, the box of its pointer, and that of its method. -/
structure RdT (w0 w : World) (N0 R0 b : Nat) (ds : List Nat) (bad : Bool) : Prop where
  rr : RR w b ds bad
  box : w.heap[R0]? = some (.cells #[.pointer (some ⟨b, 0, none⟩)] 42 (0, 0))
  mbx : w.heap[N0]? = some (.cells #[.func (.func 54) #[.pointer (some ⟨b, 0, none⟩)] #[]] 67 (0, 0))
  ne : R0 ≠ b
  nem : N0 ≠ b
  rd : Rd b w0 w
theorem RdT.step {w0 w w' : World} {N0 R0 b : Nat} {ds ds' : List Nat} {bad bad' : Bool} (h : RdT w0 w N0 R0 b ds bad) (hr : RR w' b ds' bad') (ht : Rd b w w') : RdT w0 w' N0 R0 b ds' bad' :=
  ⟨hr, ht.keep h.box h.ne, ht.keep h.mbx h.nem, h.ne, h.nem, h.rd.trans ht⟩
theorem RdT.kept {w0 w w' : World} {N0 R0 b : Nat} {ds : List Nat} {bad : Bool} (h : RdT w0 w N0 R0 b ds bad) (hb : Below w.heap.size w w') : RdT w0 w' N0 R0 b ds bad :=
  ⟨h.rr.kept hb, ex_below h.box hb, ex_below h.mbx hb, h.ne, h.nem, h.rd.trans (Rd.below hb)⟩
theorem RdT.under {w0 w w' : World} {N0 R0 b B : Nat} {ds : List Nat} {bad : Bool} (h : RdT w0 w N0 R0 b ds bad) (hb : Below B w w') (h0 : w0.heap.size ≤ B) (h1 : b < B) (h2 : R0 < B) (h3 : N0 < B) : RdT w0 w' N0 R0 b ds bad :=
  ⟨h.rr.under hb h1, (hb.block R0 h2).trans h.box, (hb.block N0 h3).trans h.mbx, h.ne, h.nem, h.rd.under hb h0⟩
/- Replies: they are put together out of what is read. -/
open Go.RowKit
theorem RdT.nat {w0 w : World} {N0 R0 b : Nat} {ds : List Nat} {bad : Bool} (h : RdT w0 w N0 R0 b ds bad) : w.cell? ⟨N0, 0, none⟩ = some (.func (.func 54) #[.pointer (some ⟨b, 0, none⟩)] #[]) ∧ w.cell? ⟨R0, 0, none⟩ = some (.pointer (some ⟨b, 0, none⟩)) := ⟨one_at h.mbx, one_at h.box⟩
theorem RdT.num {w0 w : World} {N0 R0 b : Nat} {ds : List Nat} {bad : Bool} (h : RdT w0 w N0 R0 b ds bad) (m : Nat) (mi : Int) (hm : mi = (m : Int)) :
    Calls Try.prog 54 #[.pointer (some ⟨b, 0, none⟩), .int .u64 mi] w fun e w' => e = .returned (.int .u64 ((nN m ds : Nat) : Int)) ∧ RdT w0 w' N0 R0 b (nR m ds) (nB m ds) ∧ Rd b w w' :=
  hm ▸ (num_rd1 b m ds bad w h.rr).mono fun e w' ⟨h1, h2, h3⟩ => ⟨h1, h.step h2 h3, h3⟩
theorem RdT.int {w0 w : World} {N0 R0 b : Nat} {ds : List Nat} {bad : Bool} (h : RdT w0 w N0 R0 b ds bad) :
    Calls Try.prog 56 #[.pointer (some ⟨b, 0, none⟩)] w fun e w' => e = .returned (.int .i64 (iN ds)) ∧ RdT w0 w' N0 R0 b (iR ds) (iB ds) ∧ Rd b w w' :=
  (int_rd1 b ds bad w h.rr).mono fun e w' ⟨h1, h2, h3⟩ => ⟨h1, h.step h2 h3, h3⟩
theorem RdT.flag {w0 w : World} {N0 R0 b : Nat} {ds : List Nat} {bad : Bool} (h : RdT w0 w N0 R0 b ds bad) :
    Calls Try.prog 57 #[.pointer (some ⟨b, 0, none⟩)] w fun e w' => e = .returned (.bool (fN ds)) ∧ RdT w0 w' N0 R0 b (nR 1 ds) (nB 1 ds) ∧ Rd b w w' :=
  (flag_rd1 b ds bad w h.rr).mono fun e w' ⟨h1, h2, h3⟩ => ⟨h1, h.step h2 h3, h3⟩
theorem RdT.tk {w0 w : World} {N0 R0 b : Nat} {ds : List Nat} {bad : Bool} (h : RdT w0 w N0 R0 b ds bad) :
    Calls Try.prog 58 #[.pointer (some ⟨b, 0, none⟩)] w fun e w' => e = .returned (.tuple #[(tkN ds).t, .bool (tkOk ds)]) ∧ RdT w0 w' N0 R0 b (tkRest ds) (!tkOk ds) ∧ Rd b w w' :=
  (tk_rd b ds bad w h.rr).mono fun e w' ⟨h1, h2, h3⟩ => ⟨h1, h.step h2 h3, h3⟩
theorem wrap_upU (k : Nat) (h : k ≤ 1000000) : IntKind.u64.wrap ((k : Int) + 1) = ((k + 1 : Nat) : Int) ∧ IntKind.i64.wrap ((k : Int) + 1) = ((k + 1 : Nat) : Int) := ⟨by rw [IntWalk.u64_in _ ⟨by omega, by omega⟩]; omega, by rw [IntWalk.i64_in _ ⟨by omega, by omega⟩]; omega⟩
/-- A reply on its way: the reader, the result's box, the reply's box. -/
structure Asm (w0 : World) (N0 R0 b : Nat) (ds : List Nat) (bad : Bool) (g : Nat) (C : Array Value) (W : World) : Prop where
  tt : RdT w0 W N0 R0 b ds bad
  res : W.heap[w0.heap.size]? = some (.cells #[.int .i64 0, .int .i64 0, .int .u64 0, .int .i64 0, .int .i64 0, .int .i64 0, .int .u64 0, .int .i64 0, .int .i64 0, .int .i64 0, .int .i64 0, .slice none 0 0, .int .u64 0, .int .i64 0] 28 (0, 0))
  box : W.heap[g]? = some (.cells C 28 (0, 0))
  lt : w0.heap.size < g
  hb : b < w0.heap.size ∧ N0 < w0.heap.size ∧ R0 < w0.heap.size
theorem Asm.call {w0 W W' : World} {N0 R0 b : Nat} {ds ds' : List Nat} {bad bad' : Bool} {g : Nat} {C : Array Value} (h : Asm w0 N0 R0 b ds bad g C W) (k : RdT w0 W' N0 R0 b ds' bad') (r : Rd b W W') : Asm w0 N0 R0 b ds' bad' g C W' :=
  ⟨k, r.keep h.res (by have := h.hb; omega), r.keep h.box (by have := h.hb; have := h.lt; omega), h.lt, h.hb⟩
theorem Asm.kept {w0 W W' : World} {N0 R0 b : Nat} {ds : List Nat} {bad : Bool} {g : Nat} {C : Array Value} (h : Asm w0 N0 R0 b ds bad g C W) (k : Below W.heap.size W W') : Asm w0 N0 R0 b ds bad g C W' :=
  ⟨h.tt.kept k, ex_below h.res k, ex_below h.box k, h.lt, h.hb⟩
theorem Asm.under {w0 W W' : World} {N0 R0 b : Nat} {ds : List Nat} {bad : Bool} {g : Nat} {C : Array Value} (h : Asm w0 N0 R0 b ds bad g C W) (k : Below (g + 1) W W') : Asm w0 N0 R0 b ds bad g C W' :=
  ⟨h.tt.under k (by have := h.lt; omega) (by have := h.hb; have := h.lt; omega) (by have := h.hb; have := h.lt; omega) (by have := h.hb; have := h.lt; omega), (k.block _ (by have := h.lt; omega)).trans h.res, (k.block _ (Nat.lt_succ_self g)).trans h.box, h.lt, h.hb⟩
theorem Asm.set {w0 W : World} {N0 R0 b : Nat} {ds : List Nat} {bad : Bool} {g : Nat} {C C' : Array Value} (h : Asm w0 N0 R0 b ds bad g C W) (j : Nat) (y : Value) (e : C.setIfInBounds j y = C') : Asm w0 N0 R0 b ds bad g C' (W.setCell ⟨g, j, none⟩ y) := by
  have k : Below g W (W.setCell ⟨g, j, none⟩ y) := (Below.refl _ _).setCell (p := ⟨g, j, none⟩) (Nat.le_refl _) _
  exact ⟨h.tt.under k (Nat.le_of_lt h.lt) (by have := h.hb; have := h.lt; omega) (by have := h.hb; have := h.lt; omega) (by have := h.hb; have := h.lt; omega), (k.block _ h.lt).trans h.res, e ▸ heap_set h.box j y, h.lt, h.hb⟩
theorem Asm.put {w0 W : World} {N0 R0 b : Nat} {ds : List Nat} {bad : Bool} {g : Nat} { x0 x1 x2 x3 x4 x5 x6 x7 x8 x9 x10 x11 x12 x13 : Value} (h : Asm w0 N0 R0 b ds bad g #[x0, x1, x2, x3, x4, x5, x6, x7, x8, x9, x10, x11, x12, x13] W) (y0 y1 y2 y3 y4 y5 y6 y7 y8 y9 y10 y11 y12 y13 : Value) : Asm w0 N0 R0 b ds bad g #[y0, y1, y2, y3, y4, y5, y6, y7, y8, y9, y10, y11, y12, y13] (put14 W g y0 y1 y2 y3 y4 y5 y6 y7 y8 y9 y10 y11 y12 y13) := by
  have k : Below g W (put14 W g y0 y1 y2 y3 y4 y5 y6 y7 y8 y9 y10 y11 y12 y13) := put14_below W (Nat.le_refl g) y0 y1 y2 y3 y4 y5 y6 y7 y8 y9 y10 y11 y12 y13
  exact ⟨h.tt.under k (Nat.le_of_lt h.lt) (by have := h.hb; have := h.lt; omega) (by have := h.hb; have := h.lt; omega) (by have := h.hb; have := h.lt; omega), (k.block _ h.lt).trans h.res, put14_at h.box y0 y1 y2 y3 y4 y5 y6 y7 y8 y9 y10 y11 y12 y13, h.lt, h.hb⟩
theorem Asm.made {w0 W : World} {N0 R0 b : Nat} {ds : List Nat} {bad : Bool} (C : Array Value) (h : RdT w0 W N0 R0 b ds bad) (r : W.heap[w0.heap.size]? = some (.cells #[.int .i64 0, .int .i64 0, .int .u64 0, .int .i64 0, .int .i64 0, .int .i64 0, .int .u64 0, .int .i64 0, .int .i64 0, .int .i64 0, .int .i64 0, .slice none 0 0, .int .u64 0, .int .i64 0] 28 (0, 0))) (hb : b < w0.heap.size ∧ N0 < w0.heap.size ∧ R0 < w0.heap.size) : Asm w0 N0 R0 b ds bad W.heap.size C (W.alloc (.cells C 28)) := by
  obtain ⟨B1, s0, -⟩ := box1 W C 28
  exact ⟨h.kept B1, ex_below r B1, s0, ex_lt r, hb⟩
/-- A reply that was put together. -/
def AsmR (N0 R0 b : Nat) (ds : List Nat) (w : World) (e : Ending) (w' : World) : Prop := ∃ a' ca', e = .returned (repV ((nN 99 ds : Nat) : Int) (iN (nR 99 ds)) (yNine ds).n1 (yNine ds).n2 (yNine ds).n3 (yNine ds).n4 (yNine ds).n5 (yNine ds).n6 (yNine ds).n7 (yNine ds).n8 (yNine ds).n9 a' (yXs ds).length ca' ((nN 18446744073709551615 (y6 ds) : Nat) : Int) ((nN 128 (y7 ds) : Nat) : Int)) ∧ OU w' w.heap.size (.slice a' (yXs ds).length ca') (yXs ds) ∧ RdT w w' N0 R0 b (yRest ds) (yBad ds)
set_option maxRecDepth 100000 in
set_option maxHeartbeats 16000000 in
theorem asm_rd (b N0 R0 : Nat) (ds : List Nat) (bad : Bool) (w : World) (hr : RdT w w N0 R0 b ds bad) :
    Calls Try.prog 55 #[.pointer (some ⟨N0, 0, none⟩), .pointer (some ⟨R0, 0, none⟩)] w (AsmR N0 R0 b ds w) := by
  have HLT : Hid (b < w.heap.size ∧ N0 < w.heap.size ∧ R0 < w.heap.size) := Lib.hid ⟨hr.rr.lt, ex_lt hr.mbx, ex_lt hr.box⟩
  obtain ⟨B1, s0, sz⟩ := box1 w #[.int .i64 0, .int .i64 0, .int .u64 0, .int .i64 0, .int .i64 0, .int .i64 0, .int .u64 0, .int .i64 0, .int .i64 0, .int .i64 0, .int .i64 0, .slice none 0 0, .int .u64 0, .int .i64 0] 28
  have c0 : Below (w.alloc (.cells #[.int .i64 0, .int .i64 0, .int .u64 0, .int .i64 0, .int .i64 0, .int .i64 0, .int .u64 0, .int .i64 0, .int .i64 0, .int .i64 0, .int .i64 0, .slice none 0 0, .int .u64 0, .int .i64 0] 28)).heap.size (w.alloc (.cells #[.int .i64 0, .int .i64 0, .int .u64 0, .int .i64 0, .int .i64 0, .int .i64 0, .int .u64 0, .int .i64 0, .int .i64 0, .int .i64 0, .int .i64 0, .slice none 0 0, .int .u64 0, .int .i64 0] 28)) (w.alloc (.cells #[.int .i64 0, .int .i64 0, .int .u64 0, .int .i64 0, .int .i64 0, .int .i64 0, .int .u64 0, .int .i64 0, .int .i64 0, .int .i64 0, .int .i64 0, .slice none 0 0, .int .u64 0, .int .i64 0] 28)).drew := (Below.refl _ _).drew
  have HR0 : Hid (RdT w (w.alloc (.cells #[.int .i64 0, .int .i64 0, .int .u64 0, .int .i64 0, .int .i64 0, .int .i64 0, .int .u64 0, .int .i64 0, .int .i64 0, .int .i64 0, .int .i64 0, .slice none 0 0, .int .u64 0, .int .i64 0] 28)).drew N0 R0 b ds bad) := Lib.hid ((hr.kept B1).kept c0)
  have HT0 := Lib.hid (ex_below s0 c0)
  have HSZ := Lib.hid sz
  have h0 := HR0.out.nat
  have hc99 := nN_le 99 ds
  obtain ⟨c, ec⟩ : ∃ x, nN 99 ds = x := ⟨_, rfl⟩
  have HN1 : Hid (∀ W, RdT w W N0 R0 b ds bad → Calls Try.prog 54 #[.pointer (some ⟨b, 0, none⟩), .int .u64 99] W fun e w' => e = .returned (.int .u64 (c : Int)) ∧ RdT w w' N0 R0 b (nR 99 ds) (nB 99 ds) ∧ Rd b W w') := Lib.hid (fun W h => by rw [← ec]; exact h.num 99 99 (by omega))
  rw [ec] at hc99
  have HEC := Lib.hid ec
  have HI1 : Hid (∀ W, RdT w W N0 R0 b (nR 99 ds) (nB 99 ds) → Calls Try.prog 56 #[.pointer (some ⟨b, 0, none⟩)] W fun e w' => e = .returned (.int .i64 (iN (nR 99 ds))) ∧ RdT w w' N0 R0 b (y2 ds) (iB (nR 99 ds)) ∧ Rd b W w') := Lib.hid (fun W h => h.int)
  have HF1 : Hid (∀ W bd, RdT w W N0 R0 b (y2 ds) bd → Calls Try.prog 57 #[.pointer (some ⟨b, 0, none⟩)] W fun e w' => e = .returned (.bool (fN (y2 ds))) ∧ RdT w w' N0 R0 b (y3 ds) (nB 1 (y2 ds)) ∧ Rd b W w') := Lib.hid (fun W bd h => h.flag)
  have HK1 : Hid (∀ W bd, RdT w W N0 R0 b (y3 ds) bd → Calls Try.prog 58 #[.pointer (some ⟨b, 0, none⟩)] W fun e w' => e = .returned (.tuple #[(tkN (y3 ds)).t, .bool (tkOk (y3 ds))]) ∧ RdT w w' N0 R0 b (tkRest (y3 ds)) (!tkOk (y3 ds)) ∧ Rd b W w') := Lib.hid (fun W bd h => h.tk)
  obtain ⟨tm, et⟩ : ∃ x, iN (nR 99 ds) = x := ⟨_, rfl⟩
  rw [et] at HI1
  have HET := Lib.hid et
  have w1y : IntKind.i64.wrap (c : Int) = (c : Int) := IntWalk.i64_in _ ⟨by omega, by omega⟩
  have w1z : wrap64 (c : Int) = (c : Int) := IntWalk.wrap64_in _ ⟨by omega, by omega⟩
  clear hc99 ec et hr B1 s0 sz c0
  have HX := HR0
  have HZ := HT0
  clear HR0 HT0
  go_enter Try.func55, Try.ntmps55
  go_upto_region 1 with (fail)
  generalize w.alloc (.cells #[.int .i64 0, .int .i64 0, .int .u64 0, .int .i64 0, .int .i64 0, .int .i64 0, .int .u64 0, .int .i64 0, .int .i64 0, .int .i64 0, .int .i64 0, .slice none 0 0, .int .u64 0, .int .i64 0] 28) = W0 at HX HZ HSZ h0 ⊢
  go_cut [3] from 4 to 10 (fun s3 wc => ∃ g : Nat, s3 = .pointer (some ⟨g, 0, none⟩) ∧ Hid (Asm w N0 R0 b (y2 ds) (iB (nR 99 ds)) g #[.int .i64 (c : Int), .int .i64 tm, .int .u64 0, .int .i64 0, .int .i64 0, .int .i64 0, .int .u64 0, .int .i64 0, .int .i64 0, .int .i64 0, .int .i64 0, .slice none 0 0, .int .u64 0, .int .i64 0] wc))
  case first =>
    go_wp2_with fail
    refine wp_region_held_drew (S := fun W => W.cell? ⟨N0, 0, none⟩ = some (.func (.func 54) #[.pointer (some ⟨b, 0, none⟩)] #[]) ∧ W.cell? ⟨R0, 0, none⟩ = some (.pointer (some ⟨b, 0, none⟩))) (by kernel_rfl) h0 (fun hHeld => ?_)
    clear h0 hHeld
    generalize W0.drew = W1 at HX HZ ⊢
    refine wpAnyH_take (i := 0) (v := ?_) rfl (by kernel_rfl) (by kernel_rfl) (by kernel_rfl) (fun _ _ _ h => h) (Or.inl ⟨by rfl, ?_⟩) (HX.out.nat) ?_
    case refine_2 => (intro w1 hS1; (try dsimp only at hS1); go_simp; try with_reducible rfl)
    try simp only [List.getElem_toArray, List.getElem_cons_zero, List.getElem_cons_succ, Act.put, List.setIfInBounds_toArray, List.set_cons_zero, List.set_cons_succ]
    refine wpAnyH_take (i := 3) (v := ?_) rfl (by kernel_rfl) (by kernel_rfl) (by kernel_rfl) (fun _ _ _ h => h) (Or.inl ⟨by rfl, ?_⟩) (HX.out.nat) ?_
    case refine_2 => (intro w1 hS1; (try dsimp only at hS1); go_simp; try with_reducible rfl)
    try simp only [List.getElem_toArray, List.getElem_cons_zero, List.getElem_cons_succ, Act.put, List.setIfInBounds_toArray, List.set_cons_zero, List.set_cons_succ]
    refine wpAnyH_ready (rs := [1, 6]) (by kernel_rfl) (by simp) ?_
    refine AllReadyH.cons rfl (fun K hK => ?_) (AllReadyH.cons rfl (fun K hK => ?_) AllReadyH.nil)
    · go_simp
      refine (HN1.out _ HX.out).mono ?_
      rintro e w2 ⟨rfl, hx, ht⟩
      have HZ' := Lib.hid (ht.keep HZ.out (by have := HLT.out; omega))
      have HX' := Lib.hid hx
      clear hx ht HX HZ
      have HX := HX'
      have HZ := HZ'
      clear HX' HZ'
      refine hK.out _ _ (HX.out.nat) (fun hHeld => ?_)
      clear hK K hHeld
      try simp only [List.getElem_toArray, List.getElem_cons_zero, List.getElem_cons_succ, Act.put, List.setIfInBounds_toArray, List.set_cons_zero, List.set_cons_succ]
      refine wpAnyH_take (i := 2) (v := ?_) rfl (by kernel_rfl) (by kernel_rfl) (by kernel_rfl) (fun _ _ _ h => h) (Or.inl ⟨by rfl, ?_⟩) (HX.out.nat) ?_
      case refine_2 => (intro w1 hS1; (try dsimp only at hS1); go_simp; try with_reducible rfl)
      try simp only [List.getElem_toArray, List.getElem_cons_zero, List.getElem_cons_succ, Act.put, List.setIfInBounds_toArray, List.set_cons_zero, List.set_cons_succ]
      refine wpAnyH_ready (rs := [4, 6]) (by kernel_rfl) (by simp) ?_
      refine AllReadyH.cons rfl (fun K hK => ?_) (AllReadyH.cons rfl (fun K hK => ?_) AllReadyH.nil)
      · go_simp
        refine (HI1.out _ HX.out).mono ?_
        rintro e w2 ⟨rfl, hx, ht⟩
        have HZ' := Lib.hid (ht.keep HZ.out (by have := HLT.out; omega))
        have HX' := Lib.hid hx
        clear hx ht HX HZ
        have HX := HX'
        have HZ := HZ'
        clear HX' HZ'
        refine hK.out _ _ (HX.out.nat) (fun hHeld => ?_)
        clear hK K hHeld
        try simp only [List.getElem_toArray, List.getElem_cons_zero, List.getElem_cons_succ, Act.put, List.setIfInBounds_toArray, List.set_cons_zero, List.set_cons_succ]
        refine wpAnyH_take (i := 5) (v := ?_) rfl (by kernel_rfl) (by kernel_rfl) (by kernel_rfl) (fun _ _ _ h => h) (Or.inl ⟨by rfl, ?_⟩) (HX.out.nat) ?_
        case refine_2 => (intro w1 hS1; (try dsimp only at hS1); go_simp; try with_reducible rfl)
        try simp only [List.getElem_toArray, List.getElem_cons_zero, List.getElem_cons_succ, Act.put, List.setIfInBounds_toArray, List.set_cons_zero, List.set_cons_succ]
        refine wpAnyH_ready (rs := [6]) (by kernel_rfl) (by simp) ?_
        refine AllReadyH.cons rfl (fun K hK => ?_) AllReadyH.nil
        have HX' := Lib.hid (Asm.made #[.int .i64 (c : Int), .int .i64 tm, .int .u64 0, .int .i64 0, .int .i64 0, .int .i64 0, .int .u64 0, .int .i64 0, .int .i64 0, .int .i64 0, .int .i64 0, .slice none 0 0, .int .u64 0, .int .i64 0] HX.out HZ.out HLT.out)
        have HY := Lib.hid (Asm.made #[.int .i64 0, .int .i64 0, .int .u64 0, .int .i64 0, .int .i64 0, .int .i64 0, .int .u64 0, .int .i64 0, .int .i64 0, .int .i64 0, .int .i64 0, .slice none 0 0, .int .u64 0, .int .i64 0] HX.out HZ.out HLT.out)
        clear HX HZ
        have HX := HX'
        clear HX'
        go_simp
        refine hK.out _ _ (HY.out.tt.nat) (fun hHeld => ?_)
        clear hK K hHeld
        try simp only [List.getElem_toArray, List.getElem_cons_zero, List.getElem_cons_succ, Act.put, List.setIfInBounds_toArray, List.set_cons_zero, List.set_cons_succ]
        refine wpAnyH_ready (rs := [7]) (by kernel_rfl) (by simp) ?_
        refine AllReadyH.cons rfl (fun K hK => ?_) AllReadyH.nil
        obtain ⟨q0, q1, q2, q3, q4, q5, q6, q7, q8, q9, q10, q11, q12, q13⟩ := rep_at HY.out.box
        have qf := rep_fr HY.out.box
        go_simp
        clear q0 q1 q2 q3 q4 q5 q6 q7 q8 q9 q10 q11 q12 q13 qf HY
        refine hK.out _ _ (HX.out.tt.nat) (fun hHeld => ?_)
        clear hK K hHeld
        try simp only [List.getElem_toArray, List.getElem_cons_zero, List.getElem_cons_succ, Act.put, List.setIfInBounds_toArray, List.set_cons_zero, List.set_cons_succ]
        refine wpAnyH_done (by kernel_rfl) ?_ _
        go_wp2_with fail
        go_meet
        exact ⟨_, rfl, HX⟩
      · go_simp
        have HX' := Lib.hid (Asm.made #[.int .i64 0, .int .i64 0, .int .u64 0, .int .i64 0, .int .i64 0, .int .i64 0, .int .u64 0, .int .i64 0, .int .i64 0, .int .i64 0, .int .i64 0, .slice none 0 0, .int .u64 0, .int .i64 0] HX.out HZ.out HLT.out)
        clear HX HZ
        have HX := HX'
        clear HX'
        refine hK.out _ _ (HX.out.tt.nat) (fun hHeld => ?_)
        clear hK K hHeld
        try simp only [List.getElem_toArray, List.getElem_cons_zero, List.getElem_cons_succ, Act.put, List.setIfInBounds_toArray, List.set_cons_zero, List.set_cons_succ]
        refine wpAnyH_ready (rs := [4]) (by kernel_rfl) (by simp) ?_
        refine AllReadyH.cons rfl (fun K hK => ?_) AllReadyH.nil
        go_simp
        refine (HI1.out _ HX.out.tt).mono ?_
        rintro e w2 ⟨rfl, hx, ht⟩
        have HX' := Lib.hid (HX.out.call hx ht)
        clear hx ht HX
        have HX := HX'
        clear HX'
        refine hK.out _ _ (HX.out.tt.nat) (fun hHeld => ?_)
        clear hK K hHeld
        try simp only [List.getElem_toArray, List.getElem_cons_zero, List.getElem_cons_succ, Act.put, List.setIfInBounds_toArray, List.set_cons_zero, List.set_cons_succ]
        refine wpAnyH_take (i := 5) (v := ?_) rfl (by kernel_rfl) (by kernel_rfl) (by kernel_rfl) (fun _ _ _ h => h) (Or.inl ⟨by rfl, ?_⟩) (HX.out.tt.nat) ?_
        case refine_2 => (intro w1 hS1; (try dsimp only at hS1); go_simp; try with_reducible rfl)
        try simp only [List.getElem_toArray, List.getElem_cons_zero, List.getElem_cons_succ, Act.put, List.setIfInBounds_toArray, List.set_cons_zero, List.set_cons_succ]
        refine wpAnyH_ready (rs := [7]) (by kernel_rfl) (by simp) ?_
        refine AllReadyH.cons rfl (fun K hK => ?_) AllReadyH.nil
        obtain ⟨q0, q1, q2, q3, q4, q5, q6, q7, q8, q9, q10, q11, q12, q13⟩ := rep_at HX.out.box
        have qf := rep_fr HX.out.box
        have hx := HX.out.put (.int .i64 (c : Int)) (.int .i64 tm) (.int .u64 0) (.int .i64 0) (.int .i64 0) (.int .i64 0) (.int .u64 0) (.int .i64 0) (.int .i64 0) (.int .i64 0) (.int .i64 0) (.slice none 0 0) (.int .u64 0) (.int .i64 0)
        unfold put14 at hx
        have HX' := Lib.hid hx
        clear hx
        go_simp
        clear q0 q1 q2 q3 q4 q5 q6 q7 q8 q9 q10 q11 q12 q13 qf HX
        have HX := HX'
        clear HX'
        refine hK.out _ _ (HX.out.tt.nat) (fun hHeld => ?_)
        clear hK K hHeld
        try simp only [List.getElem_toArray, List.getElem_cons_zero, List.getElem_cons_succ, Act.put, List.setIfInBounds_toArray, List.set_cons_zero, List.set_cons_succ]
        refine wpAnyH_done (by kernel_rfl) ?_ _
        go_wp2_with fail
        go_meet
        exact ⟨_, rfl, HX⟩
    · go_simp
      have HX' := Lib.hid (Asm.made #[.int .i64 0, .int .i64 0, .int .u64 0, .int .i64 0, .int .i64 0, .int .i64 0, .int .u64 0, .int .i64 0, .int .i64 0, .int .i64 0, .int .i64 0, .slice none 0 0, .int .u64 0, .int .i64 0] HX.out HZ.out HLT.out)
      clear HX HZ
      have HX := HX'
      clear HX'
      refine hK.out _ _ (HX.out.tt.nat) (fun hHeld => ?_)
      clear hK K hHeld
      try simp only [List.getElem_toArray, List.getElem_cons_zero, List.getElem_cons_succ, Act.put, List.setIfInBounds_toArray, List.set_cons_zero, List.set_cons_succ]
      refine wpAnyH_ready (rs := [1]) (by kernel_rfl) (by simp) ?_
      refine AllReadyH.cons rfl (fun K hK => ?_) AllReadyH.nil
      go_simp
      refine (HN1.out _ HX.out.tt).mono ?_
      rintro e w2 ⟨rfl, hx, ht⟩
      have HX' := Lib.hid (HX.out.call hx ht)
      clear hx ht HX
      have HX := HX'
      clear HX'
      refine hK.out _ _ (HX.out.tt.nat) (fun hHeld => ?_)
      clear hK K hHeld
      try simp only [List.getElem_toArray, List.getElem_cons_zero, List.getElem_cons_succ, Act.put, List.setIfInBounds_toArray, List.set_cons_zero, List.set_cons_succ]
      refine wpAnyH_take (i := 2) (v := ?_) rfl (by kernel_rfl) (by kernel_rfl) (by kernel_rfl) (fun _ _ _ h => h) (Or.inl ⟨by rfl, ?_⟩) (HX.out.tt.nat) ?_
      case refine_2 => (intro w1 hS1; (try dsimp only at hS1); go_simp; try with_reducible rfl)
      try simp only [List.getElem_toArray, List.getElem_cons_zero, List.getElem_cons_succ, Act.put, List.setIfInBounds_toArray, List.set_cons_zero, List.set_cons_succ]
      refine wpAnyH_ready (rs := [4]) (by kernel_rfl) (by simp) ?_
      refine AllReadyH.cons rfl (fun K hK => ?_) AllReadyH.nil
      go_simp
      refine (HI1.out _ HX.out.tt).mono ?_
      rintro e w2 ⟨rfl, hx, ht⟩
      have HX' := Lib.hid (HX.out.call hx ht)
      clear hx ht HX
      have HX := HX'
      clear HX'
      refine hK.out _ _ (HX.out.tt.nat) (fun hHeld => ?_)
      clear hK K hHeld
      try simp only [List.getElem_toArray, List.getElem_cons_zero, List.getElem_cons_succ, Act.put, List.setIfInBounds_toArray, List.set_cons_zero, List.set_cons_succ]
      refine wpAnyH_take (i := 5) (v := ?_) rfl (by kernel_rfl) (by kernel_rfl) (by kernel_rfl) (fun _ _ _ h => h) (Or.inl ⟨by rfl, ?_⟩) (HX.out.tt.nat) ?_
      case refine_2 => (intro w1 hS1; (try dsimp only at hS1); go_simp; try with_reducible rfl)
      try simp only [List.getElem_toArray, List.getElem_cons_zero, List.getElem_cons_succ, Act.put, List.setIfInBounds_toArray, List.set_cons_zero, List.set_cons_succ]
      refine wpAnyH_ready (rs := [7]) (by kernel_rfl) (by simp) ?_
      refine AllReadyH.cons rfl (fun K hK => ?_) AllReadyH.nil
      obtain ⟨q0, q1, q2, q3, q4, q5, q6, q7, q8, q9, q10, q11, q12, q13⟩ := rep_at HX.out.box
      have qf := rep_fr HX.out.box
      have hx := HX.out.put (.int .i64 (c : Int)) (.int .i64 tm) (.int .u64 0) (.int .i64 0) (.int .i64 0) (.int .i64 0) (.int .u64 0) (.int .i64 0) (.int .i64 0) (.int .i64 0) (.int .i64 0) (.slice none 0 0) (.int .u64 0) (.int .i64 0)
      unfold put14 at hx
      have HX' := Lib.hid hx
      clear hx
      go_simp
      clear q0 q1 q2 q3 q4 q5 q6 q7 q8 q9 q10 q11 q12 q13 qf HX
      have HX := HX'
      clear HX'
      refine hK.out _ _ (HX.out.tt.nat) (fun hHeld => ?_)
      clear hK K hHeld
      try simp only [List.getElem_toArray, List.getElem_cons_zero, List.getElem_cons_succ, Act.put, List.setIfInBounds_toArray, List.set_cons_zero, List.set_cons_succ]
      refine wpAnyH_done (by kernel_rfl) ?_ _
      go_wp2_with fail
      go_meet
      exact ⟨_, rfl, HX⟩
  case rest =>
    obtain ⟨g, rfl, HX⟩ := hcut
    obtain ⟨m0, m1⟩ := HX.out.tt.nat
    obtain ⟨⟨t1, t2, t3, t4, t5, t6, t7, t8, t9⟩, hm⟩ : ∃ x : Nine, yNine ds = x := ⟨_, rfl⟩
    obtain ⟨z, hz⟩ : ∃ x, fN (y2 ds) = x := ⟨_, rfl⟩
    rw [hz] at HF1
    have h64 := nN_le 64 (y4 ds)
    have HN64 : Hid (∀ W bd, RdT w W N0 R0 b (y4 ds) bd → Calls Try.prog 54 #[.pointer (some ⟨b, 0, none⟩), .int .u64 64] W fun e w' => e = .returned (.int .u64 ((nN 64 (y4 ds) : Nat) : Int)) ∧ RdT w w' N0 R0 b (y5 ds) (nB 64 (y4 ds)) ∧ Rd b W w') := Lib.hid (fun W bd h => h.num 64 64 (by omega))
    have HLL : Hid (([] : List Nat).length = 0 ∧ [] ++ qL 18446744073709551615 (nN 64 (y4 ds) - 0) (y5 ds) = yXs ds ∧ qR 18446744073709551615 (nN 64 (y4 ds) - 0) (y5 ds) = y6 ds) := Lib.hid ⟨rfl, rfl, rfl⟩
    obtain ⟨n, hn⟩ : ∃ x, nN 64 (y4 ds) = x := ⟨_, rfl⟩
    rw [hn] at HN64 HLL h64
    have HN64L := Lib.hid h64
    clear hn h64
    go_wp2_with fail
    refine (HF1.out _ _ HX.out.tt).mono ?_
    rintro e W2 ⟨rfl, hx, ht⟩
    have HX' := Lib.hid (HX.out.call hx ht)
    clear hx ht m0 m1
    clear HX
    have HX := HX'
    clear HX'
    obtain ⟨m0, m1⟩ := HX.out.tt.nat
    cases z
    case false =>
      have hy4 : y4 ds = y3 ds := by unfold y4; rw [hz]; rfl
      have hyn : yNine ds = zNine := by unfold yNine; rw [hz]; rfl
      have HYN := Lib.hid hyn
      rw [← hy4] at HX
      clear hy4 hz hm hyn m0 m1
      obtain ⟨m0, m1⟩ := HX.out.tt.nat
      go_wp2_with fail
      refine (HN64.out _ _ HX.out.tt).mono ?_
      rintro e W4 ⟨rfl, hx, ht⟩
      have HX' := Lib.hid (HX.out.call hx ht)
      clear hx ht m0 m1
      clear HX
      have HX := HX'
      clear HX'
      have HO0 : Hid (OU W4 (g + 1) (.slice none 0 0) []) := Lib.hid (OU.nil _ _)
      go_wp2_with fail
      go_loopg [20] n (fun kx s20 wr => ∃ (k : Nat) (D : List Nat) (es : List Nat) (bd : Bool) (v : Value), s20 = .int .u64 k ∧ k ≤ n ∧ n - k ≤ kx ∧ Hid (D.length = k ∧ D ++ qL 18446744073709551615 (n - k) es = yXs ds ∧ qR 18446744073709551615 (n - k) es = y6 ds) ∧ Hid (Asm w N0 R0 b es bd g #[.int .i64 (c : Int), .int .i64 tm, .int .u64 0, .int .i64 0, .int .i64 0, .int .i64 0, .int .u64 0, .int .i64 0, .int .i64 0, .int .i64 0, .int .i64 0, v, .int .u64 0, .int .i64 0] wr) ∧ Hid (OU wr (g + 1) v D))
      case atStart => exact ⟨0, [], y5 ds, _, _, rfl, by omega, by omega, HLL, HX, HO0⟩
      case round =>
        obtain ⟨k, D, es, bd, v, rfl, hk, hkx, HDL, HX, HO⟩ := hrel
        obtain ⟨a5, c5, hv5, -, -⟩ := OU.shape HO.out
        subst hv5
        by_cases hlt : k < n
        · have hltz : (k : Int) < (n : Int) := by omega
          obtain ⟨l5, hl5⟩ : ∃ x, D.length = x := ⟨_, rfl⟩
          rw [hl5] at HX HO
          have hnk : n - k = (n - (k + 1)) + 1 := by omega
          have HDD : Hid ((D ++ [nN 18446744073709551615 es]).length = k + 1 ∧ (D ++ [nN 18446744073709551615 es]) ++ qL 18446744073709551615 (n - (k + 1)) (nR 18446744073709551615 es) = yXs ds ∧ qR 18446744073709551615 (n - (k + 1)) (nR 18446744073709551615 es) = y6 ds) := by
            have h := HDL.out
            rw [hnk, qL, qR] at h
            exact Lib.hid ⟨by rw [List.length_append, h.1]; rfl, by rw [List.append_assoc]; exact h.2.1, h.2.2⟩
          have HN2 : Hid (∀ W, RdT w W N0 R0 b es bd → Calls Try.prog 54 #[.pointer (some ⟨b, 0, none⟩), .int .u64 18446744073709551615] W fun e w' => e = .returned (.int .u64 ((nN 18446744073709551615 es : Nat) : Int)) ∧ RdT w w' N0 R0 b (nR 18446744073709551615 es) (nB 18446744073709551615 es) ∧ Rd b W w') := Lib.hid (fun W h => h.num 18446744073709551615 18446744073709551615 (by omega))
          obtain ⟨f, e1⟩ : ∃ x, nN 18446744073709551615 es = x := ⟨_, rfl⟩
          obtain ⟨es1, e2⟩ : ∃ x, nR 18446744073709551615 es = x := ⟨_, rfl⟩
          obtain ⟨bd1, e3⟩ : ∃ x, nB 18446744073709551615 es = x := ⟨_, rfl⟩
          rw [e1, e2, e3] at HN2
          rw [e1, e2] at HDD
          have HLD : Hid (D.length ≤ 100000) := Lib.hid (by have := HDL.out.1; have := HN64L.out; omega)
          clear e1 e2 e3 hnk HDL hl5
          have cd0 : Below wr.heap.size wr wr.drew := (Below.refl _ _).drew
          have HX' := Lib.hid (HX.out.kept cd0)
          have HO' := Lib.hid (HO.out.kept cd0)
          clear cd0
          clear HX HO
          have HX := HX'
          have HO := HO'
          clear HX' HO'
          go_wp2_with fail
          refine wp_region_held_drew (S := fun W => W.cell? ⟨N0, 0, none⟩ = some (.func (.func 54) #[.pointer (some ⟨b, 0, none⟩)] #[])) (by kernel_rfl) HX.out.tt.nat.1 (fun hHeld => ?_)
          clear hHeld
          generalize wr.drew = wd at HX HO ⊢
          refine wpAnyH_take (i := 0) (v := ?_) rfl (by kernel_rfl) (by kernel_rfl) (by kernel_rfl) (fun _ _ _ h => h) (Or.inl ⟨by rfl, ?_⟩) (HX.out.tt.nat.1) ?_
          case refine_2 => (intro w1 hS1; (try dsimp only at hS1); go_simp; try with_reducible rfl)
          try simp only [List.getElem_toArray, List.getElem_cons_zero, List.getElem_cons_succ, Act.put, List.setIfInBounds_toArray, List.set_cons_zero, List.set_cons_succ]
          refine wpAnyH_take (i := 2) (v := ?_) rfl (by kernel_rfl) (by kernel_rfl) (by kernel_rfl) (fun _ _ _ h => h) (Or.inl ⟨by rfl, ?_⟩) (HX.out.tt.nat.1) ?_
          case refine_2 => (intro w1 hS1; (try dsimp only at hS1); go_simp; try with_reducible rfl)
          try simp only [List.getElem_toArray, List.getElem_cons_zero, List.getElem_cons_succ, Act.put, List.setIfInBounds_toArray, List.set_cons_zero, List.set_cons_succ]
          refine wpAnyH_ready (rs := [1, 3]) (by kernel_rfl) (by simp) ?_
          refine AllReadyH.cons rfl (fun K hK => ?_) (AllReadyH.cons rfl (fun K hK => ?_) (AllReadyH.nil))
          · obtain ⟨q0, q1, q2, q3, q4, q5, q6, q7, q8, q9, q10, q11, q12, q13⟩ := rep_at HX.out.box
            go_simp
            clear q0 q1 q2 q3 q4 q5 q6 q7 q8 q9 q10 q11 q12 q13
            refine hK.out _ _ (HX.out.tt.nat.1) (fun hHeld => ?_)
            clear hK K hHeld
            try simp only [List.getElem_toArray, List.getElem_cons_zero, List.getElem_cons_succ, Act.put, List.setIfInBounds_toArray, List.set_cons_zero, List.set_cons_succ]
            refine wpAnyH_ready (rs := [3]) (by kernel_rfl) (by simp) ?_
            refine AllReadyH.cons rfl (fun K hK => ?_) (AllReadyH.nil)
            go_simp
            refine (HN2.out _ HX.out.tt).mono ?_
            rintro e w2 ⟨rfl, hx, ht⟩
            have HX' := Lib.hid (HX.out.call hx ht)
            have HO' := Lib.hid (HO.out.rd ht (by have := HX.out.lt; have := HX.out.hb; omega))
            clear hx ht
            clear HX HO
            have HX := HX'
            have HO := HO'
            clear HX' HO'
            refine hK.out _ _ (HX.out.tt.nat.1) (fun hHeld => ?_)
            clear hK K hHeld
            try simp only [List.getElem_toArray, List.getElem_cons_zero, List.getElem_cons_succ, Act.put, List.setIfInBounds_toArray, List.set_cons_zero, List.set_cons_succ]
            refine wpAnyH_ready (rs := [4]) (by kernel_rfl) (by simp) ?_
            refine AllReadyH.cons rfl (fun K hK => ?_) (AllReadyH.nil)
            have HV : Hid ((w2.alloc (.cells #[.int .u64 (f : Int)] 23)).cell? ⟨w2.heap.size, 0, none⟩ = some (.int .u64 (f : Int))) := Lib.hid (one_at (box1 w2 #[.int .u64 (f : Int)] 23).2.1)
            have B4 := (box1 w2 #[.int .u64 (f : Int)] 23).1
            have HX' := Lib.hid (HX.out.kept B4)
            have HO' := Lib.hid (HO.out.kept B4)
            have HZ4 : Hid (g + 1 ≤ (w2.alloc (.cells #[.int .u64 (f : Int)] 23)).heap.size) := Lib.hid (ex_lt HX'.out.box)
            clear B4
            clear HX HO
            have HX := HX'
            have HO := HO'
            clear HX' HO'
            go_simp
            refine hK.out _ _ (HX.out.tt.nat.1) (fun hHeld => ?_)
            clear hK K hHeld
            try simp only [List.getElem_toArray, List.getElem_cons_zero, List.getElem_cons_succ, Act.put, List.setIfInBounds_toArray, List.set_cons_zero, List.set_cons_succ]
            refine wpAnyH_ready (rs := [5]) (by kernel_rfl) (by simp) ?_
            refine AllReadyH.cons rfl (fun K hK => ?_) (AllReadyH.nil)
            refine step_append_u rfl (.tmp 23) (.tmp 26) rfl (g + 1) (.slice a5 l5 c5) D f ⟨w2.heap.size, 0, none⟩ 1 rfl rfl HO.out HV.out HLD.out HZ4.out ?_
            intro v5 w5 ho5 hst
            obtain ⟨a6, c6, hv5, -, -⟩ := OU.shape ho5
            obtain ⟨l6, hl6⟩ : ∃ x, (D ++ [f]).length = x := ⟨_, rfl⟩
            rw [hl6] at hv5
            subst hv5
            have B5 := hst.below (Below.refl (g + 1) _)
            have HX' := Lib.hid (HX.out.under B5)
            have HO' := Lib.hid ho5
            clear B5 ho5 hst hl6 HV HZ4
            clear HX HO
            have HX := HX'
            have HO := HO'
            clear HX' HO'
            refine hK.out _ _ (HX.out.tt.nat.1) (fun hHeld => ?_)
            clear hK K hHeld
            try simp only [List.getElem_toArray, List.getElem_cons_zero, List.getElem_cons_succ, Act.put, List.setIfInBounds_toArray, List.set_cons_zero, List.set_cons_succ]
            refine wpAnyH_take (i := 6) (v := ?_) rfl (by kernel_rfl) (by kernel_rfl) (by kernel_rfl) (fun _ _ _ h => h) (Or.inl ⟨by rfl, ?_⟩) (HX.out.tt.nat.1) ?_
            case refine_2 => (intro w1 hS1; (try dsimp only at hS1); go_simp; try with_reducible rfl)
            try simp only [List.getElem_toArray, List.getElem_cons_zero, List.getElem_cons_succ, Act.put, List.setIfInBounds_toArray, List.set_cons_zero, List.set_cons_succ]
            refine wpAnyH_ready (rs := [7]) (by kernel_rfl) (by simp) ?_
            refine AllReadyH.cons rfl (fun K hK => ?_) AllReadyH.nil
            obtain ⟨q0, q1, q2, q3, q4, q5, q6, q7, q8, q9, q10, q11, q12, q13⟩ := rep_at HX.out.box
            have qf := rep_fr HX.out.box
            have HX' := Lib.hid (HX.out.set 11 (.slice a6 l6 c6) rfl)
            have HO' := Lib.hid (HO.out.set (p := ⟨g, 11, none⟩) (Nat.lt_succ_self g) (.slice a6 l6 c6))
            clear HX HO
            have HX := HX'
            have HO := HO'
            clear HX' HO'
            go_simp
            clear q0 q1 q2 q3 q4 q5 q6 q7 q8 q9 q10 q11 q12 q13 qf
            refine hK.out _ _ (HX.out.tt.nat.1) (fun hHeld => ?_)
            clear hK K hHeld
            try simp only [List.getElem_toArray, List.getElem_cons_zero, List.getElem_cons_succ, Act.put, List.setIfInBounds_toArray, List.set_cons_zero, List.set_cons_succ]
            refine wpAnyH_done (by kernel_rfl) ?_ _
            go_wp2_with fail
            go_roundg (n - (k + 1))
            case measure => omega
            case rel => exact ⟨k + 1, D ++ [f], es1, bd1, _, by have hw := wrap_upU k (by have := HN64L.out; omega); first | (rw [hw.1]; rfl) | (rw [hw.2]; rfl) | go_num, by omega, by omega, HDD, HX, HO⟩
          · go_simp
            refine (HN2.out _ HX.out.tt).mono ?_
            rintro e w2 ⟨rfl, hx, ht⟩
            have HX' := Lib.hid (HX.out.call hx ht)
            have HO' := Lib.hid (HO.out.rd ht (by have := HX.out.lt; have := HX.out.hb; omega))
            clear hx ht
            clear HX HO
            have HX := HX'
            have HO := HO'
            clear HX' HO'
            refine hK.out _ _ (HX.out.tt.nat.1) (fun hHeld => ?_)
            clear hK K hHeld
            try simp only [List.getElem_toArray, List.getElem_cons_zero, List.getElem_cons_succ, Act.put, List.setIfInBounds_toArray, List.set_cons_zero, List.set_cons_succ]
            refine wpAnyH_ready (rs := [1, 4]) (by kernel_rfl) (by simp) ?_
            refine AllReadyH.cons rfl (fun K hK => ?_) (AllReadyH.cons rfl (fun K hK => ?_) (AllReadyH.nil))
            · obtain ⟨q0, q1, q2, q3, q4, q5, q6, q7, q8, q9, q10, q11, q12, q13⟩ := rep_at HX.out.box
              go_simp
              clear q0 q1 q2 q3 q4 q5 q6 q7 q8 q9 q10 q11 q12 q13
              refine hK.out _ _ (HX.out.tt.nat.1) (fun hHeld => ?_)
              clear hK K hHeld
              try simp only [List.getElem_toArray, List.getElem_cons_zero, List.getElem_cons_succ, Act.put, List.setIfInBounds_toArray, List.set_cons_zero, List.set_cons_succ]
              refine wpAnyH_ready (rs := [4]) (by kernel_rfl) (by simp) ?_
              refine AllReadyH.cons rfl (fun K hK => ?_) (AllReadyH.nil)
              have HV : Hid ((w2.alloc (.cells #[.int .u64 (f : Int)] 23)).cell? ⟨w2.heap.size, 0, none⟩ = some (.int .u64 (f : Int))) := Lib.hid (one_at (box1 w2 #[.int .u64 (f : Int)] 23).2.1)
              have B4 := (box1 w2 #[.int .u64 (f : Int)] 23).1
              have HX' := Lib.hid (HX.out.kept B4)
              have HO' := Lib.hid (HO.out.kept B4)
              have HZ4 : Hid (g + 1 ≤ (w2.alloc (.cells #[.int .u64 (f : Int)] 23)).heap.size) := Lib.hid (ex_lt HX'.out.box)
              clear B4
              clear HX HO
              have HX := HX'
              have HO := HO'
              clear HX' HO'
              go_simp
              refine hK.out _ _ (HX.out.tt.nat.1) (fun hHeld => ?_)
              clear hK K hHeld
              try simp only [List.getElem_toArray, List.getElem_cons_zero, List.getElem_cons_succ, Act.put, List.setIfInBounds_toArray, List.set_cons_zero, List.set_cons_succ]
              refine wpAnyH_ready (rs := [5]) (by kernel_rfl) (by simp) ?_
              refine AllReadyH.cons rfl (fun K hK => ?_) (AllReadyH.nil)
              refine step_append_u rfl (.tmp 23) (.tmp 26) rfl (g + 1) (.slice a5 l5 c5) D f ⟨w2.heap.size, 0, none⟩ 1 rfl rfl HO.out HV.out HLD.out HZ4.out ?_
              intro v5 w5 ho5 hst
              obtain ⟨a6, c6, hv5, -, -⟩ := OU.shape ho5
              obtain ⟨l6, hl6⟩ : ∃ x, (D ++ [f]).length = x := ⟨_, rfl⟩
              rw [hl6] at hv5
              subst hv5
              have B5 := hst.below (Below.refl (g + 1) _)
              have HX' := Lib.hid (HX.out.under B5)
              have HO' := Lib.hid ho5
              clear B5 ho5 hst hl6 HV HZ4
              clear HX HO
              have HX := HX'
              have HO := HO'
              clear HX' HO'
              refine hK.out _ _ (HX.out.tt.nat.1) (fun hHeld => ?_)
              clear hK K hHeld
              try simp only [List.getElem_toArray, List.getElem_cons_zero, List.getElem_cons_succ, Act.put, List.setIfInBounds_toArray, List.set_cons_zero, List.set_cons_succ]
              refine wpAnyH_take (i := 6) (v := ?_) rfl (by kernel_rfl) (by kernel_rfl) (by kernel_rfl) (fun _ _ _ h => h) (Or.inl ⟨by rfl, ?_⟩) (HX.out.tt.nat.1) ?_
              case refine_2 => (intro w1 hS1; (try dsimp only at hS1); go_simp; try with_reducible rfl)
              try simp only [List.getElem_toArray, List.getElem_cons_zero, List.getElem_cons_succ, Act.put, List.setIfInBounds_toArray, List.set_cons_zero, List.set_cons_succ]
              refine wpAnyH_ready (rs := [7]) (by kernel_rfl) (by simp) ?_
              refine AllReadyH.cons rfl (fun K hK => ?_) AllReadyH.nil
              obtain ⟨q0, q1, q2, q3, q4, q5, q6, q7, q8, q9, q10, q11, q12, q13⟩ := rep_at HX.out.box
              have qf := rep_fr HX.out.box
              have HX' := Lib.hid (HX.out.set 11 (.slice a6 l6 c6) rfl)
              have HO' := Lib.hid (HO.out.set (p := ⟨g, 11, none⟩) (Nat.lt_succ_self g) (.slice a6 l6 c6))
              clear HX HO
              have HX := HX'
              have HO := HO'
              clear HX' HO'
              go_simp
              clear q0 q1 q2 q3 q4 q5 q6 q7 q8 q9 q10 q11 q12 q13 qf
              refine hK.out _ _ (HX.out.tt.nat.1) (fun hHeld => ?_)
              clear hK K hHeld
              try simp only [List.getElem_toArray, List.getElem_cons_zero, List.getElem_cons_succ, Act.put, List.setIfInBounds_toArray, List.set_cons_zero, List.set_cons_succ]
              refine wpAnyH_done (by kernel_rfl) ?_ _
              go_wp2_with fail
              go_roundg (n - (k + 1))
              case measure => omega
              case rel => exact ⟨k + 1, D ++ [f], es1, bd1, _, by have hw := wrap_upU k (by have := HN64L.out; omega); first | (rw [hw.1]; rfl) | (rw [hw.2]; rfl) | go_num, by omega, by omega, HDD, HX, HO⟩
            · have HV : Hid ((w2.alloc (.cells #[.int .u64 (f : Int)] 23)).cell? ⟨w2.heap.size, 0, none⟩ = some (.int .u64 (f : Int))) := Lib.hid (one_at (box1 w2 #[.int .u64 (f : Int)] 23).2.1)
              have B4 := (box1 w2 #[.int .u64 (f : Int)] 23).1
              have HX' := Lib.hid (HX.out.kept B4)
              have HO' := Lib.hid (HO.out.kept B4)
              have HZ4 : Hid (g + 1 ≤ (w2.alloc (.cells #[.int .u64 (f : Int)] 23)).heap.size) := Lib.hid (ex_lt HX'.out.box)
              clear B4
              clear HX HO
              have HX := HX'
              have HO := HO'
              clear HX' HO'
              go_simp
              refine hK.out _ _ (HX.out.tt.nat.1) (fun hHeld => ?_)
              clear hK K hHeld
              try simp only [List.getElem_toArray, List.getElem_cons_zero, List.getElem_cons_succ, Act.put, List.setIfInBounds_toArray, List.set_cons_zero, List.set_cons_succ]
              refine wpAnyH_ready (rs := [1]) (by kernel_rfl) (by simp) ?_
              refine AllReadyH.cons rfl (fun K hK => ?_) (AllReadyH.nil)
              obtain ⟨q0, q1, q2, q3, q4, q5, q6, q7, q8, q9, q10, q11, q12, q13⟩ := rep_at HX.out.box
              go_simp
              clear q0 q1 q2 q3 q4 q5 q6 q7 q8 q9 q10 q11 q12 q13
              refine hK.out _ _ (HX.out.tt.nat.1) (fun hHeld => ?_)
              clear hK K hHeld
              try simp only [List.getElem_toArray, List.getElem_cons_zero, List.getElem_cons_succ, Act.put, List.setIfInBounds_toArray, List.set_cons_zero, List.set_cons_succ]
              refine wpAnyH_ready (rs := [5]) (by kernel_rfl) (by simp) ?_
              refine AllReadyH.cons rfl (fun K hK => ?_) (AllReadyH.nil)
              refine step_append_u rfl (.tmp 23) (.tmp 26) rfl (g + 1) (.slice a5 l5 c5) D f ⟨w2.heap.size, 0, none⟩ 1 rfl rfl HO.out HV.out HLD.out HZ4.out ?_
              intro v5 w5 ho5 hst
              obtain ⟨a6, c6, hv5, -, -⟩ := OU.shape ho5
              obtain ⟨l6, hl6⟩ : ∃ x, (D ++ [f]).length = x := ⟨_, rfl⟩
              rw [hl6] at hv5
              subst hv5
              have B5 := hst.below (Below.refl (g + 1) _)
              have HX' := Lib.hid (HX.out.under B5)
              have HO' := Lib.hid ho5
              clear B5 ho5 hst hl6 HV HZ4
              clear HX HO
              have HX := HX'
              have HO := HO'
              clear HX' HO'
              refine hK.out _ _ (HX.out.tt.nat.1) (fun hHeld => ?_)
              clear hK K hHeld
              try simp only [List.getElem_toArray, List.getElem_cons_zero, List.getElem_cons_succ, Act.put, List.setIfInBounds_toArray, List.set_cons_zero, List.set_cons_succ]
              refine wpAnyH_take (i := 6) (v := ?_) rfl (by kernel_rfl) (by kernel_rfl) (by kernel_rfl) (fun _ _ _ h => h) (Or.inl ⟨by rfl, ?_⟩) (HX.out.tt.nat.1) ?_
              case refine_2 => (intro w1 hS1; (try dsimp only at hS1); go_simp; try with_reducible rfl)
              try simp only [List.getElem_toArray, List.getElem_cons_zero, List.getElem_cons_succ, Act.put, List.setIfInBounds_toArray, List.set_cons_zero, List.set_cons_succ]
              refine wpAnyH_ready (rs := [7]) (by kernel_rfl) (by simp) ?_
              refine AllReadyH.cons rfl (fun K hK => ?_) AllReadyH.nil
              obtain ⟨q0, q1, q2, q3, q4, q5, q6, q7, q8, q9, q10, q11, q12, q13⟩ := rep_at HX.out.box
              have qf := rep_fr HX.out.box
              have HX' := Lib.hid (HX.out.set 11 (.slice a6 l6 c6) rfl)
              have HO' := Lib.hid (HO.out.set (p := ⟨g, 11, none⟩) (Nat.lt_succ_self g) (.slice a6 l6 c6))
              clear HX HO
              have HX := HX'
              have HO := HO'
              clear HX' HO'
              go_simp
              clear q0 q1 q2 q3 q4 q5 q6 q7 q8 q9 q10 q11 q12 q13 qf
              refine hK.out _ _ (HX.out.tt.nat.1) (fun hHeld => ?_)
              clear hK K hHeld
              try simp only [List.getElem_toArray, List.getElem_cons_zero, List.getElem_cons_succ, Act.put, List.setIfInBounds_toArray, List.set_cons_zero, List.set_cons_succ]
              refine wpAnyH_done (by kernel_rfl) ?_ _
              go_wp2_with fail
              go_roundg (n - (k + 1))
              case measure => omega
              case rel => exact ⟨k + 1, D ++ [f], es1, bd1, _, by have hw := wrap_upU k (by have := HN64L.out; omega); first | (rw [hw.1]; rfl) | (rw [hw.2]; rfl) | go_num, by omega, by omega, HDD, HX, HO⟩
        · have hltz : ¬ (k : Int) < (n : Int) := by omega
          obtain rfl : k = n := by omega
          obtain ⟨l5, hl5⟩ : ∃ x, D.length = x := ⟨_, rfl⟩
          obtain ⟨v, hv⟩ : ∃ v : Nat, v = 0 := ⟨_, rfl⟩
          have hd := HDL.out
          rw [Nat.sub_self, qL, qR, List.append_nil] at hd
          obtain ⟨hd1, hd2, hd3⟩ := hd
          subst hd3 hl5
          have HDX := Lib.hid hd2
          clear hd1 hd2 HDL hv v
          have HN3 : Hid (∀ W bd, RdT w W N0 R0 b (y6 ds) bd → Calls Try.prog 54 #[.pointer (some ⟨b, 0, none⟩), .int .u64 18446744073709551615] W fun e w' => e = .returned (.int .u64 ((nN 18446744073709551615 (y6 ds) : Nat) : Int)) ∧ RdT w w' N0 R0 b (y7 ds) (nB 18446744073709551615 (y6 ds)) ∧ Rd b W w') := Lib.hid (fun W bd h => h.num 18446744073709551615 18446744073709551615 (by omega))
          have HN4 : Hid (∀ W bd, RdT w W N0 R0 b (y7 ds) bd → Calls Try.prog 54 #[.pointer (some ⟨b, 0, none⟩), .int .u64 128] W fun e w' => e = .returned (.int .u64 ((nN 128 (y7 ds) : Nat) : Int)) ∧ RdT w w' N0 R0 b (yRest ds) (nB 128 (y7 ds)) ∧ Rd b W w') := Lib.hid (fun W bd h => h.num 128 128 (by omega))
          have h128 := nN_le 128 (y7 ds)
          obtain ⟨nt, ent⟩ : ∃ x, nN 18446744073709551615 (y6 ds) = x := ⟨_, rfl⟩
          obtain ⟨de, ede⟩ : ∃ x, nN 128 (y7 ds) = x := ⟨_, rfl⟩
          rw [ent] at HN3
          rw [ede] at HN4 h128
          have HEN := Lib.hid (And.intro ent ede)
          have wdy : IntKind.i64.wrap (de : Int) = (de : Int) := IntWalk.i64_in _ ⟨by omega, by omega⟩
          have wdz : wrap64 (de : Int) = (de : Int) := IntWalk.wrap64_in _ ⟨by omega, by omega⟩
          clear ent ede h128 hk hkx hltz hlt
          have cd0 : Below wr.heap.size wr wr.drew := (Below.refl _ _).drew
          have HX' := Lib.hid (HX.out.kept cd0)
          have HO' := Lib.hid (HO.out.kept cd0)
          clear cd0
          clear HX HO
          have HX := HX'
          have HO := HO'
          clear HX' HO'
          go_wp2_with fail
          refine wp_region_held_drew (S := fun W => W.cell? ⟨N0, 0, none⟩ = some (.func (.func 54) #[.pointer (some ⟨b, 0, none⟩)] #[])) (by kernel_rfl) HX.out.tt.nat.1 (fun hHeld => ?_)
          clear hHeld
          generalize wr.drew = wd at HX HO ⊢
          refine wpAnyH_take (i := 0) (v := ?_) rfl (by kernel_rfl) (by kernel_rfl) (by kernel_rfl) (fun _ _ _ h => h) (Or.inl ⟨by rfl, ?_⟩) (HX.out.tt.nat.1) ?_
          case refine_2 => (intro w1 hS1; (try dsimp only at hS1); go_simp; try with_reducible rfl)
          try simp only [List.getElem_toArray, List.getElem_cons_zero, List.getElem_cons_succ, Act.put, List.setIfInBounds_toArray, List.set_cons_zero, List.set_cons_succ]
          refine wpAnyH_take (i := 2) (v := ?_) rfl (by kernel_rfl) (by kernel_rfl) (by kernel_rfl) (fun _ _ _ h => h) (Or.inl ⟨by rfl, ?_⟩) (HX.out.tt.nat.1) ?_
          case refine_2 => (intro w1 hS1; (try dsimp only at hS1); go_simp; try with_reducible rfl)
          try simp only [List.getElem_toArray, List.getElem_cons_zero, List.getElem_cons_succ, Act.put, List.setIfInBounds_toArray, List.set_cons_zero, List.set_cons_succ]
          refine wpAnyH_ready (rs := [1]) (by kernel_rfl) (by simp) ?_
          refine AllReadyH.cons rfl (fun K hK => ?_) AllReadyH.nil
          go_simp
          refine (HN3.out _ _ HX.out.tt).mono ?_
          rintro e w3 ⟨rfl, hx, ht⟩
          have HX' := Lib.hid (HX.out.call hx ht)
          have HO' := Lib.hid (HO.out.rd ht (by have := HX.out.lt; have := HX.out.hb; omega))
          clear hx ht
          clear HX HO
          have HX := HX'
          have HO := HO'
          clear HX' HO'
          refine hK.out _ _ (HX.out.tt.nat.1) (fun hHeld => ?_)
          clear hK K hHeld
          try simp only [List.getElem_toArray, List.getElem_cons_zero, List.getElem_cons_succ, Act.put, List.setIfInBounds_toArray, List.set_cons_zero, List.set_cons_succ]
          refine wpAnyH_take (i := 5) (v := ?_) rfl (by kernel_rfl) (by kernel_rfl) (by kernel_rfl) (fun _ _ _ h => h) (Or.inl ⟨by rfl, ?_⟩) (HX.out.tt.nat.1) ?_
          case refine_2 => (intro w1 hS1; (try dsimp only at hS1); go_simp; try with_reducible rfl)
          try simp only [List.getElem_toArray, List.getElem_cons_zero, List.getElem_cons_succ, Act.put, List.setIfInBounds_toArray, List.set_cons_zero, List.set_cons_succ]
          refine wpAnyH_ready (rs := [3]) (by kernel_rfl) (by simp) ?_
          refine AllReadyH.cons rfl (fun K hK => ?_) AllReadyH.nil
          go_simp
          refine (HN4.out _ _ HX.out.tt).mono ?_
          rintro e w4 ⟨rfl, hx, ht⟩
          have HX' := Lib.hid (HX.out.call hx ht)
          have HO' := Lib.hid (HO.out.rd ht (by have := HX.out.lt; have := HX.out.hb; omega))
          clear hx ht
          clear HX HO
          have HX := HX'
          have HO := HO'
          clear HX' HO'
          refine hK.out _ _ (HX.out.tt.nat.1) (fun hHeld => ?_)
          clear hK K hHeld
          try simp only [List.getElem_toArray, List.getElem_cons_zero, List.getElem_cons_succ, Act.put, List.setIfInBounds_toArray, List.set_cons_zero, List.set_cons_succ]
          refine wpAnyH_take (i := 4) (v := ?_) rfl (by kernel_rfl) (by kernel_rfl) (by kernel_rfl) (fun _ _ _ h => h) (Or.inl ⟨by rfl, ?_⟩) (HX.out.tt.nat.1) ?_
          case refine_2 => (intro w1 hS1; (try dsimp only at hS1); go_simp; try with_reducible rfl)
          try simp only [List.getElem_toArray, List.getElem_cons_zero, List.getElem_cons_succ, Act.put, List.setIfInBounds_toArray, List.set_cons_zero, List.set_cons_succ]
          refine wpAnyH_ready (rs := [6]) (by kernel_rfl) (by simp) ?_
          refine AllReadyH.cons rfl (fun K hK => ?_) AllReadyH.nil
          obtain ⟨q0, q1, q2, q3, q4, q5, q6, q7, q8, q9, q10, q11, q12, q13⟩ := rep_at HX.out.box
          have qf := rep_fr HX.out.box
          have HX' := Lib.hid (HX.out.set 12 (.int .u64 (nt : Int)) rfl)
          have HO' := Lib.hid (HO.out.set (p := ⟨g, 12, none⟩) (Nat.lt_succ_self g) (.int .u64 (nt : Int)))
          clear HX HO
          have HX := HX'
          have HO := HO'
          clear HX' HO'
          go_simp
          clear q0 q1 q2 q3 q4 q5 q6 q7 q8 q9 q10 q11 q12 q13 qf
          refine hK.out _ _ (HX.out.tt.nat.1) (fun hHeld => ?_)
          clear hK K hHeld
          try simp only [List.getElem_toArray, List.getElem_cons_zero, List.getElem_cons_succ, Act.put, List.setIfInBounds_toArray, List.set_cons_zero, List.set_cons_succ]
          refine wpAnyH_take (i := 7) (v := ?_) rfl (by kernel_rfl) (by kernel_rfl) (by kernel_rfl) (fun _ _ _ h => h) (Or.inl ⟨by rfl, ?_⟩) (HX.out.tt.nat.1) ?_
          case refine_2 => (intro w1 hS1; (try dsimp only at hS1); go_simp; try with_reducible rfl)
          try simp only [List.getElem_toArray, List.getElem_cons_zero, List.getElem_cons_succ, Act.put, List.setIfInBounds_toArray, List.set_cons_zero, List.set_cons_succ]
          refine wpAnyH_ready (rs := [8]) (by kernel_rfl) (by simp) ?_
          refine AllReadyH.cons rfl (fun K hK => ?_) AllReadyH.nil
          obtain ⟨q0, q1, q2, q3, q4, q5, q6, q7, q8, q9, q10, q11, q12, q13⟩ := rep_at HX.out.box
          have qf := rep_fr HX.out.box
          have HX' := Lib.hid (HX.out.set 13 (.int .i64 (de : Int)) rfl)
          have HO' := Lib.hid (HO.out.set (p := ⟨g, 13, none⟩) (Nat.lt_succ_self g) (.int .i64 (de : Int)))
          clear HX HO
          have HX := HX'
          have HO := HO'
          clear HX' HO'
          go_simp
          clear q0 q1 q2 q3 q4 q5 q6 q7 q8 q9 q10 q11 q12 q13 qf
          refine hK.out _ _ (HX.out.tt.nat.1) (fun hHeld => ?_)
          clear hK K hHeld
          try simp only [List.getElem_toArray, List.getElem_cons_zero, List.getElem_cons_succ, Act.put, List.setIfInBounds_toArray, List.set_cons_zero, List.set_cons_succ]
          refine wpAnyH_done (by kernel_rfl) ?_ _
          generalize (w4.setCell ⟨g, 12, none⟩ (.int .u64 (nt : Int))).setCell ⟨g, 13, none⟩ (.int .i64 (de : Int)) = w5 at HX HO ⊢
          obtain ⟨q0, q1, q2, q3, q4, q5, q6, q7, q8, q9, q10, q11, q12, q13⟩ := rep_at HX.out.box
          obtain ⟨r0, r1, r2, r3, r4, r5, r6, r7, r8, r9, r10, r11, r12, r13⟩ := rep_at HX.out.res
          have rf := rep_fr HX.out.res
          go_wp2_with fail
          clear q0 q1 q2 q3 q4 q5 q6 q7 q8 q9 q10 q11 q12 q13 r0 r1 r2 r3 r4 r5 r6 r7 r8 r9 r10 r11 r12 r13 rf
          have hp := put14_at HX.out.res (.int .i64 (c : Int)) (.int .i64 tm) (.int .u64 0) (.int .i64 0) (.int .i64 0) (.int .i64 0) (.int .u64 0) (.int .i64 0) (.int .i64 0) (.int .i64 0) (.int .i64 0) (.slice a5 D.length c5) (.int .u64 (nt : Int)) (.int .i64 (de : Int))
          have hb := put14_below (B := w.heap.size) w5 (Nat.le_refl w.heap.size) (.int .i64 (c : Int)) (.int .i64 tm) (.int .u64 0) (.int .i64 0) (.int .i64 0) (.int .i64 0) (.int .u64 0) (.int .i64 0) (.int .i64 0) (.int .i64 0) (.int .i64 0) (.slice a5 D.length c5) (.int .u64 (nt : Int)) (.int .i64 (de : Int))
          have hrr := HX.out.tt.under hb (Nat.le_refl _) HX.out.hb.1 HX.out.hb.2.2 HX.out.hb.2.1
          have hlt := HX.out.lt
          have ho : OU (put14 w5 w.heap.size (.int .i64 (c : Int)) (.int .i64 tm) (.int .u64 0) (.int .i64 0) (.int .i64 0) (.int .i64 0) (.int .u64 0) (.int .i64 0) (.int .i64 0) (.int .i64 0) (.int .i64 0) (.slice a5 D.length c5) (.int .u64 (nt : Int)) (.int .i64 (de : Int))) (g + 1) (.slice a5 D.length c5) D := by
            unfold put14
            have hl : w.heap.size < g + 1 := by omega
            exact (((((((((((((HO.out.set (p := ⟨_, 0, none⟩) hl _).set (p := ⟨_, 1, none⟩) hl _).set (p := ⟨_, 2, none⟩) hl _).set (p := ⟨_, 3, none⟩) hl _).set (p := ⟨_, 4, none⟩) hl _).set (p := ⟨_, 5, none⟩) hl _).set (p := ⟨_, 6, none⟩) hl _).set (p := ⟨_, 7, none⟩) hl _).set (p := ⟨_, 8, none⟩) hl _).set (p := ⟨_, 9, none⟩) hl _).set (p := ⟨_, 10, none⟩) hl _).set (p := ⟨_, 11, none⟩) hl _).set (p := ⟨_, 12, none⟩) hl _).set (p := ⟨_, 13, none⟩) hl _
          have hfin : AsmR N0 R0 b ds w (.returned (.agg #[.int .i64 (c : Int), .int .i64 tm, .int .u64 0, .int .i64 0, .int .i64 0, .int .i64 0, .int .u64 0, .int .i64 0, .int .i64 0, .int .i64 0, .int .i64 0, .slice a5 D.length c5, .int .u64 (nt : Int), .int .i64 (de : Int)])) (put14 w5 w.heap.size (.int .i64 (c : Int)) (.int .i64 tm) (.int .u64 0) (.int .i64 0) (.int .i64 0) (.int .i64 0) (.int .u64 0) (.int .i64 0) (.int .i64 0) (.int .i64 0) (.int .i64 0) (.slice a5 D.length c5) (.int .u64 (nt : Int)) (.int .i64 (de : Int))) := by
            refine ⟨a5, c5, ?_, ?_, hrr⟩
            · rw [HEC.out, HET.out, HYN.out, HEN.out.1, HEN.out.2, ← HDX.out]
              rfl
            · rw [← HDX.out]
              exact ho.mono (by omega)
          unfold put14 at hp hfin
          clear ho hrr hb
          obtain ⟨p0, p1, p2, p3, p4, p5, p6, p7, p8, p9, p10, p11, p12, p13⟩ := rep_at hp
          exact bodyPost_ret (v := .agg #[.int .i64 (c : Int), .int .i64 tm, .int .u64 0, .int .i64 0, .int .i64 0, .int .i64 0, .int .u64 0, .int .i64 0, .int .i64 0, .int .i64 0, .int .i64 0, .slice a5 D.length c5, .int .u64 (nt : Int), .int .i64 (de : Int)]) (by simp [results, Try.results55, go_sem, p0, p1, p2, p3, p4, p5, p6, p7, p8, p9, p10, p11, p12, p13]) rfl hfin
    case true =>
      have hy4 : y4 ds = tkRest (y3 ds) := by unfold y4; rw [hz]; rfl
      have hyn : yNine ds = tkN (y3 ds) := by unfold yNine; rw [hz]; rfl
      rw [← hyn, hm, ← hy4] at HK1
      have HYN := Lib.hid hm
      clear hy4 hz hm hyn
      unfold Nine.t tkV at HK1
      obtain ⟨ok3, eok⟩ : ∃ x, tkOk (y3 ds) = x := ⟨_, rfl⟩
      obtain ⟨x1, ex1⟩ : ∃ x : Int, (t1 : Int) = x := ⟨_, rfl⟩
      obtain ⟨x2, ex2⟩ : ∃ x : Int, (t2 : Int) = x := ⟨_, rfl⟩
      obtain ⟨x3, ex3⟩ : ∃ x : Int, (t3 : Int) = x := ⟨_, rfl⟩
      obtain ⟨x4, ex4⟩ : ∃ x : Int, (t4 : Int) = x := ⟨_, rfl⟩
      obtain ⟨x5, ex5⟩ : ∃ x : Int, (t5 : Int) = x := ⟨_, rfl⟩
      obtain ⟨x6, ex6⟩ : ∃ x : Int, (t6 : Int) = x := ⟨_, rfl⟩
      obtain ⟨x7, ex7⟩ : ∃ x : Int, (t7 : Int) = x := ⟨_, rfl⟩
      obtain ⟨x8, ex8⟩ : ∃ x : Int, (t8 : Int) = x := ⟨_, rfl⟩
      obtain ⟨x9, ex9⟩ : ∃ x : Int, (t9 : Int) = x := ⟨_, rfl⟩
      rw [eok] at HK1
      simp only [ex1, ex2, ex3, ex4, ex5, ex6, ex7, ex8, ex9] at HK1
      have HXX := Lib.hid (And.intro ex1 (And.intro ex2 (And.intro ex3 (And.intro ex4 (And.intro ex5 (And.intro ex6 (And.intro ex7 (And.intro ex8 ex9))))))))
      clear ex1 ex2 ex3 ex4 ex5 ex6 ex7 ex8 ex9 eok
      go_wp2_with fail
      refine (HK1.out _ _ HX.out.tt).mono ?_
      rintro e W3 ⟨rfl, hx, ht⟩
      have HX' := Lib.hid (HX.out.call hx ht)
      clear hx ht m0 m1
      clear HX
      have HX := HX'
      clear HX'
      obtain ⟨m0, m1⟩ := HX.out.tt.nat
      obtain ⟨q0, q1, q2, q3, q4, q5, q6, q7, q8, q9, q10, q11, q12, q13⟩ := rep_at HX.out.box
      have qf := rep_fr HX.out.box
      have hx9 := (((((((((HX.out.set 2 (.int .u64 x1) rfl).set 3 (.int .i64 x2) rfl).set 4 (.int .i64 x3) rfl).set 5 (.int .i64 x4) rfl).set 6 (.int .u64 x5) rfl).set 7 (.int .i64 x6) rfl).set 8 (.int .i64 x7) rfl).set 9 (.int .i64 x8) rfl).set 10 (.int .i64 x9) rfl)
      simp only [List.setIfInBounds_toArray, List.set_cons_zero, List.set_cons_succ] at hx9
      have HX' := Lib.hid hx9
      clear hx9
      have MM := Lib.hid HX'.out.tt.nat
      clear HX
      have HX := HX'
      clear HX'
      clear m0 m1
      obtain ⟨m0, m1⟩ := MM.out
      go_wp2_with fail
      clear q0 q1 q2 q3 q4 q5 q6 q7 q8 q9 q10 q11 q12 q13 qf MM m0 m1
      generalize (((((((((W3.setCell ⟨g, 2, none⟩ (.int .u64 x1)).setCell ⟨g, 3, none⟩ (.int .i64 x2)).setCell ⟨g, 4, none⟩ (.int .i64 x3)).setCell ⟨g, 5, none⟩ (.int .i64 x4)).setCell ⟨g, 6, none⟩ (.int .u64 x5)).setCell ⟨g, 7, none⟩ (.int .i64 x6)).setCell ⟨g, 8, none⟩ (.int .i64 x7)).setCell ⟨g, 9, none⟩ (.int .i64 x8)).setCell ⟨g, 10, none⟩ (.int .i64 x9)) = W3b at HX ⊢
      obtain ⟨m0, m1⟩ := HX.out.tt.nat
      refine (HN64.out _ _ HX.out.tt).mono ?_
      rintro e W4 ⟨rfl, hx, ht⟩
      have HX' := Lib.hid (HX.out.call hx ht)
      clear hx ht m0 m1
      clear HX
      have HX := HX'
      clear HX'
      have HO0 : Hid (OU W4 (g + 1) (.slice none 0 0) []) := Lib.hid (OU.nil _ _)
      go_wp2_with fail
      go_loopg [20] n (fun kx s20 wr => ∃ (k : Nat) (D : List Nat) (es : List Nat) (bd : Bool) (v : Value), s20 = .int .u64 k ∧ k ≤ n ∧ n - k ≤ kx ∧ Hid (D.length = k ∧ D ++ qL 18446744073709551615 (n - k) es = yXs ds ∧ qR 18446744073709551615 (n - k) es = y6 ds) ∧ Hid (Asm w N0 R0 b es bd g #[.int .i64 (c : Int), .int .i64 tm, .int .u64 x1, .int .i64 x2, .int .i64 x3, .int .i64 x4, .int .u64 x5, .int .i64 x6, .int .i64 x7, .int .i64 x8, .int .i64 x9, v, .int .u64 0, .int .i64 0] wr) ∧ Hid (OU wr (g + 1) v D))
      case atStart => exact ⟨0, [], y5 ds, _, _, rfl, by omega, by omega, HLL, HX, HO0⟩
      case round =>
        obtain ⟨k, D, es, bd, v, rfl, hk, hkx, HDL, HX, HO⟩ := hrel
        obtain ⟨a5, c5, hv5, -, -⟩ := OU.shape HO.out
        subst hv5
        by_cases hlt : k < n
        · have hltz : (k : Int) < (n : Int) := by omega
          obtain ⟨l5, hl5⟩ : ∃ x, D.length = x := ⟨_, rfl⟩
          rw [hl5] at HX HO
          have hnk : n - k = (n - (k + 1)) + 1 := by omega
          have HDD : Hid ((D ++ [nN 18446744073709551615 es]).length = k + 1 ∧ (D ++ [nN 18446744073709551615 es]) ++ qL 18446744073709551615 (n - (k + 1)) (nR 18446744073709551615 es) = yXs ds ∧ qR 18446744073709551615 (n - (k + 1)) (nR 18446744073709551615 es) = y6 ds) := by
            have h := HDL.out
            rw [hnk, qL, qR] at h
            exact Lib.hid ⟨by rw [List.length_append, h.1]; rfl, by rw [List.append_assoc]; exact h.2.1, h.2.2⟩
          have HN2 : Hid (∀ W, RdT w W N0 R0 b es bd → Calls Try.prog 54 #[.pointer (some ⟨b, 0, none⟩), .int .u64 18446744073709551615] W fun e w' => e = .returned (.int .u64 ((nN 18446744073709551615 es : Nat) : Int)) ∧ RdT w w' N0 R0 b (nR 18446744073709551615 es) (nB 18446744073709551615 es) ∧ Rd b W w') := Lib.hid (fun W h => h.num 18446744073709551615 18446744073709551615 (by omega))
          obtain ⟨f, e1⟩ : ∃ x, nN 18446744073709551615 es = x := ⟨_, rfl⟩
          obtain ⟨es1, e2⟩ : ∃ x, nR 18446744073709551615 es = x := ⟨_, rfl⟩
          obtain ⟨bd1, e3⟩ : ∃ x, nB 18446744073709551615 es = x := ⟨_, rfl⟩
          rw [e1, e2, e3] at HN2
          rw [e1, e2] at HDD
          have HLD : Hid (D.length ≤ 100000) := Lib.hid (by have := HDL.out.1; have := HN64L.out; omega)
          clear e1 e2 e3 hnk HDL hl5
          have cd0 : Below wr.heap.size wr wr.drew := (Below.refl _ _).drew
          have HX' := Lib.hid (HX.out.kept cd0)
          have HO' := Lib.hid (HO.out.kept cd0)
          clear cd0
          clear HX HO
          have HX := HX'
          have HO := HO'
          clear HX' HO'
          go_wp2_with fail
          refine wp_region_held_drew (S := fun W => W.cell? ⟨N0, 0, none⟩ = some (.func (.func 54) #[.pointer (some ⟨b, 0, none⟩)] #[])) (by kernel_rfl) HX.out.tt.nat.1 (fun hHeld => ?_)
          clear hHeld
          generalize wr.drew = wd at HX HO ⊢
          refine wpAnyH_take (i := 0) (v := ?_) rfl (by kernel_rfl) (by kernel_rfl) (by kernel_rfl) (fun _ _ _ h => h) (Or.inl ⟨by rfl, ?_⟩) (HX.out.tt.nat.1) ?_
          case refine_2 => (intro w1 hS1; (try dsimp only at hS1); go_simp; try with_reducible rfl)
          try simp only [List.getElem_toArray, List.getElem_cons_zero, List.getElem_cons_succ, Act.put, List.setIfInBounds_toArray, List.set_cons_zero, List.set_cons_succ]
          refine wpAnyH_take (i := 2) (v := ?_) rfl (by kernel_rfl) (by kernel_rfl) (by kernel_rfl) (fun _ _ _ h => h) (Or.inl ⟨by rfl, ?_⟩) (HX.out.tt.nat.1) ?_
          case refine_2 => (intro w1 hS1; (try dsimp only at hS1); go_simp; try with_reducible rfl)
          try simp only [List.getElem_toArray, List.getElem_cons_zero, List.getElem_cons_succ, Act.put, List.setIfInBounds_toArray, List.set_cons_zero, List.set_cons_succ]
          refine wpAnyH_ready (rs := [1, 3]) (by kernel_rfl) (by simp) ?_
          refine AllReadyH.cons rfl (fun K hK => ?_) (AllReadyH.cons rfl (fun K hK => ?_) (AllReadyH.nil))
          · obtain ⟨q0, q1, q2, q3, q4, q5, q6, q7, q8, q9, q10, q11, q12, q13⟩ := rep_at HX.out.box
            go_simp
            clear q0 q1 q2 q3 q4 q5 q6 q7 q8 q9 q10 q11 q12 q13
            refine hK.out _ _ (HX.out.tt.nat.1) (fun hHeld => ?_)
            clear hK K hHeld
            try simp only [List.getElem_toArray, List.getElem_cons_zero, List.getElem_cons_succ, Act.put, List.setIfInBounds_toArray, List.set_cons_zero, List.set_cons_succ]
            refine wpAnyH_ready (rs := [3]) (by kernel_rfl) (by simp) ?_
            refine AllReadyH.cons rfl (fun K hK => ?_) (AllReadyH.nil)
            go_simp
            refine (HN2.out _ HX.out.tt).mono ?_
            rintro e w2 ⟨rfl, hx, ht⟩
            have HX' := Lib.hid (HX.out.call hx ht)
            have HO' := Lib.hid (HO.out.rd ht (by have := HX.out.lt; have := HX.out.hb; omega))
            clear hx ht
            clear HX HO
            have HX := HX'
            have HO := HO'
            clear HX' HO'
            refine hK.out _ _ (HX.out.tt.nat.1) (fun hHeld => ?_)
            clear hK K hHeld
            try simp only [List.getElem_toArray, List.getElem_cons_zero, List.getElem_cons_succ, Act.put, List.setIfInBounds_toArray, List.set_cons_zero, List.set_cons_succ]
            refine wpAnyH_ready (rs := [4]) (by kernel_rfl) (by simp) ?_
            refine AllReadyH.cons rfl (fun K hK => ?_) (AllReadyH.nil)
            have HV : Hid ((w2.alloc (.cells #[.int .u64 (f : Int)] 23)).cell? ⟨w2.heap.size, 0, none⟩ = some (.int .u64 (f : Int))) := Lib.hid (one_at (box1 w2 #[.int .u64 (f : Int)] 23).2.1)
            have B4 := (box1 w2 #[.int .u64 (f : Int)] 23).1
            have HX' := Lib.hid (HX.out.kept B4)
            have HO' := Lib.hid (HO.out.kept B4)
            have HZ4 : Hid (g + 1 ≤ (w2.alloc (.cells #[.int .u64 (f : Int)] 23)).heap.size) := Lib.hid (ex_lt HX'.out.box)
            clear B4
            clear HX HO
            have HX := HX'
            have HO := HO'
            clear HX' HO'
            go_simp
            refine hK.out _ _ (HX.out.tt.nat.1) (fun hHeld => ?_)
            clear hK K hHeld
            try simp only [List.getElem_toArray, List.getElem_cons_zero, List.getElem_cons_succ, Act.put, List.setIfInBounds_toArray, List.set_cons_zero, List.set_cons_succ]
            refine wpAnyH_ready (rs := [5]) (by kernel_rfl) (by simp) ?_
            refine AllReadyH.cons rfl (fun K hK => ?_) (AllReadyH.nil)
            refine step_append_u rfl (.tmp 23) (.tmp 26) rfl (g + 1) (.slice a5 l5 c5) D f ⟨w2.heap.size, 0, none⟩ 1 rfl rfl HO.out HV.out HLD.out HZ4.out ?_
            intro v5 w5 ho5 hst
            obtain ⟨a6, c6, hv5, -, -⟩ := OU.shape ho5
            obtain ⟨l6, hl6⟩ : ∃ x, (D ++ [f]).length = x := ⟨_, rfl⟩
            rw [hl6] at hv5
            subst hv5
            have B5 := hst.below (Below.refl (g + 1) _)
            have HX' := Lib.hid (HX.out.under B5)
            have HO' := Lib.hid ho5
            clear B5 ho5 hst hl6 HV HZ4
            clear HX HO
            have HX := HX'
            have HO := HO'
            clear HX' HO'
            refine hK.out _ _ (HX.out.tt.nat.1) (fun hHeld => ?_)
            clear hK K hHeld
            try simp only [List.getElem_toArray, List.getElem_cons_zero, List.getElem_cons_succ, Act.put, List.setIfInBounds_toArray, List.set_cons_zero, List.set_cons_succ]
            refine wpAnyH_take (i := 6) (v := ?_) rfl (by kernel_rfl) (by kernel_rfl) (by kernel_rfl) (fun _ _ _ h => h) (Or.inl ⟨by rfl, ?_⟩) (HX.out.tt.nat.1) ?_
            case refine_2 => (intro w1 hS1; (try dsimp only at hS1); go_simp; try with_reducible rfl)
            try simp only [List.getElem_toArray, List.getElem_cons_zero, List.getElem_cons_succ, Act.put, List.setIfInBounds_toArray, List.set_cons_zero, List.set_cons_succ]
            refine wpAnyH_ready (rs := [7]) (by kernel_rfl) (by simp) ?_
            refine AllReadyH.cons rfl (fun K hK => ?_) AllReadyH.nil
            obtain ⟨q0, q1, q2, q3, q4, q5, q6, q7, q8, q9, q10, q11, q12, q13⟩ := rep_at HX.out.box
            have qf := rep_fr HX.out.box
            have HX' := Lib.hid (HX.out.set 11 (.slice a6 l6 c6) rfl)
            have HO' := Lib.hid (HO.out.set (p := ⟨g, 11, none⟩) (Nat.lt_succ_self g) (.slice a6 l6 c6))
            clear HX HO
            have HX := HX'
            have HO := HO'
            clear HX' HO'
            go_simp
            clear q0 q1 q2 q3 q4 q5 q6 q7 q8 q9 q10 q11 q12 q13 qf
            refine hK.out _ _ (HX.out.tt.nat.1) (fun hHeld => ?_)
            clear hK K hHeld
            try simp only [List.getElem_toArray, List.getElem_cons_zero, List.getElem_cons_succ, Act.put, List.setIfInBounds_toArray, List.set_cons_zero, List.set_cons_succ]
            refine wpAnyH_done (by kernel_rfl) ?_ _
            go_wp2_with fail
            go_roundg (n - (k + 1))
            case measure => omega
            case rel => exact ⟨k + 1, D ++ [f], es1, bd1, _, by have hw := wrap_upU k (by have := HN64L.out; omega); first | (rw [hw.1]; rfl) | (rw [hw.2]; rfl) | go_num, by omega, by omega, HDD, HX, HO⟩
          · go_simp
            refine (HN2.out _ HX.out.tt).mono ?_
            rintro e w2 ⟨rfl, hx, ht⟩
            have HX' := Lib.hid (HX.out.call hx ht)
            have HO' := Lib.hid (HO.out.rd ht (by have := HX.out.lt; have := HX.out.hb; omega))
            clear hx ht
            clear HX HO
            have HX := HX'
            have HO := HO'
            clear HX' HO'
            refine hK.out _ _ (HX.out.tt.nat.1) (fun hHeld => ?_)
            clear hK K hHeld
            try simp only [List.getElem_toArray, List.getElem_cons_zero, List.getElem_cons_succ, Act.put, List.setIfInBounds_toArray, List.set_cons_zero, List.set_cons_succ]
            refine wpAnyH_ready (rs := [1, 4]) (by kernel_rfl) (by simp) ?_
            refine AllReadyH.cons rfl (fun K hK => ?_) (AllReadyH.cons rfl (fun K hK => ?_) (AllReadyH.nil))
            · obtain ⟨q0, q1, q2, q3, q4, q5, q6, q7, q8, q9, q10, q11, q12, q13⟩ := rep_at HX.out.box
              go_simp
              clear q0 q1 q2 q3 q4 q5 q6 q7 q8 q9 q10 q11 q12 q13
              refine hK.out _ _ (HX.out.tt.nat.1) (fun hHeld => ?_)
              clear hK K hHeld
              try simp only [List.getElem_toArray, List.getElem_cons_zero, List.getElem_cons_succ, Act.put, List.setIfInBounds_toArray, List.set_cons_zero, List.set_cons_succ]
              refine wpAnyH_ready (rs := [4]) (by kernel_rfl) (by simp) ?_
              refine AllReadyH.cons rfl (fun K hK => ?_) (AllReadyH.nil)
              have HV : Hid ((w2.alloc (.cells #[.int .u64 (f : Int)] 23)).cell? ⟨w2.heap.size, 0, none⟩ = some (.int .u64 (f : Int))) := Lib.hid (one_at (box1 w2 #[.int .u64 (f : Int)] 23).2.1)
              have B4 := (box1 w2 #[.int .u64 (f : Int)] 23).1
              have HX' := Lib.hid (HX.out.kept B4)
              have HO' := Lib.hid (HO.out.kept B4)
              have HZ4 : Hid (g + 1 ≤ (w2.alloc (.cells #[.int .u64 (f : Int)] 23)).heap.size) := Lib.hid (ex_lt HX'.out.box)
              clear B4
              clear HX HO
              have HX := HX'
              have HO := HO'
              clear HX' HO'
              go_simp
              refine hK.out _ _ (HX.out.tt.nat.1) (fun hHeld => ?_)
              clear hK K hHeld
              try simp only [List.getElem_toArray, List.getElem_cons_zero, List.getElem_cons_succ, Act.put, List.setIfInBounds_toArray, List.set_cons_zero, List.set_cons_succ]
              refine wpAnyH_ready (rs := [5]) (by kernel_rfl) (by simp) ?_
              refine AllReadyH.cons rfl (fun K hK => ?_) (AllReadyH.nil)
              refine step_append_u rfl (.tmp 23) (.tmp 26) rfl (g + 1) (.slice a5 l5 c5) D f ⟨w2.heap.size, 0, none⟩ 1 rfl rfl HO.out HV.out HLD.out HZ4.out ?_
              intro v5 w5 ho5 hst
              obtain ⟨a6, c6, hv5, -, -⟩ := OU.shape ho5
              obtain ⟨l6, hl6⟩ : ∃ x, (D ++ [f]).length = x := ⟨_, rfl⟩
              rw [hl6] at hv5
              subst hv5
              have B5 := hst.below (Below.refl (g + 1) _)
              have HX' := Lib.hid (HX.out.under B5)
              have HO' := Lib.hid ho5
              clear B5 ho5 hst hl6 HV HZ4
              clear HX HO
              have HX := HX'
              have HO := HO'
              clear HX' HO'
              refine hK.out _ _ (HX.out.tt.nat.1) (fun hHeld => ?_)
              clear hK K hHeld
              try simp only [List.getElem_toArray, List.getElem_cons_zero, List.getElem_cons_succ, Act.put, List.setIfInBounds_toArray, List.set_cons_zero, List.set_cons_succ]
              refine wpAnyH_take (i := 6) (v := ?_) rfl (by kernel_rfl) (by kernel_rfl) (by kernel_rfl) (fun _ _ _ h => h) (Or.inl ⟨by rfl, ?_⟩) (HX.out.tt.nat.1) ?_
              case refine_2 => (intro w1 hS1; (try dsimp only at hS1); go_simp; try with_reducible rfl)
              try simp only [List.getElem_toArray, List.getElem_cons_zero, List.getElem_cons_succ, Act.put, List.setIfInBounds_toArray, List.set_cons_zero, List.set_cons_succ]
              refine wpAnyH_ready (rs := [7]) (by kernel_rfl) (by simp) ?_
              refine AllReadyH.cons rfl (fun K hK => ?_) AllReadyH.nil
              obtain ⟨q0, q1, q2, q3, q4, q5, q6, q7, q8, q9, q10, q11, q12, q13⟩ := rep_at HX.out.box
              have qf := rep_fr HX.out.box
              have HX' := Lib.hid (HX.out.set 11 (.slice a6 l6 c6) rfl)
              have HO' := Lib.hid (HO.out.set (p := ⟨g, 11, none⟩) (Nat.lt_succ_self g) (.slice a6 l6 c6))
              clear HX HO
              have HX := HX'
              have HO := HO'
              clear HX' HO'
              go_simp
              clear q0 q1 q2 q3 q4 q5 q6 q7 q8 q9 q10 q11 q12 q13 qf
              refine hK.out _ _ (HX.out.tt.nat.1) (fun hHeld => ?_)
              clear hK K hHeld
              try simp only [List.getElem_toArray, List.getElem_cons_zero, List.getElem_cons_succ, Act.put, List.setIfInBounds_toArray, List.set_cons_zero, List.set_cons_succ]
              refine wpAnyH_done (by kernel_rfl) ?_ _
              go_wp2_with fail
              go_roundg (n - (k + 1))
              case measure => omega
              case rel => exact ⟨k + 1, D ++ [f], es1, bd1, _, by have hw := wrap_upU k (by have := HN64L.out; omega); first | (rw [hw.1]; rfl) | (rw [hw.2]; rfl) | go_num, by omega, by omega, HDD, HX, HO⟩
            · have HV : Hid ((w2.alloc (.cells #[.int .u64 (f : Int)] 23)).cell? ⟨w2.heap.size, 0, none⟩ = some (.int .u64 (f : Int))) := Lib.hid (one_at (box1 w2 #[.int .u64 (f : Int)] 23).2.1)
              have B4 := (box1 w2 #[.int .u64 (f : Int)] 23).1
              have HX' := Lib.hid (HX.out.kept B4)
              have HO' := Lib.hid (HO.out.kept B4)
              have HZ4 : Hid (g + 1 ≤ (w2.alloc (.cells #[.int .u64 (f : Int)] 23)).heap.size) := Lib.hid (ex_lt HX'.out.box)
              clear B4
              clear HX HO
              have HX := HX'
              have HO := HO'
              clear HX' HO'
              go_simp
              refine hK.out _ _ (HX.out.tt.nat.1) (fun hHeld => ?_)
              clear hK K hHeld
              try simp only [List.getElem_toArray, List.getElem_cons_zero, List.getElem_cons_succ, Act.put, List.setIfInBounds_toArray, List.set_cons_zero, List.set_cons_succ]
              refine wpAnyH_ready (rs := [1]) (by kernel_rfl) (by simp) ?_
              refine AllReadyH.cons rfl (fun K hK => ?_) (AllReadyH.nil)
              obtain ⟨q0, q1, q2, q3, q4, q5, q6, q7, q8, q9, q10, q11, q12, q13⟩ := rep_at HX.out.box
              go_simp
              clear q0 q1 q2 q3 q4 q5 q6 q7 q8 q9 q10 q11 q12 q13
              refine hK.out _ _ (HX.out.tt.nat.1) (fun hHeld => ?_)
              clear hK K hHeld
              try simp only [List.getElem_toArray, List.getElem_cons_zero, List.getElem_cons_succ, Act.put, List.setIfInBounds_toArray, List.set_cons_zero, List.set_cons_succ]
              refine wpAnyH_ready (rs := [5]) (by kernel_rfl) (by simp) ?_
              refine AllReadyH.cons rfl (fun K hK => ?_) (AllReadyH.nil)
              refine step_append_u rfl (.tmp 23) (.tmp 26) rfl (g + 1) (.slice a5 l5 c5) D f ⟨w2.heap.size, 0, none⟩ 1 rfl rfl HO.out HV.out HLD.out HZ4.out ?_
              intro v5 w5 ho5 hst
              obtain ⟨a6, c6, hv5, -, -⟩ := OU.shape ho5
              obtain ⟨l6, hl6⟩ : ∃ x, (D ++ [f]).length = x := ⟨_, rfl⟩
              rw [hl6] at hv5
              subst hv5
              have B5 := hst.below (Below.refl (g + 1) _)
              have HX' := Lib.hid (HX.out.under B5)
              have HO' := Lib.hid ho5
              clear B5 ho5 hst hl6 HV HZ4
              clear HX HO
              have HX := HX'
              have HO := HO'
              clear HX' HO'
              refine hK.out _ _ (HX.out.tt.nat.1) (fun hHeld => ?_)
              clear hK K hHeld
              try simp only [List.getElem_toArray, List.getElem_cons_zero, List.getElem_cons_succ, Act.put, List.setIfInBounds_toArray, List.set_cons_zero, List.set_cons_succ]
              refine wpAnyH_take (i := 6) (v := ?_) rfl (by kernel_rfl) (by kernel_rfl) (by kernel_rfl) (fun _ _ _ h => h) (Or.inl ⟨by rfl, ?_⟩) (HX.out.tt.nat.1) ?_
              case refine_2 => (intro w1 hS1; (try dsimp only at hS1); go_simp; try with_reducible rfl)
              try simp only [List.getElem_toArray, List.getElem_cons_zero, List.getElem_cons_succ, Act.put, List.setIfInBounds_toArray, List.set_cons_zero, List.set_cons_succ]
              refine wpAnyH_ready (rs := [7]) (by kernel_rfl) (by simp) ?_
              refine AllReadyH.cons rfl (fun K hK => ?_) AllReadyH.nil
              obtain ⟨q0, q1, q2, q3, q4, q5, q6, q7, q8, q9, q10, q11, q12, q13⟩ := rep_at HX.out.box
              have qf := rep_fr HX.out.box
              have HX' := Lib.hid (HX.out.set 11 (.slice a6 l6 c6) rfl)
              have HO' := Lib.hid (HO.out.set (p := ⟨g, 11, none⟩) (Nat.lt_succ_self g) (.slice a6 l6 c6))
              clear HX HO
              have HX := HX'
              have HO := HO'
              clear HX' HO'
              go_simp
              clear q0 q1 q2 q3 q4 q5 q6 q7 q8 q9 q10 q11 q12 q13 qf
              refine hK.out _ _ (HX.out.tt.nat.1) (fun hHeld => ?_)
              clear hK K hHeld
              try simp only [List.getElem_toArray, List.getElem_cons_zero, List.getElem_cons_succ, Act.put, List.setIfInBounds_toArray, List.set_cons_zero, List.set_cons_succ]
              refine wpAnyH_done (by kernel_rfl) ?_ _
              go_wp2_with fail
              go_roundg (n - (k + 1))
              case measure => omega
              case rel => exact ⟨k + 1, D ++ [f], es1, bd1, _, by have hw := wrap_upU k (by have := HN64L.out; omega); first | (rw [hw.1]; rfl) | (rw [hw.2]; rfl) | go_num, by omega, by omega, HDD, HX, HO⟩
        · have hltz : ¬ (k : Int) < (n : Int) := by omega
          obtain rfl : k = n := by omega
          obtain ⟨l5, hl5⟩ : ∃ x, D.length = x := ⟨_, rfl⟩
          obtain ⟨v, hv⟩ : ∃ v : Nat, v = 0 := ⟨_, rfl⟩
          have hd := HDL.out
          rw [Nat.sub_self, qL, qR, List.append_nil] at hd
          obtain ⟨hd1, hd2, hd3⟩ := hd
          subst hd3 hl5
          have HDX := Lib.hid hd2
          clear hd1 hd2 HDL hv v
          have HN3 : Hid (∀ W bd, RdT w W N0 R0 b (y6 ds) bd → Calls Try.prog 54 #[.pointer (some ⟨b, 0, none⟩), .int .u64 18446744073709551615] W fun e w' => e = .returned (.int .u64 ((nN 18446744073709551615 (y6 ds) : Nat) : Int)) ∧ RdT w w' N0 R0 b (y7 ds) (nB 18446744073709551615 (y6 ds)) ∧ Rd b W w') := Lib.hid (fun W bd h => h.num 18446744073709551615 18446744073709551615 (by omega))
          have HN4 : Hid (∀ W bd, RdT w W N0 R0 b (y7 ds) bd → Calls Try.prog 54 #[.pointer (some ⟨b, 0, none⟩), .int .u64 128] W fun e w' => e = .returned (.int .u64 ((nN 128 (y7 ds) : Nat) : Int)) ∧ RdT w w' N0 R0 b (yRest ds) (nB 128 (y7 ds)) ∧ Rd b W w') := Lib.hid (fun W bd h => h.num 128 128 (by omega))
          have h128 := nN_le 128 (y7 ds)
          obtain ⟨nt, ent⟩ : ∃ x, nN 18446744073709551615 (y6 ds) = x := ⟨_, rfl⟩
          obtain ⟨de, ede⟩ : ∃ x, nN 128 (y7 ds) = x := ⟨_, rfl⟩
          rw [ent] at HN3
          rw [ede] at HN4 h128
          have HEN := Lib.hid (And.intro ent ede)
          have wdy : IntKind.i64.wrap (de : Int) = (de : Int) := IntWalk.i64_in _ ⟨by omega, by omega⟩
          have wdz : wrap64 (de : Int) = (de : Int) := IntWalk.wrap64_in _ ⟨by omega, by omega⟩
          clear ent ede h128 hk hkx hltz hlt
          have cd0 : Below wr.heap.size wr wr.drew := (Below.refl _ _).drew
          have HX' := Lib.hid (HX.out.kept cd0)
          have HO' := Lib.hid (HO.out.kept cd0)
          clear cd0
          clear HX HO
          have HX := HX'
          have HO := HO'
          clear HX' HO'
          go_wp2_with fail
          refine wp_region_held_drew (S := fun W => W.cell? ⟨N0, 0, none⟩ = some (.func (.func 54) #[.pointer (some ⟨b, 0, none⟩)] #[])) (by kernel_rfl) HX.out.tt.nat.1 (fun hHeld => ?_)
          clear hHeld
          generalize wr.drew = wd at HX HO ⊢
          refine wpAnyH_take (i := 0) (v := ?_) rfl (by kernel_rfl) (by kernel_rfl) (by kernel_rfl) (fun _ _ _ h => h) (Or.inl ⟨by rfl, ?_⟩) (HX.out.tt.nat.1) ?_
          case refine_2 => (intro w1 hS1; (try dsimp only at hS1); go_simp; try with_reducible rfl)
          try simp only [List.getElem_toArray, List.getElem_cons_zero, List.getElem_cons_succ, Act.put, List.setIfInBounds_toArray, List.set_cons_zero, List.set_cons_succ]
          refine wpAnyH_take (i := 2) (v := ?_) rfl (by kernel_rfl) (by kernel_rfl) (by kernel_rfl) (fun _ _ _ h => h) (Or.inl ⟨by rfl, ?_⟩) (HX.out.tt.nat.1) ?_
          case refine_2 => (intro w1 hS1; (try dsimp only at hS1); go_simp; try with_reducible rfl)
          try simp only [List.getElem_toArray, List.getElem_cons_zero, List.getElem_cons_succ, Act.put, List.setIfInBounds_toArray, List.set_cons_zero, List.set_cons_succ]
          refine wpAnyH_ready (rs := [1]) (by kernel_rfl) (by simp) ?_
          refine AllReadyH.cons rfl (fun K hK => ?_) AllReadyH.nil
          go_simp
          refine (HN3.out _ _ HX.out.tt).mono ?_
          rintro e w3 ⟨rfl, hx, ht⟩
          have HX' := Lib.hid (HX.out.call hx ht)
          have HO' := Lib.hid (HO.out.rd ht (by have := HX.out.lt; have := HX.out.hb; omega))
          clear hx ht
          clear HX HO
          have HX := HX'
          have HO := HO'
          clear HX' HO'
          refine hK.out _ _ (HX.out.tt.nat.1) (fun hHeld => ?_)
          clear hK K hHeld
          try simp only [List.getElem_toArray, List.getElem_cons_zero, List.getElem_cons_succ, Act.put, List.setIfInBounds_toArray, List.set_cons_zero, List.set_cons_succ]
          refine wpAnyH_take (i := 5) (v := ?_) rfl (by kernel_rfl) (by kernel_rfl) (by kernel_rfl) (fun _ _ _ h => h) (Or.inl ⟨by rfl, ?_⟩) (HX.out.tt.nat.1) ?_
          case refine_2 => (intro w1 hS1; (try dsimp only at hS1); go_simp; try with_reducible rfl)
          try simp only [List.getElem_toArray, List.getElem_cons_zero, List.getElem_cons_succ, Act.put, List.setIfInBounds_toArray, List.set_cons_zero, List.set_cons_succ]
          refine wpAnyH_ready (rs := [3]) (by kernel_rfl) (by simp) ?_
          refine AllReadyH.cons rfl (fun K hK => ?_) AllReadyH.nil
          go_simp
          refine (HN4.out _ _ HX.out.tt).mono ?_
          rintro e w4 ⟨rfl, hx, ht⟩
          have HX' := Lib.hid (HX.out.call hx ht)
          have HO' := Lib.hid (HO.out.rd ht (by have := HX.out.lt; have := HX.out.hb; omega))
          clear hx ht
          clear HX HO
          have HX := HX'
          have HO := HO'
          clear HX' HO'
          refine hK.out _ _ (HX.out.tt.nat.1) (fun hHeld => ?_)
          clear hK K hHeld
          try simp only [List.getElem_toArray, List.getElem_cons_zero, List.getElem_cons_succ, Act.put, List.setIfInBounds_toArray, List.set_cons_zero, List.set_cons_succ]
          refine wpAnyH_take (i := 4) (v := ?_) rfl (by kernel_rfl) (by kernel_rfl) (by kernel_rfl) (fun _ _ _ h => h) (Or.inl ⟨by rfl, ?_⟩) (HX.out.tt.nat.1) ?_
          case refine_2 => (intro w1 hS1; (try dsimp only at hS1); go_simp; try with_reducible rfl)
          try simp only [List.getElem_toArray, List.getElem_cons_zero, List.getElem_cons_succ, Act.put, List.setIfInBounds_toArray, List.set_cons_zero, List.set_cons_succ]
          refine wpAnyH_ready (rs := [6]) (by kernel_rfl) (by simp) ?_
          refine AllReadyH.cons rfl (fun K hK => ?_) AllReadyH.nil
          obtain ⟨q0, q1, q2, q3, q4, q5, q6, q7, q8, q9, q10, q11, q12, q13⟩ := rep_at HX.out.box
          have qf := rep_fr HX.out.box
          have HX' := Lib.hid (HX.out.set 12 (.int .u64 (nt : Int)) rfl)
          have HO' := Lib.hid (HO.out.set (p := ⟨g, 12, none⟩) (Nat.lt_succ_self g) (.int .u64 (nt : Int)))
          clear HX HO
          have HX := HX'
          have HO := HO'
          clear HX' HO'
          go_simp
          clear q0 q1 q2 q3 q4 q5 q6 q7 q8 q9 q10 q11 q12 q13 qf
          refine hK.out _ _ (HX.out.tt.nat.1) (fun hHeld => ?_)
          clear hK K hHeld
          try simp only [List.getElem_toArray, List.getElem_cons_zero, List.getElem_cons_succ, Act.put, List.setIfInBounds_toArray, List.set_cons_zero, List.set_cons_succ]
          refine wpAnyH_take (i := 7) (v := ?_) rfl (by kernel_rfl) (by kernel_rfl) (by kernel_rfl) (fun _ _ _ h => h) (Or.inl ⟨by rfl, ?_⟩) (HX.out.tt.nat.1) ?_
          case refine_2 => (intro w1 hS1; (try dsimp only at hS1); go_simp; try with_reducible rfl)
          try simp only [List.getElem_toArray, List.getElem_cons_zero, List.getElem_cons_succ, Act.put, List.setIfInBounds_toArray, List.set_cons_zero, List.set_cons_succ]
          refine wpAnyH_ready (rs := [8]) (by kernel_rfl) (by simp) ?_
          refine AllReadyH.cons rfl (fun K hK => ?_) AllReadyH.nil
          obtain ⟨q0, q1, q2, q3, q4, q5, q6, q7, q8, q9, q10, q11, q12, q13⟩ := rep_at HX.out.box
          have qf := rep_fr HX.out.box
          have HX' := Lib.hid (HX.out.set 13 (.int .i64 (de : Int)) rfl)
          have HO' := Lib.hid (HO.out.set (p := ⟨g, 13, none⟩) (Nat.lt_succ_self g) (.int .i64 (de : Int)))
          clear HX HO
          have HX := HX'
          have HO := HO'
          clear HX' HO'
          go_simp
          clear q0 q1 q2 q3 q4 q5 q6 q7 q8 q9 q10 q11 q12 q13 qf
          refine hK.out _ _ (HX.out.tt.nat.1) (fun hHeld => ?_)
          clear hK K hHeld
          try simp only [List.getElem_toArray, List.getElem_cons_zero, List.getElem_cons_succ, Act.put, List.setIfInBounds_toArray, List.set_cons_zero, List.set_cons_succ]
          refine wpAnyH_done (by kernel_rfl) ?_ _
          generalize (w4.setCell ⟨g, 12, none⟩ (.int .u64 (nt : Int))).setCell ⟨g, 13, none⟩ (.int .i64 (de : Int)) = w5 at HX HO ⊢
          obtain ⟨q0, q1, q2, q3, q4, q5, q6, q7, q8, q9, q10, q11, q12, q13⟩ := rep_at HX.out.box
          obtain ⟨r0, r1, r2, r3, r4, r5, r6, r7, r8, r9, r10, r11, r12, r13⟩ := rep_at HX.out.res
          have rf := rep_fr HX.out.res
          go_wp2_with fail
          clear q0 q1 q2 q3 q4 q5 q6 q7 q8 q9 q10 q11 q12 q13 r0 r1 r2 r3 r4 r5 r6 r7 r8 r9 r10 r11 r12 r13 rf
          have hp := put14_at HX.out.res (.int .i64 (c : Int)) (.int .i64 tm) (.int .u64 x1) (.int .i64 x2) (.int .i64 x3) (.int .i64 x4) (.int .u64 x5) (.int .i64 x6) (.int .i64 x7) (.int .i64 x8) (.int .i64 x9) (.slice a5 D.length c5) (.int .u64 (nt : Int)) (.int .i64 (de : Int))
          have hb := put14_below (B := w.heap.size) w5 (Nat.le_refl w.heap.size) (.int .i64 (c : Int)) (.int .i64 tm) (.int .u64 x1) (.int .i64 x2) (.int .i64 x3) (.int .i64 x4) (.int .u64 x5) (.int .i64 x6) (.int .i64 x7) (.int .i64 x8) (.int .i64 x9) (.slice a5 D.length c5) (.int .u64 (nt : Int)) (.int .i64 (de : Int))
          have hrr := HX.out.tt.under hb (Nat.le_refl _) HX.out.hb.1 HX.out.hb.2.2 HX.out.hb.2.1
          have hlt := HX.out.lt
          have ho : OU (put14 w5 w.heap.size (.int .i64 (c : Int)) (.int .i64 tm) (.int .u64 x1) (.int .i64 x2) (.int .i64 x3) (.int .i64 x4) (.int .u64 x5) (.int .i64 x6) (.int .i64 x7) (.int .i64 x8) (.int .i64 x9) (.slice a5 D.length c5) (.int .u64 (nt : Int)) (.int .i64 (de : Int))) (g + 1) (.slice a5 D.length c5) D := by
            unfold put14
            have hl : w.heap.size < g + 1 := by omega
            exact (((((((((((((HO.out.set (p := ⟨_, 0, none⟩) hl _).set (p := ⟨_, 1, none⟩) hl _).set (p := ⟨_, 2, none⟩) hl _).set (p := ⟨_, 3, none⟩) hl _).set (p := ⟨_, 4, none⟩) hl _).set (p := ⟨_, 5, none⟩) hl _).set (p := ⟨_, 6, none⟩) hl _).set (p := ⟨_, 7, none⟩) hl _).set (p := ⟨_, 8, none⟩) hl _).set (p := ⟨_, 9, none⟩) hl _).set (p := ⟨_, 10, none⟩) hl _).set (p := ⟨_, 11, none⟩) hl _).set (p := ⟨_, 12, none⟩) hl _).set (p := ⟨_, 13, none⟩) hl _
          have hfin : AsmR N0 R0 b ds w (.returned (.agg #[.int .i64 (c : Int), .int .i64 tm, .int .u64 x1, .int .i64 x2, .int .i64 x3, .int .i64 x4, .int .u64 x5, .int .i64 x6, .int .i64 x7, .int .i64 x8, .int .i64 x9, .slice a5 D.length c5, .int .u64 (nt : Int), .int .i64 (de : Int)])) (put14 w5 w.heap.size (.int .i64 (c : Int)) (.int .i64 tm) (.int .u64 x1) (.int .i64 x2) (.int .i64 x3) (.int .i64 x4) (.int .u64 x5) (.int .i64 x6) (.int .i64 x7) (.int .i64 x8) (.int .i64 x9) (.slice a5 D.length c5) (.int .u64 (nt : Int)) (.int .i64 (de : Int))) := by
            refine ⟨a5, c5, ?_, ?_, hrr⟩
            · rw [HEC.out, HET.out, HYN.out, HEN.out.1, HEN.out.2, ← HDX.out]
              obtain ⟨rfl, rfl, rfl, rfl, rfl, rfl, rfl, rfl, rfl⟩ := HXX.out
              rfl
            · rw [← HDX.out]
              exact ho.mono (by omega)
          unfold put14 at hp hfin
          clear ho hrr hb
          obtain ⟨p0, p1, p2, p3, p4, p5, p6, p7, p8, p9, p10, p11, p12, p13⟩ := rep_at hp
          exact bodyPost_ret (v := .agg #[.int .i64 (c : Int), .int .i64 tm, .int .u64 x1, .int .i64 x2, .int .i64 x3, .int .i64 x4, .int .u64 x5, .int .i64 x6, .int .i64 x7, .int .i64 x8, .int .i64 x9, .slice a5 D.length c5, .int .u64 (nt : Int), .int .i64 (de : Int)]) (by simp [results, Try.results55, go_sem, p0, p1, p2, p3, p4, p5, p6, p7, p8, p9, p10, p11, p12, p13]) rfl hfin
/- Replies: Read. -/
open Go.RowKit
/-- May what was read be? -/
def yS (ds : List Nat) : Bool := repS ((nN 99 ds : Nat) : Int) (iN (nR 99 ds)) (yNine ds).n1 (yNine ds).n2 (yNine ds).n3 (yNine ds).n4 (yNine ds).n5 (yNine ds).n6 (yNine ds).n7 (yNine ds).n8 (yNine ds).n9 (yXs ds).length ((nN 128 (y7 ds) : Nat) : Int)
def yOk (ds : List Nat) : Bool := !yBad ds && yS ds
theorem yNine_fr (ds : List Nat) : (yNine ds).n6 ≤ 1125899906842624 := by
  unfold yNine tkN
  split
  · split
    · exact nN_le _ _
    · simp [zNine]
  · simp [zNine]
def yV (ds : List Nat) (a : Option Addr) (ca : Nat) : Value := repV ((nN 99 ds : Nat) : Int) (iN (nR 99 ds)) (yNine ds).n1 (yNine ds).n2 (yNine ds).n3 (yNine ds).n4 (yNine ds).n5 (yNine ds).n6 (yNine ds).n7 (yNine ds).n8 (yNine ds).n9 a (yXs ds).length ca ((nN 18446744073709551615 (y6 ds) : Nat) : Int) ((nN 128 (y7 ds) : Nat) : Int)
def zV : Value := .agg #[.int .i64 0, .int .i64 0, .int .u64 0, .int .i64 0, .int .i64 0, .int .i64 0, .int .u64 0, .int .i64 0, .int .i64 0, .int .i64 0, .int .i64 0, .slice none 0 0, .int .u64 0, .int .i64 0]
/-- What Read gives. -/
def ReadR (b : Nat) (ds : List Nat) (w : World) (e : Ending) (w' : World) : Prop :=
  (yOk ds = true → ∃ a' ca', e = .returned (.tuple #[yV ds a' ca', .bool true]) ∧ OU w' w.heap.size (.slice a' (yXs ds).length ca') (yXs ds) ∧ RR w' b (yRest ds) false ∧ Rd b w w') ∧
  (yOk ds = false → e = .returned (.tuple #[zV, .bool false]) ∧ RR w' b [] true ∧ Rd b w w')
set_option maxRecDepth 100000 in
set_option maxHeartbeats 16000000 in
theorem read19 (b : Nat) (ds : List Nat) (bad : Bool) (w : World) (hr : RR w b ds bad) :
    Calls Try.prog 21 #[.pointer (some ⟨b, 0, none⟩)] w (ReadR b ds w) := by
  have hbl := hr.lt
  have HBL := Lib.hid hbl
  have hmf : ∀ (fn : Fn) (first cap : Array Value) (w : World), (Instr.makeFunc fn first cap).run Try.prog w = .ok (.func fn first cap) w := fun _ _ _ _ => rfl
  obtain ⟨B3, s0, s1, s2, sz⟩ := box3 w #[.pointer (some ⟨b, 0, none⟩)] #[.int .i64 0, .int .i64 0, .int .u64 0, .int .i64 0, .int .i64 0, .int .i64 0, .int .u64 0, .int .i64 0, .int .i64 0, .int .i64 0, .int .i64 0, .slice none 0 0, .int .u64 0, .int .i64 0] #[.func (.func 54) #[.pointer (some ⟨b, 0, none⟩)] #[]] 42 28 67
  have HRT : Hid (RdT (((w.alloc (.cells #[.pointer (some ⟨b, 0, none⟩)] 42)).alloc (.cells #[.int .i64 0, .int .i64 0, .int .u64 0, .int .i64 0, .int .i64 0, .int .i64 0, .int .u64 0, .int .i64 0, .int .i64 0, .int .i64 0, .int .i64 0, .slice none 0 0, .int .u64 0, .int .i64 0] 28)).alloc (.cells #[.func (.func 54) #[.pointer (some ⟨b, 0, none⟩)] #[]] 67)) (((w.alloc (.cells #[.pointer (some ⟨b, 0, none⟩)] 42)).alloc (.cells #[.int .i64 0, .int .i64 0, .int .u64 0, .int .i64 0, .int .i64 0, .int .i64 0, .int .u64 0, .int .i64 0, .int .i64 0, .int .i64 0, .int .i64 0, .slice none 0 0, .int .u64 0, .int .i64 0] 28)).alloc (.cells #[.func (.func 54) #[.pointer (some ⟨b, 0, none⟩)] #[]] 67)) (w.heap.size + 1 + 1) w.heap.size b ds bad) := Lib.hid ⟨hr.kept B3, s0, s2, by omega, by omega, Turn.refl _ _ _⟩
  have HB3 := Lib.hid B3
  have HT := Lib.hid s1
  have HSZ := Lib.hid sz
  obtain ⟨c0, -⟩ : ((w.alloc (.cells #[.pointer (some ⟨b, 0, none⟩)] 42)).alloc (.cells #[.int .i64 0, .int .i64 0, .int .u64 0, .int .i64 0, .int .i64 0, .int .i64 0, .int .u64 0, .int .i64 0, .int .i64 0, .int .i64 0, .int .i64 0, .slice none 0 0, .int .u64 0, .int .i64 0] 28)).cell? ⟨w.heap.size, 0, none⟩ = some (.pointer (some ⟨b, 0, none⟩)) ∧ True := ⟨one_at (box2 w #[.pointer (some ⟨b, 0, none⟩)] #[.int .i64 0, .int .i64 0, .int .u64 0, .int .i64 0, .int .i64 0, .int .i64 0, .int .u64 0, .int .i64 0, .int .i64 0, .int .i64 0, .int .i64 0, .slice none 0 0, .int .u64 0, .int .i64 0] 42 28).2.1, trivial⟩
  obtain ⟨cd, tm, id, cn, st, lv, ge, fr, lf, du, tl, nt, de, L, hv, hL, hfr, hys⟩ : ∃ cd tm id cn st lv ge fr lf du tl nt de : Int, ∃ L : Nat, (∀ a ca, yV ds a ca = repV cd tm id cn st lv ge fr lf du tl a L ca nt de) ∧ (yXs ds).length = L ∧ fr ≤ 9223372036854775807 ∧ yS ds = repS cd tm id cn st lv ge fr lf du tl L de := ⟨_, _, _, _, _, _, _, _, _, _, _, _, _, _, fun _ _ => rfl, rfl, by have := yNine_fr ds; omega, rfl⟩
  have HASM : Hid (∀ W N0 R0, RdT W W N0 R0 b ds bad → Calls Try.prog 55 #[.pointer (some ⟨N0, 0, none⟩), .pointer (some ⟨R0, 0, none⟩)] W fun e w' => ∃ a' ca', e = .returned (repV cd tm id cn st lv ge fr lf du tl a' L ca' nt de) ∧ OU w' W.heap.size (.slice a' L ca') (yXs ds) ∧ RdT W w' N0 R0 b (yRest ds) (yBad ds)) := Lib.hid (fun W N0 R0 h => (asm_rd b N0 R0 ds bad W h).mono fun e w' ⟨a', c', h1, h2, h3⟩ => ⟨a', c', h1.trans (congrArg _ (hv a' c')), hL ▸ h2, h3⟩)
  have HSN : Hid (∀ W a, ∀ ca : Nat, Calls Try.prog 14 #[repV cd tm id cn st lv ge fr lf du tl a L ca nt de] W fun e w' => e = .returned (.bool (yS ds)) ∧ Below W.heap.size W w') := Lib.hid (fun W a ca => by rw [hys]; exact rsound19 cd tm id cn st lv ge fr lf du tl a L ca nt de W hfr)
  have HV := Lib.hid (And.intro hv hL)
  have HOK : Hid (yOk ds = (!yBad ds && yS ds)) := Lib.hid rfl
  obtain ⟨bd, ebd⟩ : ∃ x, yBad ds = x := ⟨_, rfl⟩
  obtain ⟨sd, esd⟩ : ∃ x, yS ds = x := ⟨_, rfl⟩
  rw [ebd] at HASM HOK
  rw [esd] at HSN HOK
  clear hr hbl B3 s0 s1 s2 sz hv hL hfr hys ebd esd
  unfold repV at HASM HSN
  go_enter Try.func21, Try.ntmps21
  go_wp2_with fail
  generalize (((w.alloc (.cells #[.pointer (some ⟨b, 0, none⟩)] 42)).alloc (.cells #[.int .i64 0, .int .i64 0, .int .u64 0, .int .i64 0, .int .i64 0, .int .i64 0, .int .u64 0, .int .i64 0, .int .i64 0, .int .i64 0, .int .i64 0, .slice none 0 0, .int .u64 0, .int .i64 0] 28)).alloc (.cells #[.func (.func 54) #[.pointer (some ⟨b, 0, none⟩)] #[]] 67)) = W0 at HRT HB3 HT HSZ ⊢
  refine (HASM.out W0 _ _ HRT.out).mono ?_
  rintro e W5 ⟨a5, c5, rfl, ho, hrt⟩
  obtain ⟨g, hg⟩ : ∃ g, W5.heap.size = g := ⟨_, rfl⟩
  obtain ⟨B6, s6, -⟩ := box1 W5 #[.int .i64 cd, .int .i64 tm, .int .u64 id, .int .i64 cn, .int .i64 st, .int .i64 lv, .int .u64 ge, .int .i64 fr, .int .i64 lf, .int .i64 du, .int .i64 tl, .slice a5 L c5, .int .u64 nt, .int .i64 de] 28
  have hT : w.heap.size + 1 ≠ b := by have := HBL.out; omega
  have HT6 := Lib.hid (ex_below (hrt.rd.keep HT.out hT) B6)
  have HO6 := Lib.hid ((ho.mono (base' := w.heap.size + 2) (by have := HSZ.out; omega)).kept B6)
  have HR6 := Lib.hid (hrt.kept B6)
  have HD6 : Hid (Rd b w (W5.alloc (.cells #[.int .i64 cd, .int .i64 tm, .int .u64 id, .int .i64 cn, .int .i64 st, .int .i64 lv, .int .u64 ge, .int .i64 fr, .int .i64 lf, .int .i64 du, .int .i64 tl, .slice a5 L c5, .int .u64 nt, .int .i64 de] 28))) := Lib.hid (((Rd.below HB3.out).trans hrt.rd).trans (Rd.below B6))
  rw [hg] at s6
  have HS6 := Lib.hid s6
  have HG : Hid (w.heap.size + 1 < g) := Lib.hid (by have := ex_lt (hrt.rd.keep HT.out hT); omega)
  clear B6 s6 ho hrt HT HRT HASM c0
  obtain ⟨q0, q1, q2, q3, q4, q5, q6, q7, q8, q9, q10, q11, q12, q13⟩ := rep_at HS6.out
  have m0 := one_at HR6.out.box
  have hnil : (binOp .eql 42 (.pointer (some ⟨b, 0, none⟩)) (.pointer none)).run Try.prog W5 = .ok (.bool false) W5 := rfl
  clear hnil
  go_wp2_with fail
  generalize W5.alloc (.cells #[.int .i64 cd, .int .i64 tm, .int .u64 id, .int .i64 cn, .int .i64 st, .int .i64 lv, .int .u64 ge, .int .i64 fr, .int .i64 lf, .int .i64 du, .int .i64 tl, .slice a5 L c5, .int .u64 nt, .int .i64 de] 28) = W6 at HT6 HO6 HR6 HD6 HS6 q0 q1 q2 q3 q4 q5 q6 q7 q8 q9 q10 q11 q12 q13 m0 ⊢
  refine (bad_rd b _ _ W6 HR6.out.rr).mono ?_
  rintro e W6' ⟨rfl, rfl⟩
  cases bd
  case true =>
    go_wp2_with fail
    refine (fail_rd b _ _ W6 HR6.out.rr).mono ?_
    rintro e W8 ⟨rfl, hr8, ht8⟩
    have HT8 := Lib.hid (ht8.keep HT6.out hT)
    have HR8 := Lib.hid hr8
    have HD8 := Lib.hid (HD6.out.trans ht8)
    clear hr8 ht8 q0 q1 q2 q3 q4 q5 q6 q7 q8 q9 q10 q11 q12 q13 m0
    obtain ⟨r0, r1, r2, r3, r4, r5, r6, r7, r8, r9, r10, r11, r12, r13⟩ := rep_at HT8.out
    have rf := rep_fr HT8.out
    go_wp2_with fail
    clear r0 r1 r2 r3 r4 r5 r6 r7 r8 r9 r10 r11 r12 r13 rf
    have hp := put14_at HT8.out (.int .i64 0) (.int .i64 0) (.int .u64 0) (.int .i64 0) (.int .i64 0) (.int .i64 0) (.int .u64 0) (.int .i64 0) (.int .i64 0) (.int .i64 0) (.int .i64 0) (.slice none 0 0) (.int .u64 0) (.int .i64 0)
    have hb := put14_below (B := w.heap.size + 1) W8 (Nat.le_refl (w.heap.size + 1)) (.int .i64 0) (.int .i64 0) (.int .u64 0) (.int .i64 0) (.int .i64 0) (.int .i64 0) (.int .u64 0) (.int .i64 0) (.int .i64 0) (.int .i64 0) (.int .i64 0) (.slice none 0 0) (.int .u64 0) (.int .i64 0)
    have hrr := HR8.out.under hb (by have := HBL.out; omega)
    have hrd := HD8.out.under hb (by omega)
    have hfin : ReadR b ds w (.returned (.tuple #[.agg #[.int .i64 0, .int .i64 0, .int .u64 0, .int .i64 0, .int .i64 0, .int .i64 0, .int .u64 0, .int .i64 0, .int .i64 0, .int .i64 0, .int .i64 0, .slice none 0 0, .int .u64 0, .int .i64 0], .bool false])) (put14 W8 (w.heap.size + 1) (.int .i64 0) (.int .i64 0) (.int .u64 0) (.int .i64 0) (.int .i64 0) (.int .i64 0) (.int .u64 0) (.int .i64 0) (.int .i64 0) (.int .i64 0) (.int .i64 0) (.slice none 0 0) (.int .u64 0) (.int .i64 0)) := ⟨fun h => by rw [HOK.out] at h; simp at h, fun _ => ⟨rfl, hrr, hrd⟩⟩
    unfold put14 at hp hfin
    clear hrr hrd hb
    obtain ⟨p0, p1, p2, p3, p4, p5, p6, p7, p8, p9, p10, p11, p12, p13⟩ := rep_at hp
    exact bodyPost_ret (v := .tuple #[.agg #[.int .i64 0, .int .i64 0, .int .u64 0, .int .i64 0, .int .i64 0, .int .i64 0, .int .u64 0, .int .i64 0, .int .i64 0, .int .i64 0, .int .i64 0, .slice none 0 0, .int .u64 0, .int .i64 0], .bool false]) (by simp [results, Try.results21, go_sem, p0, p1, p2, p3, p4, p5, p6, p7, p8, p9, p10, p11, p12, p13]) rfl hfin
  go_wp2_with fail
  refine (HSN.out W6 a5 c5).mono ?_
  rintro e W7 ⟨rfl, hb⟩
  have HT7 := Lib.hid (ex_below HT6.out hb)
  have HS7 := Lib.hid (ex_below HS6.out hb)
  have HO7 := Lib.hid (HO6.out.kept hb)
  have HR7 := Lib.hid (HR6.out.kept hb)
  have HD7 := Lib.hid (HD6.out.trans (Rd.below hb))
  clear hb q0 q1 q2 q3 q4 q5 q6 q7 q8 q9 q10 q11 q12 q13 m0 HT6 HO6 HR6 HD6
  obtain ⟨q0, q1, q2, q3, q4, q5, q6, q7, q8, q9, q10, q11, q12, q13⟩ := rep_at HS7.out
  have m0 := one_at HR7.out.box
  cases sd
  case false =>
    go_wp2_with fail
    refine (fail_rd b _ _ W7 HR7.out.rr).mono ?_
    rintro e W8 ⟨rfl, hr8, ht8⟩
    have HT8 := Lib.hid (ht8.keep HT7.out hT)
    have HR8 := Lib.hid hr8
    have HD8 := Lib.hid (HD7.out.trans ht8)
    clear hr8 ht8 q0 q1 q2 q3 q4 q5 q6 q7 q8 q9 q10 q11 q12 q13 m0
    obtain ⟨r0, r1, r2, r3, r4, r5, r6, r7, r8, r9, r10, r11, r12, r13⟩ := rep_at HT8.out
    have rf := rep_fr HT8.out
    go_wp2_with fail
    clear r0 r1 r2 r3 r4 r5 r6 r7 r8 r9 r10 r11 r12 r13 rf
    have hp := put14_at HT8.out (.int .i64 0) (.int .i64 0) (.int .u64 0) (.int .i64 0) (.int .i64 0) (.int .i64 0) (.int .u64 0) (.int .i64 0) (.int .i64 0) (.int .i64 0) (.int .i64 0) (.slice none 0 0) (.int .u64 0) (.int .i64 0)
    have hb := put14_below (B := w.heap.size + 1) W8 (Nat.le_refl (w.heap.size + 1)) (.int .i64 0) (.int .i64 0) (.int .u64 0) (.int .i64 0) (.int .i64 0) (.int .i64 0) (.int .u64 0) (.int .i64 0) (.int .i64 0) (.int .i64 0) (.int .i64 0) (.slice none 0 0) (.int .u64 0) (.int .i64 0)
    have hrr := HR8.out.under hb (by have := HBL.out; omega)
    have hrd := HD8.out.under hb (by omega)
    have hfin : ReadR b ds w (.returned (.tuple #[.agg #[.int .i64 0, .int .i64 0, .int .u64 0, .int .i64 0, .int .i64 0, .int .i64 0, .int .u64 0, .int .i64 0, .int .i64 0, .int .i64 0, .int .i64 0, .slice none 0 0, .int .u64 0, .int .i64 0], .bool false])) (put14 W8 (w.heap.size + 1) (.int .i64 0) (.int .i64 0) (.int .u64 0) (.int .i64 0) (.int .i64 0) (.int .i64 0) (.int .u64 0) (.int .i64 0) (.int .i64 0) (.int .i64 0) (.int .i64 0) (.slice none 0 0) (.int .u64 0) (.int .i64 0)) := ⟨fun h => by rw [HOK.out] at h; simp at h, fun _ => ⟨rfl, hrr, hrd⟩⟩
    unfold put14 at hp hfin
    clear hrr hrd hb
    obtain ⟨p0, p1, p2, p3, p4, p5, p6, p7, p8, p9, p10, p11, p12, p13⟩ := rep_at hp
    exact bodyPost_ret (v := .tuple #[.agg #[.int .i64 0, .int .i64 0, .int .u64 0, .int .i64 0, .int .i64 0, .int .i64 0, .int .u64 0, .int .i64 0, .int .i64 0, .int .i64 0, .int .i64 0, .slice none 0 0, .int .u64 0, .int .i64 0], .bool false]) (by simp [results, Try.results21, go_sem, p0, p1, p2, p3, p4, p5, p6, p7, p8, p9, p10, p11, p12, p13]) rfl hfin
  obtain ⟨r0, r1, r2, r3, r4, r5, r6, r7, r8, r9, r10, r11, r12, r13⟩ := rep_at HT7.out
  have rf := rep_fr HT7.out
  go_wp2_with fail
  clear q0 q1 q2 q3 q4 q5 q6 q7 q8 q9 q10 q11 q12 q13 r0 r1 r2 r3 r4 r5 r6 r7 r8 r9 r10 r11 r12 r13 rf m0
  have hp := put14_at HT7.out (.int .i64 cd) (.int .i64 tm) (.int .u64 id) (.int .i64 cn) (.int .i64 st) (.int .i64 lv) (.int .u64 ge) (.int .i64 fr) (.int .i64 lf) (.int .i64 du) (.int .i64 tl) (.slice a5 L c5) (.int .u64 nt) (.int .i64 de)
  have hb := put14_below (B := w.heap.size + 1) W7 (Nat.le_refl (w.heap.size + 1)) (.int .i64 cd) (.int .i64 tm) (.int .u64 id) (.int .i64 cn) (.int .i64 st) (.int .i64 lv) (.int .u64 ge) (.int .i64 fr) (.int .i64 lf) (.int .i64 du) (.int .i64 tl) (.slice a5 L c5) (.int .u64 nt) (.int .i64 de)
  have hrr := HR7.out.rr.under hb (by have := HBL.out; omega)
  have hrd := HD7.out.under hb (by omega)
  have ho : OU (put14 W7 (w.heap.size + 1) (.int .i64 cd) (.int .i64 tm) (.int .u64 id) (.int .i64 cn) (.int .i64 st) (.int .i64 lv) (.int .u64 ge) (.int .i64 fr) (.int .i64 lf) (.int .i64 du) (.int .i64 tl) (.slice a5 L c5) (.int .u64 nt) (.int .i64 de)) (w.heap.size + 2) (.slice a5 L c5) (yXs ds) := by
    unfold put14
    have hl : w.heap.size + 1 < w.heap.size + 2 := by omega
    exact (((((((((((((HO7.out.set (p := ⟨_, 0, none⟩) hl _).set (p := ⟨_, 1, none⟩) hl _).set (p := ⟨_, 2, none⟩) hl _).set (p := ⟨_, 3, none⟩) hl _).set (p := ⟨_, 4, none⟩) hl _).set (p := ⟨_, 5, none⟩) hl _).set (p := ⟨_, 6, none⟩) hl _).set (p := ⟨_, 7, none⟩) hl _).set (p := ⟨_, 8, none⟩) hl _).set (p := ⟨_, 9, none⟩) hl _).set (p := ⟨_, 10, none⟩) hl _).set (p := ⟨_, 11, none⟩) hl _).set (p := ⟨_, 12, none⟩) hl _).set (p := ⟨_, 13, none⟩) hl _
  have hfin : ReadR b ds w (.returned (.tuple #[.agg #[.int .i64 cd, .int .i64 tm, .int .u64 id, .int .i64 cn, .int .i64 st, .int .i64 lv, .int .u64 ge, .int .i64 fr, .int .i64 lf, .int .i64 du, .int .i64 tl, .slice a5 L c5, .int .u64 nt, .int .i64 de], .bool true])) (put14 W7 (w.heap.size + 1) (.int .i64 cd) (.int .i64 tm) (.int .u64 id) (.int .i64 cn) (.int .i64 st) (.int .i64 lv) (.int .u64 ge) (.int .i64 fr) (.int .i64 lf) (.int .i64 du) (.int .i64 tl) (.slice a5 L c5) (.int .u64 nt) (.int .i64 de)) :=
    ⟨fun _ => ⟨a5, c5, by rw [HV.out.1]; rfl, by rw [HV.out.2]; exact ho.mono (by omega), hrr, hrd⟩, fun h => by rw [HOK.out] at h; simp at h⟩
  unfold put14 at hp hfin
  clear hrr hrd hb ho
  obtain ⟨p0, p1, p2, p3, p4, p5, p6, p7, p8, p9, p10, p11, p12, p13⟩ := rep_at hp
  exact bodyPost_ret (v := .tuple #[.agg #[.int .i64 cd, .int .i64 tm, .int .u64 id, .int .i64 cn, .int .i64 st, .int .i64 lv, .int .u64 ge, .int .i64 fr, .int .i64 lf, .int .i64 du, .int .i64 tl, .slice a5 L c5, .int .u64 nt, .int .i64 de], .bool true]) (by simp [results, Try.results21, go_sem, p0, p1, p2, p3, p4, p5, p6, p7, p8, p9, p10, p11, p12, p13]) rfl hfin
end Go.Proofs.Ytnhaakdjijjinaa

/- Replies: Put. -/
import Derived.Test.YtnhaakdjijjinaaRyF
import Derived.Test.YtnhaakdjijjinaaTbE
import Derived.Test.YtnhaakdjijjinaaQa2
namespace Go.Proofs.Ytnhaakdjijjinaa
open Go.RowKit
theorem num_oneG (b base : Nat) (v : Value) (n : Nat) (bs : List Nat) (g : Nat) (w : World) (hg : g = w.heap.size) (hw : WR w b base v bs) (hbl : bs.length ≤ 10000000) (hn : n < 18446744073709551616) :
    Calls Try.prog 49 #[.pointer (some ⟨b, 0, none⟩), .slice (some ⟨g, 0, none⟩) 1 1] (w.alloc (.cells #[.int .u64 ((n : Nat) : Int)] 23)) fun e w' => e = .returned (.tuple #[]) ∧ Wrote b base v w (bs ++ num 0 n) w' := hg ▸ num_one b base v n bs w hw hbl hn
theorem rv_two (w : World) (b : Nat) (t : TypeId) (x1 x2 : Value) (hb : b = w.heap.size) : RV (w.alloc (.cells #[x1, x2] t)) (.slice (some ⟨b, 0, none⟩) 2 2) [x1, x2] := by
  subst hb
  refine ⟨by simp, _, _, rfl, fun i hi => ⟨_, _, rfl, ?_⟩⟩
  rw [World.cell?_alloc_at _ _ _ _ rfl]
  simp only [List.length_cons, List.length_nil] at hi
  have : i = 0 ∨ i = 1 := by omega
  rcases this with rfl | rfl <;> rfl
theorem num_two (b base : Nat) (v : Value) (n m : Nat) (bs : List Nat) (w : World) (hw : WR w b base v bs) (hbl : bs.length ≤ 10000000) (hn : n < 18446744073709551616) (hm : m < 18446744073709551616) :
    Calls Try.prog 49 #[.pointer (some ⟨b, 0, none⟩), .slice (some ⟨w.heap.size, 0, none⟩) 2 2] (w.alloc (.cells #[.int .u64 ((n : Nat) : Int), .int .u64 ((m : Nat) : Int)] 23)) fun e w' => e = .returned (.tuple #[]) ∧ Wrote b base v w (bs ++ (num 0 n ++ num 0 m)) w' := by
  have hB : Below w.heap.size w (w.alloc (.cells #[.int .u64 ((n : Nat) : Int), .int .u64 ((m : Nat) : Int)] 23)) := (Below.refl _ _).alloc (Nat.le_refl _) _
  have := num_wr b base v bs [n, m] _ _ (hw.kept hB) hbl (rv_two w w.heap.size 23 _ _ rfl) (by intro x hx; simp only [List.mem_cons, List.not_mem_nil, or_false] at hx; omega)
  have e : nums [n, m] = num 0 n ++ num 0 m := by simp [nums]
  rw [e] at this
  exact this.mono fun _ _ h => ⟨h.1, h.2.after hB⟩
/-- A reply on its way to a writer. -/
structure PutS (W0 : World) (b base : Nat) (v : Value) (bs acc : List Nat) (T : Nat) (C : Array Value) (a : Option Addr) (n : Nat) (xs : List Nat) (W : World) : Prop where
  wr : Wrote b base v W0 (bs ++ acc) W
  box : W.heap[T]? = some (.cells C 28 (0, 0))
  row : Us W a n xs
  lt : T < W0.heap.size
  ne : T ≠ b
  own : ∀ k, v.ownBlock = some k → k ≠ T
  far : ∀ g o, a = some ⟨g, o, none⟩ → g < base ∧ g ≠ b
theorem PutS.go {W0 W W' : World} {b base : Nat} {v v' : Value} {bs acc cs : List Nat} {T : Nat} {C : Array Value} {a : Option Addr} {n : Nat} {xs : List Nat} (h : PutS W0 b base v bs acc T C a n xs W) (hw : WR W b base v' (bs ++ acc)) (ht : Turn b v W0 W) (hm : Moved v W0 v') (k : Wrote b base v' W (bs ++ acc ++ cs) W') : PutS W0 b base v bs (acc ++ cs) T C a n xs W' := by
  have k' := k
  obtain ⟨v2, k1, k2, k3⟩ := k
  have hT : T < W.heap.size := Nat.lt_of_lt_of_le h.lt ht.size
  have hvT : some T ≠ v'.ownBlock := by
    intro e
    rcases hm with e1 | e1
    · rw [e1] at e
      exact h.own T e.symm rfl
    · have := e1 T e.symm
      have := h.lt
      omega
  refine ⟨by rw [← List.append_assoc]; exact Wrote.join hw ht hm k', (k2.block T hT h.ne hvT).trans h.box, ?_, h.lt, h.ne, h.own, h.far⟩
  obtain ⟨r1, r2, r3, r4⟩ := h.row
  refine ⟨r1, r2, r3, fun i hi => ?_⟩
  obtain ⟨g, off, ha, hlt, hc⟩ := r4 i hi
  obtain ⟨f1, f2⟩ := h.far g off ha
  refine ⟨g, off, ha, Nat.lt_of_lt_of_le hlt k2.size, ?_⟩
  rw [World.cell?_of_block (k2.block g hlt f2 (fun e => by have := hw.base_le g e.symm; omega))]
  exact hc
theorem PutS.kept {W0 W W' : World} {b base : Nat} {v : Value} {bs acc : List Nat} {T : Nat} {C : Array Value} {a : Option Addr} {n : Nat} {xs : List Nat} (h : PutS W0 b base v bs acc T C a n xs W) (hb : Below W.heap.size W W') : PutS W0 b base v bs acc T C a n xs W' :=
  ⟨h.wr.kept hb, ex_below h.box hb, h.row.kept hb, h.lt, h.ne, h.own, h.far⟩
/-- A reply's bytes. -/
def tkW (z : Bool) (ns : List Nat) : List Nat := if z = true then [] else nums ns
def repW (c : Nat) (tm : Int) (z : Bool) (ns : List Nat) (xs : List Nat) (nt de : Nat) : List Nat := num 0 c ++ intB tm ++ flagB (!z) ++ tkW z ns ++ num 0 xs.length ++ nums xs ++ (num 0 nt ++ num 0 de)
set_option maxRecDepth 100000 in
set_option maxHeartbeats 16000000 in
theorem tput_bs (b base : Nat) (v : Value) (bs : List Nat) (hbl : bs.length ≤ 10000000) (n1 n2 n3 n4 n5 n6 n7 n8 n9 : Nat) (b1 : n1 < 18446744073709551616) (b2 : n2 < 9223372036854775808) (b3 : n3 < 9223372036854775808) (b4 : n4 < 9223372036854775808) (b5 : n5 < 18446744073709551616) (b6 : n6 < 9223372036854775808) (b7 : n7 < 9223372036854775808) (b8 : n8 < 9223372036854775808) (b9 : n9 < 9223372036854775808) (w : World) (hw : WR w b base v bs) :
    Calls Try.prog 52 #[.pointer (some ⟨b, 0, none⟩), tkV n1 n2 n3 n4 n5 n6 n7 n8 n9] w fun e w' => e = .returned (.tuple #[]) ∧ Wrote b base v w (bs ++ nums [n1, n2, n3, n4, n5, n6, n7, n8, n9]) w' := by
  have HNN := Lib.hid (nine_nums n1 n2 n3 n4 n5 n6 n7 n8 n9 b1 b2 b3 b4 b5 b6 b7 b8 b9)
  have e2 : IntKind.u64.wrap (n2 : Int) = (n2 : Int) := IntWalk.u64_in _ ⟨by omega, by omega⟩
  have e3 : IntKind.u64.wrap (n3 : Int) = (n3 : Int) := IntWalk.u64_in _ ⟨by omega, by omega⟩
  have e4 : IntKind.u64.wrap (n4 : Int) = (n4 : Int) := IntWalk.u64_in _ ⟨by omega, by omega⟩
  have e6 : IntKind.u64.wrap (n6 : Int) = (n6 : Int) := IntWalk.u64_in _ ⟨by omega, by omega⟩
  have e7 : IntKind.u64.wrap (n7 : Int) = (n7 : Int) := IntWalk.u64_in _ ⟨by omega, by omega⟩
  have e8 : IntKind.u64.wrap (n8 : Int) = (n8 : Int) := IntWalk.u64_in _ ⟨by omega, by omega⟩
  have e9 : IntKind.u64.wrap (n9 : Int) = (n9 : Int) := IntWalk.u64_in _ ⟨by omega, by omega⟩
  obtain ⟨B2, s0, sz⟩ := box1 w #[.int .u64 (n1 : Int), .int .i64 (n2 : Int), .int .i64 (n3 : Int), .int .i64 (n4 : Int), .int .u64 (n5 : Int), .int .i64 (n6 : Int), .int .i64 (n7 : Int), .int .i64 (n8 : Int), .int .i64 (n9 : Int)] 25
  obtain ⟨c0, c1, c2, c3, c4, c5, c6, c7, c8⟩ := nine_at s0
  have HB := Lib.hid B2
  have HW := Lib.hid (hw.kept B2)
  have HBL := Lib.hid hbl
  clear hbl b1 b2 b3 b4 b5 b6 b7 b8 b9 B2 s0 sz hw
  unfold tkV
  go_enter Try.func52, Try.ntmps52
  go_wp2_with fail
  have hsz : ((w.alloc (.cells #[.int .u64 (n1 : Int), .int .i64 (n2 : Int), .int .i64 (n3 : Int), .int .i64 (n4 : Int), .int .u64 (n5 : Int), .int .i64 (n6 : Int), .int .i64 (n7 : Int), .int .i64 (n8 : Int), .int .i64 (n9 : Int)] 25))).heap.size = w.heap.size + 1 := by simp
  generalize (w.alloc (.cells #[.int .u64 (n1 : Int), .int .i64 (n2 : Int), .int .i64 (n3 : Int), .int .i64 (n4 : Int), .int .u64 (n5 : Int), .int .i64 (n6 : Int), .int .i64 (n7 : Int), .int .i64 (n8 : Int), .int .i64 (n9 : Int)] 25)) = W0 at hsz HB HW c0 c1 c2 c3 c4 c5 c6 c7 c8 ⊢
  have b1 : Below W0.heap.size W0 (W0.alloc (.cells #[.int .u64 (n1 : Int), .int .u64 (n2 : Int), .int .u64 (n3 : Int), .int .u64 (n4 : Int), .int .u64 (n5 : Int), .int .u64 (n6 : Int), .int .u64 (n7 : Int), .int .u64 (n8 : Int), .int .u64 (n9 : Int)] 23)) := (Below.refl _ _).alloc (Nat.le_refl _) _
  have hrv : RV (W0.alloc (.cells #[.int .u64 (n1 : Int), .int .u64 (n2 : Int), .int .u64 (n3 : Int), .int .u64 (n4 : Int), .int .u64 (n5 : Int), .int .u64 (n6 : Int), .int .u64 (n7 : Int), .int .u64 (n8 : Int), .int .u64 (n9 : Int)] 23)) (.slice (some ⟨w.heap.size + 1, 0, none⟩) 9 9) (List.map (fun n : Nat => Value.int .u64 ((n : Nat) : Int)) [n1, n2, n3, n4, n5, n6, n7, n8, n9]) := by
    simp only [List.map_cons, List.map_nil]
    exact rv_nine W0 _ _ _ _ _ _ _ _ _ _ _ hsz.symm
  obtain ⟨ns, hns⟩ : ∃ ns : List Nat, [n1, n2, n3, n4, n5, n6, n7, n8, n9] = ns := ⟨_, rfl⟩
  rw [hns] at HNN hrv
  have HNS := Lib.hid hns
  have hnum := num_wr b base v bs ns _ _ (HW.out.kept b1) HBL.out hrv HNN.out
  clear hrv hns HNN c0 c1 c2 c3 c4 c5 c6 c7 c8 HW
  refine hnum.mono ?_
  rintro e w2 ⟨rfl, hwr⟩
  go_wp2_with fail
  go_end0
  rw [HNS.out]
  exact ⟨rfl, (hwr.after b1).after HB.out⟩
set_option maxRecDepth 100000 in
set_option maxHeartbeats 16000000 in
theorem put19 (b base : Nat) (v : Value) (bs : List Nat) (hbl : bs.length ≤ 1000000) (c : Nat) (tm : Int) (n1 n2 n3 n4 n5 n6 n7 n8 n9 : Nat) (b1 : n1 < 18446744073709551616) (b2 : n2 < 9223372036854775808) (b3 : n3 < 9223372036854775808) (b4 : n4 < 9223372036854775808) (b5 : n5 < 18446744073709551616) (b6 : n6 < 9223372036854775808) (b7 : n7 < 9223372036854775808) (b8 : n8 < 9223372036854775808) (b9 : n9 < 9223372036854775808) (a : Option Addr) (n ca : Nat) (xs : List Nat) (nt de : Nat) (hc : c < 9223372036854775808) (ht0 : -9223372036854775808 ≤ tm) (ht1 : tm ≤ 9223372036854775807) (hnt : nt < 18446744073709551616) (hde : de < 9223372036854775808) (hn : n ≤ 100000) (w : World) (hw : WR w b base v bs) (hS : Us w a n xs) (hfar : ∀ g o, a = some ⟨g, o, none⟩ → g < base ∧ g ≠ b) :
    Calls Try.prog 19 #[.pointer (some ⟨b, 0, none⟩), repV c tm n1 n2 n3 n4 n5 n6 n7 n8 n9 a n ca nt de] w fun e w' => e = .returned (.tuple #[]) ∧ Wrote b base v w (bs ++ repW c tm (noT n1 n2 n3 n4 n5 n6 n7 n8 n9) [n1, n2, n3, n4, n5, n6, n7, n8, n9] xs nt de) w' := by
  obtain ⟨B1, s0, sz⟩ := box1 w #[.int .i64 (c : Int), .int .i64 tm, .int .u64 (n1 : Int), .int .i64 (n2 : Int), .int .i64 (n3 : Int), .int .i64 (n4 : Int), .int .u64 (n5 : Int), .int .i64 (n6 : Int), .int .i64 (n7 : Int), .int .i64 (n8 : Int), .int .i64 (n9 : Int), .slice a n ca, .int .u64 (nt : Int), .int .i64 (de : Int)] 28
  have HL := Lib.hid hS.1
  have HX : Hid (∀ x ∈ xs, x < 18446744073709551616) := Lib.hid hS.2.2.1
  have hlen : (nums xs).length ≤ 9 * xs.length := flat_len (num 0) 9 xs (fun x hx => num_len9 0 x (HX.out x hx))
  have HA : Hid (∀ W, Calls Try.prog 44 #[.agg #[.int .i64 (c : Int), .int .i64 tm, .int .u64 (n1 : Int), .int .i64 (n2 : Int), .int .i64 (n3 : Int), .int .i64 (n4 : Int), .int .u64 (n5 : Int), .int .i64 (n6 : Int), .int .i64 (n7 : Int), .int .i64 (n8 : Int), .int .i64 (n9 : Int), .slice a n ca, .int .u64 (nt : Int), .int .i64 (de : Int)]] W fun e w' => e = .returned (.bool (!noT n1 n2 n3 n4 n5 n6 n7 n8 n9)) ∧ Below W.heap.size W w') := Lib.hid (fun W => about_any c tm n1 n2 n3 n4 n5 n6 n7 n8 n9 a n ca nt de W)
  have HPT : Hid (∀ v' bs' W, bs'.length ≤ 10000000 → WR W b base v' bs' → Calls Try.prog 52 #[.pointer (some ⟨b, 0, none⟩), tkV n1 n2 n3 n4 n5 n6 n7 n8 n9] W fun e w' => e = .returned (.tuple #[]) ∧ Wrote b base v' W (bs' ++ nums [n1, n2, n3, n4, n5, n6, n7, n8, n9]) w') := Lib.hid (fun v' bs' W h1 h2 => tput_bs b base v' bs' h1 n1 n2 n3 n4 n5 n6 n7 n8 n9 b1 b2 b3 b4 b5 b6 b7 b8 b9 W h2)
  have HBD : Hid (c < 9223372036854775808 ∧ (-9223372036854775808 ≤ tm ∧ tm ≤ 9223372036854775807) ∧ nt < 18446744073709551616 ∧ de < 9223372036854775808 ∧ n ≤ 100000 ∧ bs.length ≤ 1000000) := Lib.hid ⟨hc, ⟨ht0, ht1⟩, hnt, hde, hn, hbl⟩
  have HNS : Hid ((nums [n1, n2, n3, n4, n5, n6, n7, n8, n9]).length ≤ 81) := Lib.hid (flat_len (num 0) 9 _ (fun x hx => num_len9 0 x (nine_nums n1 n2 n3 n4 n5 n6 n7 n8 n9 b1 b2 b3 b4 b5 b6 b7 b8 b9 x hx)))
  obtain ⟨z, hz⟩ : ∃ z, noT n1 n2 n3 n4 n5 n6 n7 n8 n9 = z := ⟨_, rfl⟩
  rw [hz] at HA ⊢
  have e1 : IntKind.u64.wrap (c : Int) = (c : Int) := IntWalk.u64_in _ ⟨by omega, by omega⟩
  have e2 : IntKind.u64.wrap (n : Int) = (n : Int) := IntWalk.u64_in _ ⟨by omega, by omega⟩
  have e3 : IntKind.u64.wrap (de : Int) = (de : Int) := IntWalk.u64_in _ ⟨by omega, by omega⟩
  obtain ⟨ns, hns⟩ : ∃ ns : List Nat, [n1, n2, n3, n4, n5, n6, n7, n8, n9] = ns := ⟨_, rfl⟩
  rw [hns] at HPT HNS
  rw [hns]
  have HSZ := Lib.hid sz
  have HP0 : Hid (PutS (w.alloc (.cells #[.int .i64 (c : Int), .int .i64 tm, .int .u64 (n1 : Int), .int .i64 (n2 : Int), .int .i64 (n3 : Int), .int .i64 (n4 : Int), .int .u64 (n5 : Int), .int .i64 (n6 : Int), .int .i64 (n7 : Int), .int .i64 (n8 : Int), .int .i64 (n9 : Int), .slice a n ca, .int .u64 (nt : Int), .int .i64 (de : Int)] 28)) b base v bs [] w.heap.size #[.int .i64 (c : Int), .int .i64 tm, .int .u64 (n1 : Int), .int .i64 (n2 : Int), .int .i64 (n3 : Int), .int .i64 (n4 : Int), .int .u64 (n5 : Int), .int .i64 (n6 : Int), .int .i64 (n7 : Int), .int .i64 (n8 : Int), .int .i64 (n9 : Int), .slice a n ca, .int .u64 (nt : Int), .int .i64 (de : Int)] a n xs (w.alloc (.cells #[.int .i64 (c : Int), .int .i64 tm, .int .u64 (n1 : Int), .int .i64 (n2 : Int), .int .i64 (n3 : Int), .int .i64 (n4 : Int), .int .u64 (n5 : Int), .int .i64 (n6 : Int), .int .i64 (n7 : Int), .int .i64 (n8 : Int), .int .i64 (n9 : Int), .slice a n ca, .int .u64 (nt : Int), .int .i64 (de : Int)] 28))) := Lib.hid ⟨⟨v, by rw [List.append_nil]; exact hw.kept B1, Turn.refl _ _ _, Moved.refl _ _⟩, s0, hS.kept B1, by omega, by have := hw.lt; omega, fun k hk e => by have := hw.own_lt k hk; omega, hfar⟩
  have HB := Lib.hid B1
  have hbase : b < w.heap.size := hw.lt
  have HBS := Lib.hid hbase
  have HLN := Lib.hid hlen
  clear b1 b2 b3 b4 b5 b6 b7 b8 b9 hc ht0 ht1 hnt hde hn hbl hw hS hfar B1 s0 sz hz hns hbase hlen
  unfold repV
  unfold tkV at HPT
  have q := rep_at HP0.out.box
  obtain ⟨q0, q1, q2, q3, q4, q5, q6, q7, q8, q9, q10, q11, q12, q13⟩ := q
  go_enter Try.func19, Try.ntmps19
  go_wp2_with fail
  generalize (w.alloc (.cells #[.int .i64 (c : Int), .int .i64 tm, .int .u64 (n1 : Int), .int .i64 (n2 : Int), .int .i64 (n3 : Int), .int .i64 (n4 : Int), .int .u64 (n5 : Int), .int .i64 (n6 : Int), .int .i64 (n7 : Int), .int .i64 (n8 : Int), .int .i64 (n9 : Int), .slice a n ca, .int .u64 (nt : Int), .int .i64 (de : Int)] 28)) = W0 at HP0 HB q0 q1 q2 q3 q4 q5 q6 q7 q8 q9 q10 q11 q12 q13 HSZ ⊢
  obtain ⟨v1, hw1, ht1, hm1⟩ := HP0.out.wr
  refine (num_oneG b base v1 c (bs ++ []) _ W0 HSZ.out.symm hw1 (by have := HBD.out; simp; omega) (by have := HBD.out; omega)).mono ?_
  rintro e W1 ⟨rfl, hwr⟩
  have HP1 := Lib.hid (HP0.out.go hw1 ht1 hm1 hwr)
  clear q0 q1 q2 q3 q4 q5 q6 q7 q8 q9 q10 q11 q12 q13 hw1 ht1 hm1 hwr
  obtain ⟨q0, q1, q2, q3, q4, q5, q6, q7, q8, q9, q10, q11, q12, q13⟩ := rep_at HP1.out.box
  go_wp2_with fail
  obtain ⟨v2, hw2, ht2, hm2⟩ := HP1.out.wr
  have hi := int_one b base v2 tm _ W1 hw2 (by have := HBD.out; have := num_len9 0 c (by omega); simp; omega) HBD.out.2.1.1 HBD.out.2.1.2
  refine hi.mono ?_
  rintro e W2 ⟨rfl, hwr⟩
  have HP2 := Lib.hid (HP1.out.go hw2 ht2 hm2 hwr)
  clear q0 q1 q2 q3 q4 q5 q6 q7 q8 q9 q10 q11 q12 q13 hw2 ht2 hm2 hwr hi
  obtain ⟨q0, q1, q2, q3, q4, q5, q6, q7, q8, q9, q10, q11, q12, q13⟩ := rep_at HP2.out.box
  go_wp2_with fail
  refine (HA.out _).mono ?_
  rintro e W3 ⟨rfl, hb⟩
  have HP3 := Lib.hid (HP2.out.kept hb)
  clear q0 q1 q2 q3 q4 q5 q6 q7 q8 q9 q10 q11 q12 q13 hb
  obtain ⟨q0, q1, q2, q3, q4, q5, q6, q7, q8, q9, q10, q11, q12, q13⟩ := rep_at HP3.out.box
  go_wp2_with fail
  obtain ⟨v3, hw3, ht3, hm3⟩ := HP3.out.wr
  have hi := flag_one b base v3 (!z) _ W3 hw3 (by have := HBD.out; have := num_len9 0 c (by omega); have := intB_len9 tm HBD.out.2.1.1 HBD.out.2.1.2; simp; omega)
  refine hi.mono ?_
  rintro e W4 ⟨rfl, hwr⟩
  have HP4 := Lib.hid (HP3.out.go hw3 ht3 hm3 hwr)
  clear q0 q1 q2 q3 q4 q5 q6 q7 q8 q9 q10 q11 q12 q13 hw3 ht3 hm3 hwr hi
  obtain ⟨q0, q1, q2, q3, q4, q5, q6, q7, q8, q9, q10, q11, q12, q13⟩ := rep_at HP4.out.box
  go_wp2_with fail
  refine (HA.out _).mono ?_
  rintro e W5 ⟨rfl, hb⟩
  have HP5 := Lib.hid (HP4.out.kept hb)
  have HAC : Hid ((bs ++ ([] ++ num 0 c ++ intB tm ++ flagB (!z))).length ≤ 1000027) := Lib.hid (by have := HBD.out; have := num_len9 0 c (by omega); have := intB_len9 tm HBD.out.2.1.1 HBD.out.2.1.2; have := flagB_len9 (!z); simp only [List.length_append, List.length_nil]; omega)
  clear q0 q1 q2 q3 q4 q5 q6 q7 q8 q9 q10 q11 q12 q13 hb
  obtain ⟨q0, q1, q2, q3, q4, q5, q6, q7, q8, q9, q10, q11, q12, q13⟩ := rep_at HP5.out.box
  cases z
  case false =>
    go_wp2_with fail
    obtain ⟨v6, hw6, ht6, hm6⟩ := HP5.out.wr
    refine (HPT.out v6 _ W5 (by have := HAC.out; omega) hw6).mono ?_
    rintro e W6 ⟨rfl, hwr⟩
    have HP6 := Lib.hid (HP5.out.go hw6 ht6 hm6 hwr)
    have HAC6 : Hid ((bs ++ ([] ++ num 0 c ++ intB tm ++ flagB (!false) ++ nums ns)).length ≤ 1000108) := Lib.hid (by have := HAC.out; have := HNS.out; simp only [List.length_append, List.length_nil] at *; omega)
    clear q0 q1 q2 q3 q4 q5 q6 q7 q8 q9 q10 q11 q12 q13 hw6 ht6 hm6 hwr
    obtain ⟨q0, q1, q2, q3, q4, q5, q6, q7, q8, q9, q10, q11, q12, q13⟩ := rep_at HP6.out.box
    go_wp2_with fail
    obtain ⟨v7, hw7, ht7, hm7⟩ := HP6.out.wr
    refine (num_oneG b base v7 n _ _ W6 rfl hw7 (by have := HAC6.out; omega) (by have := HBD.out; omega)).mono ?_
    rintro e W7 ⟨rfl, hwr⟩
    have HP7 := Lib.hid (HP6.out.go hw7 ht7 hm7 hwr)
    clear q0 q1 q2 q3 q4 q5 q6 q7 q8 q9 q10 q11 q12 q13 hw7 ht7 hm7 hwr
    obtain ⟨q0, q1, q2, q3, q4, q5, q6, q7, q8, q9, q10, q11, q12, q13⟩ := rep_at HP7.out.box
    go_wp2_with fail
    obtain ⟨v8, hw8, ht8, hm8⟩ := HP7.out.wr
    refine (num_wr b base v8 _ xs _ W7 hw8 (by have h1 := HAC6.out; have h2 := num_len9 0 n (by have := HBD.out; omega); simp only [List.length_append, List.length_nil] at h1 h2 ⊢; omega) (HP7.out.row.rv (by have := HBD.out; omega)) HX.out).mono ?_
    rintro e W8 ⟨rfl, hwr⟩
    have HP8 := Lib.hid (HP7.out.go hw8 ht8 hm8 hwr)
    clear q0 q1 q2 q3 q4 q5 q6 q7 q8 q9 q10 q11 q12 q13 hw8 ht8 hm8 hwr
    obtain ⟨q0, q1, q2, q3, q4, q5, q6, q7, q8, q9, q10, q11, q12, q13⟩ := rep_at HP8.out.box
    go_wp2_with fail
    obtain ⟨v9, hw9, ht9, hm9⟩ := HP8.out.wr
    refine (num_two b base v9 nt de _ W8 hw9 (by have := HAC6.out; have := HLN.out; have := HL.out; have := num_len9 0 n (by have := HBD.out; omega); have := HBD.out; simp only [List.length_append, List.length_nil] at *; omega) (by have := HBD.out; omega) (by have := HBD.out; omega)).mono ?_
    rintro e W9 ⟨rfl, hwr⟩
    have HP9 := Lib.hid (HP8.out.go hw9 ht9 hm9 hwr)
    clear q0 q1 q2 q3 q4 q5 q6 q7 q8 q9 q10 q11 q12 q13 hw9 ht9 hm9 hwr
    go_wp2_with fail
    go_end0
    have hh := HP9.out.wr
    refine ⟨rfl, ?_⟩
    have e : bs ++ repW c tm false ns xs nt de = bs ++ ([] ++ num 0 c ++ intB tm ++ flagB (!false) ++ nums ns ++ num 0 n ++ nums xs ++ (num 0 nt ++ num 0 de)) := by simp [repW, tkW, HL.out]
    rw [e]
    exact hh.after HB.out
  case true =>
    go_wp2_with fail
    obtain ⟨v7, hw7, ht7, hm7⟩ := HP5.out.wr
    refine (num_oneG b base v7 n _ _ W5 rfl hw7 (by have := HAC.out; omega) (by have := HBD.out; omega)).mono ?_
    rintro e W7 ⟨rfl, hwr⟩
    have HP7 := Lib.hid (HP5.out.go hw7 ht7 hm7 hwr)
    clear q0 q1 q2 q3 q4 q5 q6 q7 q8 q9 q10 q11 q12 q13 hw7 ht7 hm7 hwr
    obtain ⟨q0, q1, q2, q3, q4, q5, q6, q7, q8, q9, q10, q11, q12, q13⟩ := rep_at HP7.out.box
    go_wp2_with fail
    obtain ⟨v8, hw8, ht8, hm8⟩ := HP7.out.wr
    refine (num_wr b base v8 _ xs _ W7 hw8 (by have h1 := HAC.out; have h2 := num_len9 0 n (by have := HBD.out; omega); simp only [List.length_append, List.length_nil] at h1 h2 ⊢; omega) (HP7.out.row.rv (by have := HBD.out; omega)) HX.out).mono ?_
    rintro e W8 ⟨rfl, hwr⟩
    have HP8 := Lib.hid (HP7.out.go hw8 ht8 hm8 hwr)
    clear q0 q1 q2 q3 q4 q5 q6 q7 q8 q9 q10 q11 q12 q13 hw8 ht8 hm8 hwr
    obtain ⟨q0, q1, q2, q3, q4, q5, q6, q7, q8, q9, q10, q11, q12, q13⟩ := rep_at HP8.out.box
    go_wp2_with fail
    obtain ⟨v9, hw9, ht9, hm9⟩ := HP8.out.wr
    refine (num_two b base v9 nt de _ W8 hw9 (by have := HAC.out; have := HLN.out; have := HL.out; have := num_len9 0 n (by have := HBD.out; omega); have := HBD.out; simp only [List.length_append, List.length_nil] at *; omega) (by have := HBD.out; omega) (by have := HBD.out; omega)).mono ?_
    rintro e W9 ⟨rfl, hwr⟩
    have HP9 := Lib.hid (HP8.out.go hw9 ht9 hm9 hwr)
    clear q0 q1 q2 q3 q4 q5 q6 q7 q8 q9 q10 q11 q12 q13 hw9 ht9 hm9 hwr
    go_wp2_with fail
    go_end0
    have hh := HP9.out.wr
    refine ⟨rfl, ?_⟩
    have e : bs ++ repW c tm true ns xs nt de = bs ++ ([] ++ num 0 c ++ intB tm ++ flagB (!true) ++ num 0 n ++ nums xs ++ (num 0 nt ++ num 0 de)) := by simp [repW, tkW, HL.out]
    rw [e]
    exact hh.after HB.out
end Go.Proofs.Ytnhaakdjijjinaa

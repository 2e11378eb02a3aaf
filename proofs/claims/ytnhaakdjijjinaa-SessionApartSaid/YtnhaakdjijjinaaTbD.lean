/- Tickets: the reference's Read. -/
import Derived.Test.YtnhaakdjijjinaaNbA
import Derived.Test.YtnhaakdjijjinaaTbZ
import Derived.Test.YtnhaakdjijjinaaTbC
namespace Go.Proofs.Ytnhaakdjijjinaa
open Go.RowKit
/-- No byte lies in these cells. -/
def NoU8 (C : Array Value) : Prop := ∀ (o : Nat) (c : Int), C[o]? ≠ some (.int .u8 c)
theorem RB.noU8 {w w' : World} {v : Value} {ds : List Nat} {N : Nat} {C : Array Value} {t : TypeId} (h2 : RB w v ds) (k1 : w.heap[N]? = some (.cells C t (0, 0))) (hC : NoU8 C) (hb : ∀ k, k ≠ N → w'.heap[k]? = w.heap[k]?) : RB w' v ds := by
  obtain ⟨g1, g2, g3⟩ := h2
  refine ⟨g1, g2, ?_⟩
  rcases g3 with g3 | ⟨x, cap, hv, ha, hm, hc⟩
  · exact .inl g3
  · refine .inr ⟨x, cap, hv, ha, hm, fun i hi => ?_⟩
    have hb' : (x.add i).block ≠ N := by
      intro e
      have hci := hc i hi
      obtain ⟨e2, _⟩ := cell_spot hci
      rw [e2, e] at hci
      unfold World.cell? at hci
      simp only [k1] at hci
      exact hC (x.add i).off _ (by simpa using hci)
    rw [World.cell?_of_block (hb _ hb')]
    exact hc i hi
theorem RF.noU8 {w w' : World} {b : Nat} {ds : List Nat} {bad : Bool} {N : Nat} {C : Array Value} {t : TypeId} (h : RF w b ds bad) (k1 : w.heap[N]? = some (.cells C t (0, 0))) (hC : NoU8 C) (hb : ∀ k, k ≠ N → w'.heap[k]? = w.heap[k]?) (hN : b ≠ N) : RF w' b ds bad := by
  obtain ⟨v, h1, h2, h3, h4⟩ := h
  exact ⟨v, (hb b hN).trans h1, h2.noU8 k1 hC hb, h3, h4⟩
theorem noU8_nine (k1 k2 k3 k4 k5 k6 k7 k8 k9 : IntKind) (x1 x2 x3 x4 x5 x6 x7 x8 x9 : Int) (h : ∀ k ∈ [k1, k2, k3, k4, k5, k6, k7, k8, k9], k ≠ .u8) : NoU8 #[.int k1 x1, .int k2 x2, .int k3 x3, .int k4 x4, .int k5 x5, .int k6 x6, .int k7 x7, .int k8 x8, .int k9 x9] := by
  intro o c e
  simp only [List.mem_cons, List.not_mem_nil, or_false, forall_eq_or_imp, forall_eq] at h
  obtain ⟨h1, h2, h3, h4, h5, h6, h7, h8, h9⟩ := h
  rcases o with _ | _ | _ | _ | _ | _ | _ | _ | _ | o
  all_goals simp at e
  · exact h1 e.1
  · exact h2 e.1
  · exact h3 e.1
  · exact h4 e.1
  · exact h5 e.1
  · exact h6 e.1
  · exact h7 e.1
  · exact h8 e.1
  · exact h9 e.1
/-- The other reader on the way, with the two boxes of Read. -/
structure RfS (w0 w : World) (T b : Nat) (ds : List Nat) (bad : Bool) (C : Array Value) : Prop where
  rf : RF w b ds bad
  z : w.heap[T]? = some (.cells #[.int .u64 0, .int .i64 0, .int .i64 0, .int .i64 0, .int .u64 0, .int .i64 0, .int .i64 0, .int .i64 0, .int .i64 0] 25 (0, 0))
  c : w.heap[T + 1]? = some (.cells C 25 (0, 0))
  ne : b < T
  hT : w0.heap.size ≤ T
  rd : Rd b w0 w
theorem RfS.call {w0 w w' : World} {T b : Nat} {ds ds' : List Nat} {bad bad' : Bool} {C : Array Value} (h : RfS w0 w T b ds bad C) (hr : RF w' b ds' bad') (ht : Rd b w w') : RfS w0 w' T b ds' bad' C :=
  ⟨hr, ht.keep h.z (by have := h.ne; omega), ht.keep h.c (by have := h.ne; omega), h.ne, h.hT, h.rd.trans ht⟩
theorem RfS.below {w0 w w' : World} {T b : Nat} {ds : List Nat} {bad : Bool} {C : Array Value} (h : RfS w0 w T b ds bad C) (hb : Below w.heap.size w w') : RfS w0 w' T b ds bad C :=
  ⟨h.rf.kept hb, ex_below h.z hb, ex_below h.c hb, h.ne, h.hT, h.rd.trans (Rd.below hb)⟩
theorem RfS.set {w0 w : World} {T b : Nat} {ds : List Nat} {bad : Bool} {C C' : Array Value} (h : RfS w0 w T b ds bad C) (hC : NoU8 C) (k : Nat) (y : Value) (e : C.setIfInBounds k y = C') : RfS w0 (w.setCell ⟨T + 1, k, none⟩ y) T b ds bad C' := by
  have ho : ∀ j, j ≠ T + 1 → (w.setCell ⟨T + 1, k, none⟩ y).heap[j]? = w.heap[j]? := fun j hj => Below.heap_setCell _ _ _ _ (by exact hj)
  have hne := h.ne
  exact ⟨h.rf.noU8 h.c hC ho (by omega), (ho T (by omega)).trans h.z, e ▸ heap_put h.c k y, h.ne, h.hT, h.rd.new (by have := h.hT; omega) k y⟩
theorem RfS.at {w0 w : World} {T b : Nat} {ds : List Nat} {bad : Bool} {C : Array Value} (h : RfS w0 w T b ds bad C) (k : Nat) (y : Value) (e : C[k]? = some y) : w.cell? ⟨T + 1, k, none⟩ = some y := by
  rw [cells_heap h.c k]; exact e
theorem RfS.fr {w0 w : World} {T b : Nat} {ds : List Nat} {bad : Bool} {C : Array Value} (h : RfS w0 w T b ds bad C) (k : Nat) : w.frozen? ⟨T + 1, k, none⟩ = false := by
  simp [World.frozen?, h.c]
set_option maxRecDepth 100000 in
set_option maxHeartbeats 16000000 in
theorem rread_any (b : Nat) (ds : List Nat) (bad : Bool) (w : World) (hr : RF w b ds bad) (ok : Bool) (hok : tkOk ds = ok) :
    Calls Try.prog 67 #[.pointer (some ⟨b, 0, none⟩)] w fun e w' => e = .returned (.tuple #[if ok = true then (nine ds).t else tkV 0 0 0 0 0 0 0 0 0, .bool ok]) ∧ RF w' b (if ok = true then nineR ds else []) (!ok) ∧ Rd b w w' := by
  have hbl := hr.lt
  obtain ⟨B2, s0, s1, sz⟩ := box2 w #[.int .u64 0, .int .i64 0, .int .i64 0, .int .i64 0, .int .u64 0, .int .i64 0, .int .i64 0, .int .i64 0, .int .i64 0] #[.int .u64 0, .int .i64 0, .int .i64 0, .int .i64 0, .int .u64 0, .int .i64 0, .int .i64 0, .int .i64 0, .int .i64 0] 25 25
  have HS0 : Hid (RfS w ((w.alloc (.cells #[.int .u64 0, .int .i64 0, .int .i64 0, .int .i64 0, .int .u64 0, .int .i64 0, .int .i64 0, .int .i64 0, .int .i64 0] 25)).alloc (.cells #[.int .u64 0, .int .i64 0, .int .i64 0, .int .i64 0, .int .u64 0, .int .i64 0, .int .i64 0, .int .i64 0, .int .i64 0] 25)) w.heap.size b ds bad #[.int .u64 0, .int .i64 0, .int .i64 0, .int .i64 0, .int .u64 0, .int .i64 0, .int .i64 0, .int .i64 0, .int .i64 0]) := Lib.hid ⟨hr.kept B2, s0, s1, hbl, Nat.le_refl _, Rd.below B2⟩
  have HC0 : Hid (∀ W bad, RF W b ds bad → Calls Try.prog 64 #[.pointer (some ⟨b, 0, none⟩), .int .u64 18446744073709551615] W fun e w' => e = .returned (.int .u64 ((nN 18446744073709551615 ds : Nat) : Int)) ∧ RF w' b (nR 18446744073709551615 ds) (nB 18446744073709551615 ds) ∧ Rd b W w') := Lib.hid (fun W bad h => num_rf1 b 18446744073709551615 ds bad W h)
  obtain ⟨n1, hn1⟩ : ∃ x, nN 18446744073709551615 ds = x := ⟨_, rfl⟩
  obtain ⟨d1, hd1⟩ : ∃ x, nR 18446744073709551615 ds = x := ⟨_, rfl⟩
  obtain ⟨q1, hq1⟩ : ∃ x, nB 18446744073709551615 ds = x := ⟨_, rfl⟩
  rw [hn1, hd1, hq1] at HC0
  have HC1 : Hid (∀ W bad, RF W b d1 bad → Calls Try.prog 64 #[.pointer (some ⟨b, 0, none⟩), .int .u64 15] W fun e w' => e = .returned (.int .u64 ((nN 15 d1 : Nat) : Int)) ∧ RF w' b (nR 15 d1) (nB 15 d1) ∧ Rd b W w') := Lib.hid (fun W bad h => num_rf1 b 15 d1 bad W h)
  obtain ⟨n2, hn2⟩ : ∃ x, nN 15 d1 = x := ⟨_, rfl⟩
  obtain ⟨d2, hd2⟩ : ∃ x, nR 15 d1 = x := ⟨_, rfl⟩
  obtain ⟨q2, hq2⟩ : ∃ x, nB 15 d1 = x := ⟨_, rfl⟩
  rw [hn2, hd2, hq2] at HC1
  have e1 : IntKind.i64.wrap (n2 : Int) = (n2 : Int) := IntWalk.i64_in _ (by have := nN_le 15 d1; omega)
  have HC2 : Hid (∀ W bad, RF W b d2 bad → Calls Try.prog 64 #[.pointer (some ⟨b, 0, none⟩), .int .u64 4] W fun e w' => e = .returned (.int .u64 ((nN 4 d2 : Nat) : Int)) ∧ RF w' b (nR 4 d2) (nB 4 d2) ∧ Rd b W w') := Lib.hid (fun W bad h => num_rf1 b 4 d2 bad W h)
  obtain ⟨n3, hn3⟩ : ∃ x, nN 4 d2 = x := ⟨_, rfl⟩
  obtain ⟨d3, hd3⟩ : ∃ x, nR 4 d2 = x := ⟨_, rfl⟩
  obtain ⟨q3, hq3⟩ : ∃ x, nB 4 d2 = x := ⟨_, rfl⟩
  rw [hn3, hd3, hq3] at HC2
  have e2 : IntKind.i64.wrap (n3 : Int) = (n3 : Int) := IntWalk.i64_in _ (by have := nN_le 4 d2; omega)
  have HC3 : Hid (∀ W bad, RF W b d3 bad → Calls Try.prog 64 #[.pointer (some ⟨b, 0, none⟩), .int .u64 5] W fun e w' => e = .returned (.int .u64 ((nN 5 d3 : Nat) : Int)) ∧ RF w' b (nR 5 d3) (nB 5 d3) ∧ Rd b W w') := Lib.hid (fun W bad h => num_rf1 b 5 d3 bad W h)
  obtain ⟨n4, hn4⟩ : ∃ x, nN 5 d3 = x := ⟨_, rfl⟩
  obtain ⟨d4, hd4⟩ : ∃ x, nR 5 d3 = x := ⟨_, rfl⟩
  obtain ⟨q4, hq4⟩ : ∃ x, nB 5 d3 = x := ⟨_, rfl⟩
  rw [hn4, hd4, hq4] at HC3
  have e3 : IntKind.i64.wrap (n4 : Int) = (n4 : Int) := IntWalk.i64_in _ (by have := nN_le 5 d3; omega)
  have HC4 : Hid (∀ W bad, RF W b d4 bad → Calls Try.prog 64 #[.pointer (some ⟨b, 0, none⟩), .int .u64 1152921504606846976] W fun e w' => e = .returned (.int .u64 ((nN 1152921504606846976 d4 : Nat) : Int)) ∧ RF w' b (nR 1152921504606846976 d4) (nB 1152921504606846976 d4) ∧ Rd b W w') := Lib.hid (fun W bad h => num_rf1 b 1152921504606846976 d4 bad W h)
  obtain ⟨n5, hn5⟩ : ∃ x, nN 1152921504606846976 d4 = x := ⟨_, rfl⟩
  obtain ⟨d5, hd5⟩ : ∃ x, nR 1152921504606846976 d4 = x := ⟨_, rfl⟩
  obtain ⟨q5, hq5⟩ : ∃ x, nB 1152921504606846976 d4 = x := ⟨_, rfl⟩
  rw [hn5, hd5, hq5] at HC4
  have HC5 : Hid (∀ W bad, RF W b d5 bad → Calls Try.prog 64 #[.pointer (some ⟨b, 0, none⟩), .int .u64 1125899906842624] W fun e w' => e = .returned (.int .u64 ((nN 1125899906842624 d5 : Nat) : Int)) ∧ RF w' b (nR 1125899906842624 d5) (nB 1125899906842624 d5) ∧ Rd b W w') := Lib.hid (fun W bad h => num_rf1 b 1125899906842624 d5 bad W h)
  obtain ⟨n6, hn6⟩ : ∃ x, nN 1125899906842624 d5 = x := ⟨_, rfl⟩
  obtain ⟨d6, hd6⟩ : ∃ x, nR 1125899906842624 d5 = x := ⟨_, rfl⟩
  obtain ⟨q6, hq6⟩ : ∃ x, nB 1125899906842624 d5 = x := ⟨_, rfl⟩
  rw [hn6, hd6, hq6] at HC5
  have e5 : IntKind.i64.wrap (n6 : Int) = (n6 : Int) := IntWalk.i64_in _ (by have := nN_le 1125899906842624 d5; omega)
  have HC6 : Hid (∀ W bad, RF W b d6 bad → Calls Try.prog 64 #[.pointer (some ⟨b, 0, none⟩), .int .u64 1125899906842624] W fun e w' => e = .returned (.int .u64 ((nN 1125899906842624 d6 : Nat) : Int)) ∧ RF w' b (nR 1125899906842624 d6) (nB 1125899906842624 d6) ∧ Rd b W w') := Lib.hid (fun W bad h => num_rf1 b 1125899906842624 d6 bad W h)
  obtain ⟨n7, hn7⟩ : ∃ x, nN 1125899906842624 d6 = x := ⟨_, rfl⟩
  obtain ⟨d7, hd7⟩ : ∃ x, nR 1125899906842624 d6 = x := ⟨_, rfl⟩
  obtain ⟨q7, hq7⟩ : ∃ x, nB 1125899906842624 d6 = x := ⟨_, rfl⟩
  rw [hn7, hd7, hq7] at HC6
  have e6 : IntKind.i64.wrap (n7 : Int) = (n7 : Int) := IntWalk.i64_in _ (by have := nN_le 1125899906842624 d6; omega)
  have HC7 : Hid (∀ W bad, RF W b d7 bad → Calls Try.prog 64 #[.pointer (some ⟨b, 0, none⟩), .int .u64 1125899906842624] W fun e w' => e = .returned (.int .u64 ((nN 1125899906842624 d7 : Nat) : Int)) ∧ RF w' b (nR 1125899906842624 d7) (nB 1125899906842624 d7) ∧ Rd b W w') := Lib.hid (fun W bad h => num_rf1 b 1125899906842624 d7 bad W h)
  obtain ⟨n8, hn8⟩ : ∃ x, nN 1125899906842624 d7 = x := ⟨_, rfl⟩
  obtain ⟨d8, hd8⟩ : ∃ x, nR 1125899906842624 d7 = x := ⟨_, rfl⟩
  obtain ⟨q8, hq8⟩ : ∃ x, nB 1125899906842624 d7 = x := ⟨_, rfl⟩
  rw [hn8, hd8, hq8] at HC7
  have e7 : IntKind.i64.wrap (n8 : Int) = (n8 : Int) := IntWalk.i64_in _ (by have := nN_le 1125899906842624 d7; omega)
  have HC8 : Hid (∀ W bad, RF W b d8 bad → Calls Try.prog 64 #[.pointer (some ⟨b, 0, none⟩), .int .u64 2147483648] W fun e w' => e = .returned (.int .u64 ((nN 2147483648 d8 : Nat) : Int)) ∧ RF w' b (nR 2147483648 d8) (nB 2147483648 d8) ∧ Rd b W w') := Lib.hid (fun W bad h => num_rf1 b 2147483648 d8 bad W h)
  obtain ⟨n9, hn9⟩ : ∃ x, nN 2147483648 d8 = x := ⟨_, rfl⟩
  obtain ⟨d9, hd9⟩ : ∃ x, nR 2147483648 d8 = x := ⟨_, rfl⟩
  obtain ⟨q9, hq9⟩ : ∃ x, nB 2147483648 d8 = x := ⟨_, rfl⟩
  rw [hn9, hd9, hq9] at HC8
  have e8 : IntKind.i64.wrap (n9 : Int) = (n9 : Int) := IntWalk.i64_in _ (by have := nN_le 2147483648 d8; omega)
  have HOK : Hid ((!q9 && soundB (n2 : Int) n3 n4 n5 n6 n7 n8 n9) = ok ∧ (nine ds).t = tkV n1 n2 n3 n4 n5 n6 n7 n8 n9 ∧ nineR ds = d9) := Lib.hid (by
    rw [← hok]
    unfold tkOk nineB Nine.ok Nine.t nine nineR
    simp only [hn1, hd1, hq1, hn2, hd2, hq2, hn3, hd3, hq3, hn4, hd4, hq4, hn5, hd5, hq5, hn6, hd6, hq6, hn7, hd7, hq7, hn8, hd8, hq8, hn9, hd9, hq9, and_self])
  rw [HOK.out.2.1, HOK.out.2.2]
  clear hn1 hd1 hq1 hn2 hd2 hq2 hn3 hd3 hq3 hn4 hd4 hq4 hn5 hd5 hq5 hn6 hd6 hq6 hn7 hd7 hq7 hn8 hd8 hq8 hn9 hd9 hq9 hok hr B2 s0 s1 sz
  unfold tkV
  go_enter Try.func67, Try.ntmps67
  go_wp2_with fail
  generalize ((w.alloc (.cells #[.int .u64 0, .int .i64 0, .int .i64 0, .int .i64 0, .int .u64 0, .int .i64 0, .int .i64 0, .int .i64 0, .int .i64 0] 25)).alloc (.cells #[.int .u64 0, .int .i64 0, .int .i64 0, .int .i64 0, .int .u64 0, .int .i64 0, .int .i64 0, .int .i64 0, .int .i64 0] 25)) = W0 at HS0 ⊢
  refine (HC0.out _ _ HS0.out.rf).mono ?_
  rintro e W1 ⟨rfl, hs, ht⟩
  have HX1 := Lib.hid (HS0.out.call hs ht)
  have g0 := HX1.out.at 0 (.int .u64 0) rfl
  have f0 := HX1.out.fr 0
  have HS1 : Hid (RfS w (W1.setCell ⟨w.heap.size + 1, 0, none⟩ (.int .u64 (n1 : Int))) w.heap.size b d1 q1 #[.int .u64 (n1 : Int), .int .i64 0, .int .i64 0, .int .i64 0, .int .u64 0, .int .i64 0, .int .i64 0, .int .i64 0, .int .i64 0]) := Lib.hid (HX1.out.set (noU8_nine _ _ _ _ _ _ _ _ _ _ _ _ _ _ _ _ _ _ (by decide)) 0 (.int .u64 (n1 : Int)) rfl)
  clear hs ht HS0 HX1
  go_wp2_with fail
  generalize W1.setCell ⟨w.heap.size + 1, 0, none⟩ (.int .u64 (n1 : Int)) = V1 at HS1 ⊢
  clear g0 f0
  refine (HC1.out _ _ HS1.out.rf).mono ?_
  rintro e W2 ⟨rfl, hs, ht⟩
  have HX2 := Lib.hid (HS1.out.call hs ht)
  have g1 := HX2.out.at 1 (.int .i64 0) rfl
  have f1 := HX2.out.fr 1
  have HS2 : Hid (RfS w (W2.setCell ⟨w.heap.size + 1, 1, none⟩ (.int .i64 (n2 : Int))) w.heap.size b d2 q2 #[.int .u64 (n1 : Int), .int .i64 (n2 : Int), .int .i64 0, .int .i64 0, .int .u64 0, .int .i64 0, .int .i64 0, .int .i64 0, .int .i64 0]) := Lib.hid (HX2.out.set (noU8_nine _ _ _ _ _ _ _ _ _ _ _ _ _ _ _ _ _ _ (by decide)) 1 (.int .i64 (n2 : Int)) rfl)
  clear hs ht HS1 HX2
  go_wp2_with fail
  generalize W2.setCell ⟨w.heap.size + 1, 1, none⟩ (.int .i64 (n2 : Int)) = V2 at HS2 ⊢
  clear g1 f1
  refine (HC2.out _ _ HS2.out.rf).mono ?_
  rintro e W3 ⟨rfl, hs, ht⟩
  have HX3 := Lib.hid (HS2.out.call hs ht)
  have g2 := HX3.out.at 2 (.int .i64 0) rfl
  have f2 := HX3.out.fr 2
  have HS3 : Hid (RfS w (W3.setCell ⟨w.heap.size + 1, 2, none⟩ (.int .i64 (n3 : Int))) w.heap.size b d3 q3 #[.int .u64 (n1 : Int), .int .i64 (n2 : Int), .int .i64 (n3 : Int), .int .i64 0, .int .u64 0, .int .i64 0, .int .i64 0, .int .i64 0, .int .i64 0]) := Lib.hid (HX3.out.set (noU8_nine _ _ _ _ _ _ _ _ _ _ _ _ _ _ _ _ _ _ (by decide)) 2 (.int .i64 (n3 : Int)) rfl)
  clear hs ht HS2 HX3
  go_wp2_with fail
  generalize W3.setCell ⟨w.heap.size + 1, 2, none⟩ (.int .i64 (n3 : Int)) = V3 at HS3 ⊢
  clear g2 f2
  refine (HC3.out _ _ HS3.out.rf).mono ?_
  rintro e W4 ⟨rfl, hs, ht⟩
  have HX4 := Lib.hid (HS3.out.call hs ht)
  have g3 := HX4.out.at 3 (.int .i64 0) rfl
  have f3 := HX4.out.fr 3
  have HS4 : Hid (RfS w (W4.setCell ⟨w.heap.size + 1, 3, none⟩ (.int .i64 (n4 : Int))) w.heap.size b d4 q4 #[.int .u64 (n1 : Int), .int .i64 (n2 : Int), .int .i64 (n3 : Int), .int .i64 (n4 : Int), .int .u64 0, .int .i64 0, .int .i64 0, .int .i64 0, .int .i64 0]) := Lib.hid (HX4.out.set (noU8_nine _ _ _ _ _ _ _ _ _ _ _ _ _ _ _ _ _ _ (by decide)) 3 (.int .i64 (n4 : Int)) rfl)
  clear hs ht HS3 HX4
  go_wp2_with fail
  generalize W4.setCell ⟨w.heap.size + 1, 3, none⟩ (.int .i64 (n4 : Int)) = V4 at HS4 ⊢
  clear g3 f3
  refine (HC4.out _ _ HS4.out.rf).mono ?_
  rintro e W5 ⟨rfl, hs, ht⟩
  have HX5 := Lib.hid (HS4.out.call hs ht)
  have g4 := HX5.out.at 4 (.int .u64 0) rfl
  have f4 := HX5.out.fr 4
  have HS5 : Hid (RfS w (W5.setCell ⟨w.heap.size + 1, 4, none⟩ (.int .u64 (n5 : Int))) w.heap.size b d5 q5 #[.int .u64 (n1 : Int), .int .i64 (n2 : Int), .int .i64 (n3 : Int), .int .i64 (n4 : Int), .int .u64 (n5 : Int), .int .i64 0, .int .i64 0, .int .i64 0, .int .i64 0]) := Lib.hid (HX5.out.set (noU8_nine _ _ _ _ _ _ _ _ _ _ _ _ _ _ _ _ _ _ (by decide)) 4 (.int .u64 (n5 : Int)) rfl)
  clear hs ht HS4 HX5
  go_wp2_with fail
  generalize W5.setCell ⟨w.heap.size + 1, 4, none⟩ (.int .u64 (n5 : Int)) = V5 at HS5 ⊢
  clear g4 f4
  refine (HC5.out _ _ HS5.out.rf).mono ?_
  rintro e W6 ⟨rfl, hs, ht⟩
  have HX6 := Lib.hid (HS5.out.call hs ht)
  have g5 := HX6.out.at 5 (.int .i64 0) rfl
  have f5 := HX6.out.fr 5
  have HS6 : Hid (RfS w (W6.setCell ⟨w.heap.size + 1, 5, none⟩ (.int .i64 (n6 : Int))) w.heap.size b d6 q6 #[.int .u64 (n1 : Int), .int .i64 (n2 : Int), .int .i64 (n3 : Int), .int .i64 (n4 : Int), .int .u64 (n5 : Int), .int .i64 (n6 : Int), .int .i64 0, .int .i64 0, .int .i64 0]) := Lib.hid (HX6.out.set (noU8_nine _ _ _ _ _ _ _ _ _ _ _ _ _ _ _ _ _ _ (by decide)) 5 (.int .i64 (n6 : Int)) rfl)
  clear hs ht HS5 HX6
  go_wp2_with fail
  generalize W6.setCell ⟨w.heap.size + 1, 5, none⟩ (.int .i64 (n6 : Int)) = V6 at HS6 ⊢
  clear g5 f5
  refine (HC6.out _ _ HS6.out.rf).mono ?_
  rintro e W7 ⟨rfl, hs, ht⟩
  have HX7 := Lib.hid (HS6.out.call hs ht)
  have g6 := HX7.out.at 6 (.int .i64 0) rfl
  have f6 := HX7.out.fr 6
  have HS7 : Hid (RfS w (W7.setCell ⟨w.heap.size + 1, 6, none⟩ (.int .i64 (n7 : Int))) w.heap.size b d7 q7 #[.int .u64 (n1 : Int), .int .i64 (n2 : Int), .int .i64 (n3 : Int), .int .i64 (n4 : Int), .int .u64 (n5 : Int), .int .i64 (n6 : Int), .int .i64 (n7 : Int), .int .i64 0, .int .i64 0]) := Lib.hid (HX7.out.set (noU8_nine _ _ _ _ _ _ _ _ _ _ _ _ _ _ _ _ _ _ (by decide)) 6 (.int .i64 (n7 : Int)) rfl)
  clear hs ht HS6 HX7
  go_wp2_with fail
  generalize W7.setCell ⟨w.heap.size + 1, 6, none⟩ (.int .i64 (n7 : Int)) = V7 at HS7 ⊢
  clear g6 f6
  refine (HC7.out _ _ HS7.out.rf).mono ?_
  rintro e W8 ⟨rfl, hs, ht⟩
  have HX8 := Lib.hid (HS7.out.call hs ht)
  have g7 := HX8.out.at 7 (.int .i64 0) rfl
  have f7 := HX8.out.fr 7
  have HS8 : Hid (RfS w (W8.setCell ⟨w.heap.size + 1, 7, none⟩ (.int .i64 (n8 : Int))) w.heap.size b d8 q8 #[.int .u64 (n1 : Int), .int .i64 (n2 : Int), .int .i64 (n3 : Int), .int .i64 (n4 : Int), .int .u64 (n5 : Int), .int .i64 (n6 : Int), .int .i64 (n7 : Int), .int .i64 (n8 : Int), .int .i64 0]) := Lib.hid (HX8.out.set (noU8_nine _ _ _ _ _ _ _ _ _ _ _ _ _ _ _ _ _ _ (by decide)) 7 (.int .i64 (n8 : Int)) rfl)
  clear hs ht HS7 HX8
  go_wp2_with fail
  generalize W8.setCell ⟨w.heap.size + 1, 7, none⟩ (.int .i64 (n8 : Int)) = V8 at HS8 ⊢
  clear g7 f7
  refine (HC8.out _ _ HS8.out.rf).mono ?_
  rintro e W9 ⟨rfl, hs, ht⟩
  have HX9 := Lib.hid (HS8.out.call hs ht)
  have g8 := HX9.out.at 8 (.int .i64 0) rfl
  have f8 := HX9.out.fr 8
  have HS9 : Hid (RfS w (W9.setCell ⟨w.heap.size + 1, 8, none⟩ (.int .i64 (n9 : Int))) w.heap.size b d9 q9 #[.int .u64 (n1 : Int), .int .i64 (n2 : Int), .int .i64 (n3 : Int), .int .i64 (n4 : Int), .int .u64 (n5 : Int), .int .i64 (n6 : Int), .int .i64 (n7 : Int), .int .i64 (n8 : Int), .int .i64 (n9 : Int)]) := Lib.hid (HX9.out.set (noU8_nine _ _ _ _ _ _ _ _ _ _ _ _ _ _ _ _ _ _ (by decide)) 8 (.int .i64 (n9 : Int)) rfl)
  clear hs ht HS8 HX9
  have gb := HS9.out.rf.bad_at
  obtain ⟨c0, c1, c2, c3, c4, c5, c6, c7, c8⟩ := nine_at HS9.out.c
  have HSO := Lib.hid (rsound_any n1 n2 n3 n4 n5 n6 n7 n8 n9 (W9.setCell ⟨w.heap.size + 1, 8, none⟩ (.int .i64 (n9 : Int))))
  unfold tkV at HSO
  cases q9
  case true =>
    have hokf : ok = false := by rw [← HOK.out.1]; rfl
    subst hokf
    simp only [Bool.false_eq_true, if_false, Bool.not_false]
    go_wp2_with (go_at_call 68; refine (fail_rf b _ _ _ HS9.out.rf).mono ?_; rintro e W10 ⟨rfl, hr, ht⟩; have HR10 := Lib.hid (And.intro hr (HS9.out.rd.trans ht)); have HZ10 := Lib.hid (ht.keep HS9.out.z (by have := HS9.out.ne; omega)); have HNE := Lib.hid HS9.out.ne; clear hr ht; obtain ⟨y0, y1, y2, y3, y4, y5, y6, y7, y8⟩ := nine_fr HZ10.out; obtain ⟨z0, z1, z2, z3, z4, z5, z6, z7, z8⟩ := nine_at HZ10.out)
    obtain ⟨hp9, hoth, -⟩ := put9_at HZ10.out (.int .u64 0) (.int .i64 0) (.int .i64 0) (.int .i64 0) (.int .u64 0) (.int .i64 0) (.int .i64 0) (.int .i64 0) (.int .i64 0)
    obtain ⟨p0, p1, p2, p3, p4, p5, p6, p7, p8⟩ := nine_at hp9
    have hrr := HR10.out.1.noU8 HZ10.out (noU8_nine _ _ _ _ _ _ _ _ _ _ _ _ _ _ _ _ _ _ (by decide)) hoth (by have := HNE.out; omega)
    have hrd := HR10.out.2.put9 (Nat.le_refl w.heap.size) (.int .u64 0) (.int .i64 0) (.int .i64 0) (.int .i64 0) (.int .u64 0) (.int .i64 0) (.int .i64 0) (.int .i64 0) (.int .i64 0)
    unfold put9 at p0 p1 p2 p3 p4 p5 p6 p7 p8 hrr hrd
    exact bodyPost_ret (v := .tuple #[.agg #[.int .u64 0, .int .i64 0, .int .i64 0, .int .i64 0, .int .u64 0, .int .i64 0, .int .i64 0, .int .i64 0, .int .i64 0], .bool false]) (by simp [results, Try.results67, go_sem, p0, p1, p2, p3, p4, p5, p6, p7, p8]) rfl ⟨rfl, hrr, hrd⟩
  case false =>
    have hokf : soundB (n2 : Int) n3 n4 n5 n6 n7 n8 n9 = ok := HOK.out.1
    rw [hokf] at HSO
    clear hokf
    cases ok
    case false =>
      simp only [Bool.false_eq_true, if_false, Bool.not_false]
      go_wp2_with first
        | (go_at_call 47; refine HSO.out.mono ?_; rintro e W5 ⟨rfl, hb⟩; have HX9 := Lib.hid (HS9.out.below hb); clear hb)
        | (go_at_call 68; refine (fail_rf b _ _ _ HX9.out.rf).mono ?_; rintro e W10 ⟨rfl, hr, ht⟩; have HR10 := Lib.hid (And.intro hr (HX9.out.rd.trans ht)); have HZ10 := Lib.hid (ht.keep HX9.out.z (by have := HX9.out.ne; omega)); have HNE := Lib.hid HX9.out.ne; clear hr ht; obtain ⟨y0, y1, y2, y3, y4, y5, y6, y7, y8⟩ := nine_fr HZ10.out; obtain ⟨z0, z1, z2, z3, z4, z5, z6, z7, z8⟩ := nine_at HZ10.out)
      obtain ⟨hp9, hoth, -⟩ := put9_at HZ10.out (.int .u64 0) (.int .i64 0) (.int .i64 0) (.int .i64 0) (.int .u64 0) (.int .i64 0) (.int .i64 0) (.int .i64 0) (.int .i64 0)
      obtain ⟨p0, p1, p2, p3, p4, p5, p6, p7, p8⟩ := nine_at hp9
      have hrr := HR10.out.1.noU8 HZ10.out (noU8_nine _ _ _ _ _ _ _ _ _ _ _ _ _ _ _ _ _ _ (by decide)) hoth (by have := HNE.out; omega)
      have hrd := HR10.out.2.put9 (Nat.le_refl w.heap.size) (.int .u64 0) (.int .i64 0) (.int .i64 0) (.int .i64 0) (.int .u64 0) (.int .i64 0) (.int .i64 0) (.int .i64 0) (.int .i64 0)
      unfold put9 at p0 p1 p2 p3 p4 p5 p6 p7 p8 hrr hrd
      exact bodyPost_ret (v := .tuple #[.agg #[.int .u64 0, .int .i64 0, .int .i64 0, .int .i64 0, .int .u64 0, .int .i64 0, .int .i64 0, .int .i64 0, .int .i64 0], .bool false]) (by simp [results, Try.results67, go_sem, p0, p1, p2, p3, p4, p5, p6, p7, p8]) rfl ⟨rfl, hrr, hrd⟩
    case true =>
      simp only [if_true, Bool.not_true]
      go_wp2_with first
        | (go_at_call 47; refine HSO.out.mono ?_; rintro e W10 ⟨rfl, hb⟩; have HX9 := Lib.hid (HS9.out.below hb); have HR10 := Lib.hid (And.intro HX9.out.rf HX9.out.rd); have HZ10 := Lib.hid HX9.out.z; have HNE := Lib.hid HX9.out.ne; clear hb c0 c1 c2 c3 c4 c5 c6 c7 c8 gb g8 f8; obtain ⟨c0, c1, c2, c3, c4, c5, c6, c7, c8⟩ := nine_at HX9.out.c; obtain ⟨y0, y1, y2, y3, y4, y5, y6, y7, y8⟩ := nine_fr HZ10.out; obtain ⟨z0, z1, z2, z3, z4, z5, z6, z7, z8⟩ := nine_at HZ10.out)
      obtain ⟨hp9, hoth, -⟩ := put9_at HZ10.out (.int .u64 n1) (.int .i64 n2) (.int .i64 n3) (.int .i64 n4) (.int .u64 n5) (.int .i64 n6) (.int .i64 n7) (.int .i64 n8) (.int .i64 n9)
      obtain ⟨p0, p1, p2, p3, p4, p5, p6, p7, p8⟩ := nine_at hp9
      have hrr := HR10.out.1.noU8 HZ10.out (noU8_nine _ _ _ _ _ _ _ _ _ _ _ _ _ _ _ _ _ _ (by decide)) hoth (by have := HNE.out; omega)
      have hrd := HR10.out.2.put9 (Nat.le_refl w.heap.size) (.int .u64 n1) (.int .i64 n2) (.int .i64 n3) (.int .i64 n4) (.int .u64 n5) (.int .i64 n6) (.int .i64 n7) (.int .i64 n8) (.int .i64 n9)
      unfold put9 at p0 p1 p2 p3 p4 p5 p6 p7 p8 hrr hrd
      exact bodyPost_ret (v := .tuple #[.agg #[.int .u64 n1, .int .i64 n2, .int .i64 n3, .int .i64 n4, .int .u64 n5, .int .i64 n6, .int .i64 n7, .int .i64 n8, .int .i64 n9], .bool true]) (by simp [results, Try.results67, go_sem, p0, p1, p2, p3, p4, p5, p6, p7, p8]) rfl ⟨rfl, hrr, hrd⟩
end Go.Proofs.Ytnhaakdjijjinaa

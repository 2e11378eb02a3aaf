/- Tickets: Read. -/
import Derived.Test.YtnhaakdjijjinaaTbZ
import Derived.RangeFuncRecord
import Derived.Deep.Cut
import Derived.Deep.CutRange
namespace Go.Proofs.Ytnhaakdjijjinaa
open Go.RowKit
/-- The ticket's box filled: what stays. -/
theorem put_end {w W : World} {T b : Nat} {ds : List Nat} {bad : Bool} (hs : RdS w W w.heap.size b ds bad) (ht : W.heap[T]? = some (.cells #[.int .u64 0, .int .i64 0, .int .i64 0, .int .i64 0, .int .u64 0, .int .i64 0, .int .i64 0, .int .i64 0, .int .i64 0] 25 (0, 0))) (htn : T ≠ b ∧ w.heap.size + 1 < T) (hz : W.heap[w.heap.size + 1]? = some (.cells #[.int .u64 0, .int .i64 0, .int .i64 0, .int .i64 0, .int .u64 0, .int .i64 0, .int .i64 0, .int .i64 0, .int .i64 0] 25 (0, 0))) (n1 n2 n3 n4 n5 n6 n7 n8 n9 : Int) :
    (((((((((W.setCell ⟨T, 0, none⟩ (.int .u64 n1)).setCell ⟨T, 1, none⟩ (.int .i64 n2)).setCell ⟨T, 2, none⟩ (.int .i64 n3)).setCell ⟨T, 3, none⟩ (.int .i64 n4)).setCell ⟨T, 4, none⟩ (.int .u64 n5)).setCell ⟨T, 5, none⟩ (.int .i64 n6)).setCell ⟨T, 6, none⟩ (.int .i64 n7)).setCell ⟨T, 7, none⟩ (.int .i64 n8)).setCell ⟨T, 8, none⟩ (.int .i64 n9)).cell? ⟨w.heap.size, 0, none⟩ = some (.pointer (some ⟨b, 0, none⟩)) ∧ Hid ((((((((((W.setCell ⟨T, 0, none⟩ (.int .u64 n1)).setCell ⟨T, 1, none⟩ (.int .i64 n2)).setCell ⟨T, 2, none⟩ (.int .i64 n3)).setCell ⟨T, 3, none⟩ (.int .i64 n4)).setCell ⟨T, 4, none⟩ (.int .u64 n5)).setCell ⟨T, 5, none⟩ (.int .i64 n6)).setCell ⟨T, 6, none⟩ (.int .i64 n7)).setCell ⟨T, 7, none⟩ (.int .i64 n8)).setCell ⟨T, 8, none⟩ (.int .i64 n9)).heap[T]? = some (.cells #[.int .u64 n1, .int .i64 n2, .int .i64 n3, .int .i64 n4, .int .u64 n5, .int .i64 n6, .int .i64 n7, .int .i64 n8, .int .i64 n9] 25 (0, 0)) ∧ RdS w (((((((((W.setCell ⟨T, 0, none⟩ (.int .u64 n1)).setCell ⟨T, 1, none⟩ (.int .i64 n2)).setCell ⟨T, 2, none⟩ (.int .i64 n3)).setCell ⟨T, 3, none⟩ (.int .i64 n4)).setCell ⟨T, 4, none⟩ (.int .u64 n5)).setCell ⟨T, 5, none⟩ (.int .i64 n6)).setCell ⟨T, 6, none⟩ (.int .i64 n7)).setCell ⟨T, 7, none⟩ (.int .i64 n8)).setCell ⟨T, 8, none⟩ (.int .i64 n9)) w.heap.size b ds bad ∧ (((((((((W.setCell ⟨T, 0, none⟩ (.int .u64 n1)).setCell ⟨T, 1, none⟩ (.int .i64 n2)).setCell ⟨T, 2, none⟩ (.int .i64 n3)).setCell ⟨T, 3, none⟩ (.int .i64 n4)).setCell ⟨T, 4, none⟩ (.int .u64 n5)).setCell ⟨T, 5, none⟩ (.int .i64 n6)).setCell ⟨T, 6, none⟩ (.int .i64 n7)).setCell ⟨T, 7, none⟩ (.int .i64 n8)).setCell ⟨T, 8, none⟩ (.int .i64 n9)).heap[w.heap.size + 1]? = some (.cells #[.int .u64 0, .int .i64 0, .int .i64 0, .int .i64 0, .int .u64 0, .int .i64 0, .int .i64 0, .int .i64 0, .int .i64 0] 25 (0, 0))) := by
  have h9 := put9_at ht (.int .u64 n1) (.int .i64 n2) (.int .i64 n3) (.int .i64 n4) (.int .u64 n5) (.int .i64 n6) (.int .i64 n7) (.int .i64 n8) (.int .i64 n9)
  have e1 := (World.cell?_of_block (a := ⟨w.heap.size, 0, none⟩) (h9.2.1 _ (by show w.heap.size ≠ T; omega))).trans (one_at hs.box)
  have e2 : RdS w (put9 W T (.int .u64 n1) (.int .i64 n2) (.int .i64 n3) (.int .i64 n4) (.int .u64 n5) (.int .i64 n6) (.int .i64 n7) (.int .i64 n8) (.int .i64 n9)) w.heap.size b ds bad := ⟨hs.rr.nine ht h9.2.1 (fun h => htn.1 h.symm), (h9.2.1 _ (by omega)).trans hs.box, hs.ne, hs.rd.put9 (by omega) _ _ _ _ _ _ _ _ _⟩
  have e3 := (h9.2.1 (w.heap.size + 1) (by omega)).trans hz
  have e4 := h9.1
  unfold put9 at e1 e2 e3 e4
  exact ⟨e1, Lib.hid ⟨e4, e2, e3⟩⟩
/-- The ticket's box made full. -/
theorem put_new {w W : World} {b : Nat} {ds : List Nat} {bad : Bool} (hs : RdS w W w.heap.size b ds bad) (htn : W.heap.size ≠ b ∧ w.heap.size + 1 < W.heap.size) (hz : W.heap[w.heap.size + 1]? = some (.cells #[.int .u64 0, .int .i64 0, .int .i64 0, .int .i64 0, .int .u64 0, .int .i64 0, .int .i64 0, .int .i64 0, .int .i64 0] 25 (0, 0))) (n1 n2 n3 n4 n5 n6 n7 n8 n9 : Int) :
    (W.alloc (.cells #[.int .u64 n1, .int .i64 n2, .int .i64 n3, .int .i64 n4, .int .u64 n5, .int .i64 n6, .int .i64 n7, .int .i64 n8, .int .i64 n9] 25)).cell? ⟨w.heap.size, 0, none⟩ = some (.pointer (some ⟨b, 0, none⟩)) ∧ Hid ((W.alloc (.cells #[.int .u64 n1, .int .i64 n2, .int .i64 n3, .int .i64 n4, .int .u64 n5, .int .i64 n6, .int .i64 n7, .int .i64 n8, .int .i64 n9] 25)).heap[W.heap.size]? = some (.cells #[.int .u64 n1, .int .i64 n2, .int .i64 n3, .int .i64 n4, .int .u64 n5, .int .i64 n6, .int .i64 n7, .int .i64 n8, .int .i64 n9] 25 (0, 0)) ∧ RdS w (W.alloc (.cells #[.int .u64 n1, .int .i64 n2, .int .i64 n3, .int .i64 n4, .int .u64 n5, .int .i64 n6, .int .i64 n7, .int .i64 n8, .int .i64 n9] 25)) w.heap.size b ds bad ∧ (W.alloc (.cells #[.int .u64 n1, .int .i64 n2, .int .i64 n3, .int .i64 n4, .int .u64 n5, .int .i64 n6, .int .i64 n7, .int .i64 n8, .int .i64 n9] 25)).heap[w.heap.size + 1]? = some (.cells #[.int .u64 0, .int .i64 0, .int .i64 0, .int .i64 0, .int .u64 0, .int .i64 0, .int .i64 0, .int .i64 0, .int .i64 0] 25 (0, 0))) := by
  have hb := (Below.refl W.heap.size W).alloc (Nat.le_refl _) (.cells #[.int .u64 n1, .int .i64 n2, .int .i64 n3, .int .i64 n4, .int .u64 n5, .int .i64 n6, .int .i64 n7, .int .i64 n8, .int .i64 n9] 25)
  exact ⟨one_at (ex_below hs.box hb), Lib.hid ⟨World.alloc_heap_new W _, hs.kept hb, ex_below hz hb⟩⟩
set_option maxRecDepth 100000 in
set_option maxHeartbeats 16000000 in
theorem read_first (b : Nat) (ds : List Nat) (bad : Bool) (w : World) (hr : RR w b ds bad) (ok : Bool) (hok : tkOk ds = ok) :
    Calls Try.prog 58 #[.pointer (some ⟨b, 0, none⟩)] w fun e w' => e = .returned (.tuple #[if ok = true then (nine ds).t else tkV 0 0 0 0 0 0 0 0 0, .bool ok]) ∧ RR w' b (if ok = true then nineR ds else []) (!ok) ∧ Rd b w w' := by
  have hbl := hr.lt
  obtain ⟨B2, s0, s1, sz⟩ := box2 w #[.pointer (some ⟨b, 0, none⟩)] #[.int .u64 0, .int .i64 0, .int .i64 0, .int .i64 0, .int .u64 0, .int .i64 0, .int .i64 0, .int .i64 0, .int .i64 0] 42 25
  have HS0 : Hid (RdS w ((w.alloc (.cells #[.pointer (some ⟨b, 0, none⟩)] 42)).alloc (.cells #[.int .u64 0, .int .i64 0, .int .i64 0, .int .i64 0, .int .u64 0, .int .i64 0, .int .i64 0, .int .i64 0, .int .i64 0] 25)) w.heap.size b ds bad) := Lib.hid ⟨hr.kept B2, s0, by omega, Rd.below B2⟩
  have HZ0 := Lib.hid s1
  have HSZ := Lib.hid sz
  have hmf : ∀ (fn : Fn) (first cap : Array Value) (w : World), (Instr.makeFunc fn first cap).run Try.prog w = .ok (.func fn first cap) w := fun _ _ _ _ => rfl
  have HC0 : Hid (∀ W bad, RdS w W w.heap.size b ds bad → Calls Try.prog 54 #[.pointer (some ⟨b, 0, none⟩), .int .u64 18446744073709551615] W fun e w' => e = .returned (.int .u64 ((nN 18446744073709551615 ds : Nat) : Int)) ∧ RdS w w' w.heap.size b (nR 18446744073709551615 ds) (nB 18446744073709551615 ds) ∧ Rd b W w') := Lib.hid (fun W bad h => rs_num b 18446744073709551615 18446744073709551615 (by omega) h)
  obtain ⟨n1, hn1⟩ : ∃ x, nN 18446744073709551615 ds = x := ⟨_, rfl⟩
  obtain ⟨d1, hd1⟩ : ∃ x, nR 18446744073709551615 ds = x := ⟨_, rfl⟩
  obtain ⟨q1, hq1⟩ : ∃ x, nB 18446744073709551615 ds = x := ⟨_, rfl⟩
  rw [hn1, hd1, hq1] at HC0
  have HC1 : Hid (∀ W bad, RdS w W w.heap.size b d1 bad → Calls Try.prog 83 #[.int .u64 15, .pointer (some ⟨w.heap.size, 0, none⟩)] W fun e w' => e = .returned (.int .i64 ((nN 15 d1 : Nat) : Int)) ∧ RdS w w' w.heap.size b (nR 15 d1) (nB 15 d1) ∧ Rd b W w') := Lib.hid (fun W bad h => rs_cnt b 15 15 (by omega) h (by omega))
  obtain ⟨n2, hn2⟩ : ∃ x, nN 15 d1 = x := ⟨_, rfl⟩
  obtain ⟨d2, hd2⟩ : ∃ x, nR 15 d1 = x := ⟨_, rfl⟩
  obtain ⟨q2, hq2⟩ : ∃ x, nB 15 d1 = x := ⟨_, rfl⟩
  rw [hn2, hd2, hq2] at HC1
  have HC2 : Hid (∀ W bad, RdS w W w.heap.size b d2 bad → Calls Try.prog 83 #[.int .u64 4, .pointer (some ⟨w.heap.size, 0, none⟩)] W fun e w' => e = .returned (.int .i64 ((nN 4 d2 : Nat) : Int)) ∧ RdS w w' w.heap.size b (nR 4 d2) (nB 4 d2) ∧ Rd b W w') := Lib.hid (fun W bad h => rs_cnt b 4 4 (by omega) h (by omega))
  obtain ⟨n3, hn3⟩ : ∃ x, nN 4 d2 = x := ⟨_, rfl⟩
  obtain ⟨d3, hd3⟩ : ∃ x, nR 4 d2 = x := ⟨_, rfl⟩
  obtain ⟨q3, hq3⟩ : ∃ x, nB 4 d2 = x := ⟨_, rfl⟩
  rw [hn3, hd3, hq3] at HC2
  have HC3 : Hid (∀ W bad, RdS w W w.heap.size b d3 bad → Calls Try.prog 83 #[.int .u64 5, .pointer (some ⟨w.heap.size, 0, none⟩)] W fun e w' => e = .returned (.int .i64 ((nN 5 d3 : Nat) : Int)) ∧ RdS w w' w.heap.size b (nR 5 d3) (nB 5 d3) ∧ Rd b W w') := Lib.hid (fun W bad h => rs_cnt b 5 5 (by omega) h (by omega))
  obtain ⟨n4, hn4⟩ : ∃ x, nN 5 d3 = x := ⟨_, rfl⟩
  obtain ⟨d4, hd4⟩ : ∃ x, nR 5 d3 = x := ⟨_, rfl⟩
  obtain ⟨q4, hq4⟩ : ∃ x, nB 5 d3 = x := ⟨_, rfl⟩
  rw [hn4, hd4, hq4] at HC3
  have HC4 : Hid (∀ W bad, RdS w W w.heap.size b d4 bad → Calls Try.prog 54 #[.pointer (some ⟨b, 0, none⟩), .int .u64 1152921504606846976] W fun e w' => e = .returned (.int .u64 ((nN 1152921504606846976 d4 : Nat) : Int)) ∧ RdS w w' w.heap.size b (nR 1152921504606846976 d4) (nB 1152921504606846976 d4) ∧ Rd b W w') := Lib.hid (fun W bad h => rs_num b 1152921504606846976 1152921504606846976 (by omega) h)
  obtain ⟨n5, hn5⟩ : ∃ x, nN 1152921504606846976 d4 = x := ⟨_, rfl⟩
  obtain ⟨d5, hd5⟩ : ∃ x, nR 1152921504606846976 d4 = x := ⟨_, rfl⟩
  obtain ⟨q5, hq5⟩ : ∃ x, nB 1152921504606846976 d4 = x := ⟨_, rfl⟩
  rw [hn5, hd5, hq5] at HC4
  have HC5 : Hid (∀ W bad, RdS w W w.heap.size b d5 bad → Calls Try.prog 84 #[.pointer (some ⟨w.heap.size, 0, none⟩)] W fun e w' => e = .returned (.int .i64 ((nN 1125899906842624 d5 : Nat) : Int)) ∧ RdS w w' w.heap.size b (nR 1125899906842624 d5) (nB 1125899906842624 d5) ∧ Rd b W w') := Lib.hid (fun W bad h => rs_sec b h)
  obtain ⟨n6, hn6⟩ : ∃ x, nN 1125899906842624 d5 = x := ⟨_, rfl⟩
  obtain ⟨d6, hd6⟩ : ∃ x, nR 1125899906842624 d5 = x := ⟨_, rfl⟩
  obtain ⟨q6, hq6⟩ : ∃ x, nB 1125899906842624 d5 = x := ⟨_, rfl⟩
  rw [hn6, hd6, hq6] at HC5
  have HC6 : Hid (∀ W bad, RdS w W w.heap.size b d6 bad → Calls Try.prog 84 #[.pointer (some ⟨w.heap.size, 0, none⟩)] W fun e w' => e = .returned (.int .i64 ((nN 1125899906842624 d6 : Nat) : Int)) ∧ RdS w w' w.heap.size b (nR 1125899906842624 d6) (nB 1125899906842624 d6) ∧ Rd b W w') := Lib.hid (fun W bad h => rs_sec b h)
  obtain ⟨n7, hn7⟩ : ∃ x, nN 1125899906842624 d6 = x := ⟨_, rfl⟩
  obtain ⟨d7, hd7⟩ : ∃ x, nR 1125899906842624 d6 = x := ⟨_, rfl⟩
  obtain ⟨q7, hq7⟩ : ∃ x, nB 1125899906842624 d6 = x := ⟨_, rfl⟩
  rw [hn7, hd7, hq7] at HC6
  have HC7 : Hid (∀ W bad, RdS w W w.heap.size b d7 bad → Calls Try.prog 84 #[.pointer (some ⟨w.heap.size, 0, none⟩)] W fun e w' => e = .returned (.int .i64 ((nN 1125899906842624 d7 : Nat) : Int)) ∧ RdS w w' w.heap.size b (nR 1125899906842624 d7) (nB 1125899906842624 d7) ∧ Rd b W w') := Lib.hid (fun W bad h => rs_sec b h)
  obtain ⟨n8, hn8⟩ : ∃ x, nN 1125899906842624 d7 = x := ⟨_, rfl⟩
  obtain ⟨d8, hd8⟩ : ∃ x, nR 1125899906842624 d7 = x := ⟨_, rfl⟩
  obtain ⟨q8, hq8⟩ : ∃ x, nB 1125899906842624 d7 = x := ⟨_, rfl⟩
  rw [hn8, hd8, hq8] at HC7
  have HC8 : Hid (∀ W bad, RdS w W w.heap.size b d8 bad → Calls Try.prog 83 #[.int .u64 2147483648, .pointer (some ⟨w.heap.size, 0, none⟩)] W fun e w' => e = .returned (.int .i64 ((nN 2147483648 d8 : Nat) : Int)) ∧ RdS w w' w.heap.size b (nR 2147483648 d8) (nB 2147483648 d8) ∧ Rd b W w') := Lib.hid (fun W bad h => rs_cnt b 2147483648 2147483648 (by omega) h (by omega))
  obtain ⟨n9, hn9⟩ : ∃ x, nN 2147483648 d8 = x := ⟨_, rfl⟩
  obtain ⟨d9, hd9⟩ : ∃ x, nR 2147483648 d8 = x := ⟨_, rfl⟩
  obtain ⟨q9, hq9⟩ : ∃ x, nB 2147483648 d8 = x := ⟨_, rfl⟩
  rw [hn9, hd9, hq9] at HC8
  have HOK : Hid ((!q9 && soundB (n2 : Int) n3 n4 n5 n6 n7 n8 n9) = ok ∧ (nine ds).t = tkV n1 n2 n3 n4 n5 n6 n7 n8 n9 ∧ nineR ds = d9) := Lib.hid (by
    rw [← hok]
    unfold tkOk nineB Nine.ok Nine.t nine nineR
    simp only [hn1, hd1, hq1, hn2, hd2, hq2, hn3, hd3, hq3, hn4, hd4, hq4, hn5, hd5, hq5, hn6, hd6, hq6, hn7, hd7, hq7, hn8, hd8, hq8, hn9, hd9, hq9, and_self])
  have HFR : Hid ((n6 : Int) ≤ 9223372036854775807) := Lib.hid (by have := nN_le 1125899906842624 d5; omega)
  rw [HOK.out.2.1, HOK.out.2.2]
  clear hn1 hd1 hq1 hn2 hd2 hq2 hn3 hd3 hq3 hn4 hd4 hq4 hn5 hd5 hq5 hn6 hd6 hq6 hn7 hd7 hq7 hn8 hd8 hq8 hn9 hd9 hq9 hok hr B2 s0 s1 sz
  unfold tkV
  go_enter Try.func58, Try.ntmps58
  go_upto_region 3 with (fail)
  generalize ((w.alloc (.cells #[.pointer (some ⟨b, 0, none⟩)] 42)).alloc (.cells #[.int .u64 0, .int .i64 0, .int .i64 0, .int .i64 0, .int .u64 0, .int .i64 0, .int .i64 0, .int .i64 0, .int .i64 0] 25)) = W0 at HS0 HZ0 HSZ ⊢
  go_cut [6] from 9 to 38 (fun s6 wc => ∃ T : Nat, s6 = .pointer (some ⟨T, 0, none⟩) ∧ Hid (wc.heap[T]? = some (.cells #[.int .u64 (n1 : Int), .int .i64 (n2 : Int), .int .i64 (n3 : Int), .int .i64 (n4 : Int), .int .u64 (n5 : Int), .int .i64 (n6 : Int), .int .i64 (n7 : Int), .int .i64 (n8 : Int), .int .i64 (n9 : Int)] 25 (0, 0))) ∧ Hid (RdS w wc w.heap.size b d9 q9) ∧ Hid (T ≠ b ∧ w.heap.size + 1 < T) ∧ Hid (wc.heap[w.heap.size + 1]? = some (.cells #[.int .u64 0, .int .i64 0, .int .i64 0, .int .i64 0, .int .u64 0, .int .i64 0, .int .i64 0, .int .i64 0, .int .i64 0] 25 (0, 0))))
  case first =>
    have hbx := one_at HS0.out.box
    have h0 : W0.drew.cell? ⟨w.heap.size, 0, none⟩ = some (.pointer (some ⟨b, 0, none⟩)) := hbx
    clear hbx
    go_wp2_with fail
    refine wp_region_held_drew (S := fun w' => w'.cell? ⟨w.heap.size, 0, none⟩ = some (.pointer (some ⟨b, 0, none⟩))) (by kernel_rfl) h0 (fun hHeld => ?_)
    refine wpAnyH_take (i := 0) (v := ?_) rfl (by kernel_rfl) (by kernel_rfl) (by kernel_rfl) (fun _ _ _ h => h) (Or.inl ⟨by rfl, ?_⟩) (by assumption) ?_
    case refine_2 => (intro w1 hS1; (try dsimp only at hS1); go_simp; try with_reducible rfl)
    try simp only [List.getElem_toArray, List.getElem_cons_zero, List.getElem_cons_succ, Act.put, List.setIfInBounds_toArray, List.set_cons_zero, List.set_cons_succ]
    refine wpAnyH_take (i := 2) (v := ?_) rfl (by kernel_rfl) (by kernel_rfl) (by kernel_rfl) (fun _ _ _ h => h) (Or.inl ⟨by rfl, ?_⟩) (by assumption) ?_
    case refine_2 => (intro w1 hS1; (try dsimp only at hS1); go_simp; try with_reducible rfl)
    try simp only [List.getElem_toArray, List.getElem_cons_zero, List.getElem_cons_succ, Act.put, List.setIfInBounds_toArray, List.set_cons_zero, List.set_cons_succ]
    refine wpAnyH_take (i := 4) (v := ?_) rfl (by kernel_rfl) (by kernel_rfl) (by kernel_rfl) (fun _ _ _ h => h) (Or.inl ⟨by rfl, ?_⟩) (by assumption) ?_
    case refine_2 => (intro w1 hS1; (try dsimp only at hS1); go_simp; try with_reducible rfl)
    try simp only [List.getElem_toArray, List.getElem_cons_zero, List.getElem_cons_succ, Act.put, List.setIfInBounds_toArray, List.set_cons_zero, List.set_cons_succ]
    refine wpAnyH_take (i := 6) (v := ?_) rfl (by kernel_rfl) (by kernel_rfl) (by kernel_rfl) (fun _ _ _ h => h) (Or.inl ⟨by rfl, ?_⟩) (by assumption) ?_
    case refine_2 => (intro w1 hS1; (try dsimp only at hS1); go_simp; try with_reducible rfl)
    try simp only [List.getElem_toArray, List.getElem_cons_zero, List.getElem_cons_succ, Act.put, List.setIfInBounds_toArray, List.set_cons_zero, List.set_cons_succ]
    refine wpAnyH_take (i := 8) (v := ?_) rfl (by kernel_rfl) (by kernel_rfl) (by kernel_rfl) (fun _ _ _ h => h) (Or.inl ⟨by rfl, ?_⟩) (by assumption) ?_
    case refine_2 => (intro w1 hS1; (try dsimp only at hS1); go_simp; try with_reducible rfl)
    try simp only [List.getElem_toArray, List.getElem_cons_zero, List.getElem_cons_succ, Act.put, List.setIfInBounds_toArray, List.set_cons_zero, List.set_cons_succ]
    refine wpAnyH_take (i := 10) (v := ?_) rfl (by kernel_rfl) (by kernel_rfl) (by kernel_rfl) (fun _ _ _ h => h) (Or.inl ⟨by rfl, ?_⟩) (by assumption) ?_
    case refine_2 => (intro w1 hS1; (try dsimp only at hS1); go_simp; try with_reducible rfl)
    try simp only [List.getElem_toArray, List.getElem_cons_zero, List.getElem_cons_succ, Act.put, List.setIfInBounds_toArray, List.set_cons_zero, List.set_cons_succ]
    refine wpAnyH_take (i := 12) (v := ?_) rfl (by kernel_rfl) (by kernel_rfl) (by kernel_rfl) (fun _ _ _ h => h) (Or.inl ⟨by rfl, ?_⟩) (by assumption) ?_
    case refine_2 => (intro w1 hS1; (try dsimp only at hS1); go_simp; try with_reducible rfl)
    try simp only [List.getElem_toArray, List.getElem_cons_zero, List.getElem_cons_succ, Act.put, List.setIfInBounds_toArray, List.set_cons_zero, List.set_cons_succ]
    refine wpAnyH_take (i := 14) (v := ?_) rfl (by kernel_rfl) (by kernel_rfl) (by kernel_rfl) (fun _ _ _ h => h) (Or.inl ⟨by rfl, ?_⟩) (by assumption) ?_
    case refine_2 => (intro w1 hS1; (try dsimp only at hS1); go_simp; try with_reducible rfl)
    try simp only [List.getElem_toArray, List.getElem_cons_zero, List.getElem_cons_succ, Act.put, List.setIfInBounds_toArray, List.set_cons_zero, List.set_cons_succ]
    refine wpAnyH_take (i := 16) (v := ?_) rfl (by kernel_rfl) (by kernel_rfl) (by kernel_rfl) (fun _ _ _ h => h) (Or.inl ⟨by rfl, ?_⟩) (by assumption) ?_
    case refine_2 => (intro w1 hS1; (try dsimp only at hS1); go_simp; try with_reducible rfl)
    try simp only [List.getElem_toArray, List.getElem_cons_zero, List.getElem_cons_succ, Act.put, List.setIfInBounds_toArray, List.set_cons_zero, List.set_cons_succ]
    have HS0' := Lib.hid (HS0.out.kept (Below.refl _ _).drew)
    have HZ0' := Lib.hid (ex_below HZ0.out (Below.refl _ _).drew)
    clear HS0 HZ0
    have HS0 := HS0'
    have HZ0 := HZ0'
    clear HS0' HZ0'
    have HW0 : Hid (w.heap.size + 1 < W0.drew.heap.size) := Lib.hid (by show _ < W0.heap.size; have := HSZ.out; omega)
    refine wpAnyH_ready (rs := [1, 19]) (by kernel_rfl) (by simp) ?_
    refine AllReadyH.cons rfl (fun K hK => ?_) (AllReadyH.cons rfl (fun K hK => ?_) AllReadyH.nil)
    · go_simp
      refine (HC0.out _ _ HS0.out).mono ?_
      rintro e W1 ⟨rfl, hs, ht⟩
      have HS1 := Lib.hid hs
      have HZ1 := Lib.hid (ht.keep HZ0.out (by omega))
      have HW1 := Lib.hid (Nat.lt_of_lt_of_le HW0.out ht.size)
      clear hs ht
      refine hK.out _ _ (one_at HS1.out.box) (fun hHeld => ?_)
      clear hK K
      try simp only [List.getElem_toArray, List.getElem_cons_zero, List.getElem_cons_succ, Act.put, List.setIfInBounds_toArray, List.set_cons_zero, List.set_cons_succ]
      refine wpAnyH_ready (rs := [3, 19]) (by kernel_rfl) (by simp) ?_
      refine AllReadyH.cons rfl (fun K hK => ?_) (AllReadyH.cons rfl (fun K hK => ?_) AllReadyH.nil)
      · go_simp
        refine (HC1.out _ _ HS1.out).mono ?_
        rintro e W2 ⟨rfl, hs, ht⟩
        have HS2 := Lib.hid hs
        have HZ2 := Lib.hid (ht.keep HZ1.out (by omega))
        have HW2 := Lib.hid (Nat.lt_of_lt_of_le HW1.out ht.size)
        clear hs ht
        refine hK.out _ _ (one_at HS2.out.box) (fun hHeld => ?_)
        clear hK K
        try simp only [List.getElem_toArray, List.getElem_cons_zero, List.getElem_cons_succ, Act.put, List.setIfInBounds_toArray, List.set_cons_zero, List.set_cons_succ]
        refine wpAnyH_ready (rs := [5, 19]) (by kernel_rfl) (by simp) ?_
        refine AllReadyH.cons rfl (fun K hK => ?_) (AllReadyH.cons rfl (fun K hK => ?_) AllReadyH.nil)
        · go_simp
          refine (HC2.out _ _ HS2.out).mono ?_
          rintro e W3 ⟨rfl, hs, ht⟩
          have HS3 := Lib.hid hs
          have HZ3 := Lib.hid (ht.keep HZ2.out (by omega))
          have HW3 := Lib.hid (Nat.lt_of_lt_of_le HW2.out ht.size)
          clear hs ht
          refine hK.out _ _ (one_at HS3.out.box) (fun hHeld => ?_)
          clear hK K
          try simp only [List.getElem_toArray, List.getElem_cons_zero, List.getElem_cons_succ, Act.put, List.setIfInBounds_toArray, List.set_cons_zero, List.set_cons_succ]
          refine wpAnyH_ready (rs := [7, 19]) (by kernel_rfl) (by simp) ?_
          refine AllReadyH.cons rfl (fun K hK => ?_) (AllReadyH.cons rfl (fun K hK => ?_) AllReadyH.nil)
          · go_simp
            refine (HC3.out _ _ HS3.out).mono ?_
            rintro e W4 ⟨rfl, hs, ht⟩
            have HS4 := Lib.hid hs
            have HZ4 := Lib.hid (ht.keep HZ3.out (by omega))
            have HW4 := Lib.hid (Nat.lt_of_lt_of_le HW3.out ht.size)
            clear hs ht
            refine hK.out _ _ (one_at HS4.out.box) (fun hHeld => ?_)
            clear hK K
            try simp only [List.getElem_toArray, List.getElem_cons_zero, List.getElem_cons_succ, Act.put, List.setIfInBounds_toArray, List.set_cons_zero, List.set_cons_succ]
            refine wpAnyH_ready (rs := [9, 19]) (by kernel_rfl) (by simp) ?_
            refine AllReadyH.cons rfl (fun K hK => ?_) (AllReadyH.cons rfl (fun K hK => ?_) AllReadyH.nil)
            · go_simp
              refine (HC4.out _ _ HS4.out).mono ?_
              rintro e W5 ⟨rfl, hs, ht⟩
              have HS5 := Lib.hid hs
              have HZ5 := Lib.hid (ht.keep HZ4.out (by omega))
              have HW5 := Lib.hid (Nat.lt_of_lt_of_le HW4.out ht.size)
              clear hs ht
              refine hK.out _ _ (one_at HS5.out.box) (fun hHeld => ?_)
              clear hK K
              try simp only [List.getElem_toArray, List.getElem_cons_zero, List.getElem_cons_succ, Act.put, List.setIfInBounds_toArray, List.set_cons_zero, List.set_cons_succ]
              refine wpAnyH_ready (rs := [11, 19]) (by kernel_rfl) (by simp) ?_
              refine AllReadyH.cons rfl (fun K hK => ?_) (AllReadyH.cons rfl (fun K hK => ?_) AllReadyH.nil)
              · go_simp
                refine (HC5.out _ _ HS5.out).mono ?_
                rintro e W6 ⟨rfl, hs, ht⟩
                have HS6 := Lib.hid hs
                have HZ6 := Lib.hid (ht.keep HZ5.out (by omega))
                have HW6 := Lib.hid (Nat.lt_of_lt_of_le HW5.out ht.size)
                clear hs ht
                refine hK.out _ _ (one_at HS6.out.box) (fun hHeld => ?_)
                clear hK K
                try simp only [List.getElem_toArray, List.getElem_cons_zero, List.getElem_cons_succ, Act.put, List.setIfInBounds_toArray, List.set_cons_zero, List.set_cons_succ]
                refine wpAnyH_ready (rs := [13, 19]) (by kernel_rfl) (by simp) ?_
                refine AllReadyH.cons rfl (fun K hK => ?_) (AllReadyH.cons rfl (fun K hK => ?_) AllReadyH.nil)
                · go_simp
                  refine (HC6.out _ _ HS6.out).mono ?_
                  rintro e W7 ⟨rfl, hs, ht⟩
                  have HS7 := Lib.hid hs
                  have HZ7 := Lib.hid (ht.keep HZ6.out (by omega))
                  have HW7 := Lib.hid (Nat.lt_of_lt_of_le HW6.out ht.size)
                  clear hs ht
                  refine hK.out _ _ (one_at HS7.out.box) (fun hHeld => ?_)
                  clear hK K
                  try simp only [List.getElem_toArray, List.getElem_cons_zero, List.getElem_cons_succ, Act.put, List.setIfInBounds_toArray, List.set_cons_zero, List.set_cons_succ]
                  refine wpAnyH_ready (rs := [15, 19]) (by kernel_rfl) (by simp) ?_
                  refine AllReadyH.cons rfl (fun K hK => ?_) (AllReadyH.cons rfl (fun K hK => ?_) AllReadyH.nil)
                  · go_simp
                    refine (HC7.out _ _ HS7.out).mono ?_
                    rintro e W8 ⟨rfl, hs, ht⟩
                    have HS8 := Lib.hid hs
                    have HZ8 := Lib.hid (ht.keep HZ7.out (by omega))
                    have HW8 := Lib.hid (Nat.lt_of_lt_of_le HW7.out ht.size)
                    clear hs ht
                    refine hK.out _ _ (one_at HS8.out.box) (fun hHeld => ?_)
                    clear hK K
                    try simp only [List.getElem_toArray, List.getElem_cons_zero, List.getElem_cons_succ, Act.put, List.setIfInBounds_toArray, List.set_cons_zero, List.set_cons_succ]
                    refine wpAnyH_ready (rs := [17, 19]) (by kernel_rfl) (by simp) ?_
                    refine AllReadyH.cons rfl (fun K hK => ?_) (AllReadyH.cons rfl (fun K hK => ?_) AllReadyH.nil)
                    · go_simp
                      refine (HC8.out _ _ HS8.out).mono ?_
                      rintro e W9 ⟨rfl, hs, ht⟩
                      have HS9 := Lib.hid hs
                      have HZ9 := Lib.hid (ht.keep HZ8.out (by omega))
                      have HW9 := Lib.hid (Nat.lt_of_lt_of_le HW8.out ht.size)
                      clear hs ht
                      refine hK.out _ _ (one_at HS9.out.box) (fun hHeld => ?_)
                      clear hK K
                      try simp only [List.getElem_toArray, List.getElem_cons_zero, List.getElem_cons_succ, Act.put, List.setIfInBounds_toArray, List.set_cons_zero, List.set_cons_succ]
                      refine wpAnyH_take (i := 18) (v := ?_) rfl (by kernel_rfl) (by kernel_rfl) (by kernel_rfl) (fun _ _ _ h => h) (Or.inl ⟨by rfl, ?_⟩) (by assumption) ?_
                      case refine_2 => (intro w1 hS1; (try dsimp only at hS1); go_simp; try with_reducible rfl)
                      try simp only [List.getElem_toArray, List.getElem_cons_zero, List.getElem_cons_succ, Act.put, List.setIfInBounds_toArray, List.set_cons_zero, List.set_cons_succ]
                      refine wpAnyH_ready (rs := [19]) (by kernel_rfl) (by simp) ?_
                      refine AllReadyH.cons rfl (fun K hK => ?_) AllReadyH.nil
                      go_simp
                      have hbx := (Below.refl W9.heap.size W9).alloc (Nat.le_refl _) (.cells #[.int .u64 0, .int .i64 0, .int .i64 0, .int .i64 0, .int .u64 0, .int .i64 0, .int .i64 0, .int .i64 0, .int .i64 0] 25)
                      have HTN : Hid (W9.heap.size ≠ b ∧ w.heap.size + 1 < W9.heap.size) := Lib.hid ⟨by have := HS9.out.rr.lt; omega, HW9.out⟩
                      refine hK.out _ _ (one_at (ex_below HS9.out.box hbx)) (fun hHeld => ?_)
                      clear hK K
                      try simp only [List.getElem_toArray, List.getElem_cons_zero, List.getElem_cons_succ, Act.put, List.setIfInBounds_toArray, List.set_cons_zero, List.set_cons_succ]
                      obtain ⟨z0, z1, z2, z3, z4, z5, z6, z7, z8⟩ := nine_at (World.alloc_heap_new W9 (.cells #[.int .u64 0, .int .i64 0, .int .i64 0, .int .i64 0, .int .u64 0, .int .i64 0, .int .i64 0, .int .i64 0, .int .i64 0] 25))
                      obtain ⟨y0, y1, y2, y3, y4, y5, y6, y7, y8⟩ := nine_fr (World.alloc_heap_new W9 (.cells #[.int .u64 0, .int .i64 0, .int .i64 0, .int .i64 0, .int .u64 0, .int .i64 0, .int .i64 0, .int .i64 0, .int .i64 0] 25))
                      have HPE := put_new HS9.out HTN.out HZ9.out (n1 : Int) (n2 : Int) (n3 : Int) (n4 : Int) (n5 : Int) (n6 : Int) (n7 : Int) (n8 : Int) (n9 : Int)
                      refine wpAnyH_ready (rs := [20]) (by kernel_rfl) (by simp) ?_
                      refine AllReadyH.cons rfl (fun K hK => ?_) AllReadyH.nil
                      go_simp
                      refine hK.out _ _ HPE.1 (fun hHeld => ?_)
                      clear hK K hbx z0 z1 z2 z3 z4 z5 z6 z7 z8 y0 y1 y2 y3 y4 y5 y6 y7 y8
                      try simp only [List.getElem_toArray, List.getElem_cons_zero, List.getElem_cons_succ, Act.put, List.setIfInBounds_toArray, List.set_cons_zero, List.set_cons_succ]
                      refine wpAnyH_done (by kernel_rfl) ?_ _
                      go_wp2_with fail
                      go_meet
                      exact ⟨_, rfl, Lib.hid HPE.2.out.1, Lib.hid HPE.2.out.2.1, HTN, Lib.hid HPE.2.out.2.2⟩
                    · go_simp
                      have hbx := (Below.refl W8.heap.size W8).alloc (Nat.le_refl _) (.cells #[.int .u64 0, .int .i64 0, .int .i64 0, .int .i64 0, .int .u64 0, .int .i64 0, .int .i64 0, .int .i64 0, .int .i64 0] 25)
                      have HS8a := Lib.hid (HS8.out.kept hbx)
                      have HZ8a := Lib.hid (ex_below HZ8.out hbx)
                      have HT8 : Hid ((W8.alloc (.cells #[.int .u64 0, .int .i64 0, .int .i64 0, .int .i64 0, .int .u64 0, .int .i64 0, .int .i64 0, .int .i64 0, .int .i64 0] 25)).heap[W8.heap.size]? = some (.cells #[.int .u64 0, .int .i64 0, .int .i64 0, .int .i64 0, .int .u64 0, .int .i64 0, .int .i64 0, .int .i64 0, .int .i64 0] 25 (0, 0))) := Lib.hid (World.alloc_heap_new W8 (.cells #[.int .u64 0, .int .i64 0, .int .i64 0, .int .i64 0, .int .u64 0, .int .i64 0, .int .i64 0, .int .i64 0, .int .i64 0] 25))
                      have HTN : Hid (W8.heap.size ≠ b ∧ w.heap.size + 1 < W8.heap.size) := Lib.hid ⟨by have h0 := HS8.out.rr.lt; have h1 : b < W8.heap.size := h0; omega, HW8.out⟩
                      have HW8a := Lib.hid (Nat.lt_of_lt_of_le HW8.out hbx.size)
                      clear hbx HS8 HZ8 HW8
                      have HS8 := HS8a
                      have HZ8 := HZ8a
                      have HW8 := HW8a
                      clear HS8a HZ8a HW8a
                      refine hK.out _ _ (one_at HS8.out.box) (fun hHeld => ?_)
                      clear hK K
                      try simp only [List.getElem_toArray, List.getElem_cons_zero, List.getElem_cons_succ, Act.put, List.setIfInBounds_toArray, List.set_cons_zero, List.set_cons_succ]
                      refine wpAnyH_ready (rs := [17]) (by kernel_rfl) (by simp) ?_
                      refine AllReadyH.cons rfl (fun K hK => ?_) AllReadyH.nil
                      go_simp
                      refine (HC8.out _ _ HS8.out).mono ?_
                      rintro e W9 ⟨rfl, hs, ht⟩
                      have HS9 := Lib.hid hs
                      have HZ9 := Lib.hid (ht.keep HZ8.out (by omega))
                      have HW9 := Lib.hid (Nat.lt_of_lt_of_le HW8.out ht.size)
                      have HT9 := Lib.hid (ht.keep HT8.out HTN.out.1)
                      clear hs ht
                      refine hK.out _ _ (one_at HS9.out.box) (fun hHeld => ?_)
                      clear hK K
                      try simp only [List.getElem_toArray, List.getElem_cons_zero, List.getElem_cons_succ, Act.put, List.setIfInBounds_toArray, List.set_cons_zero, List.set_cons_succ]
                      refine wpAnyH_take (i := 18) (v := ?_) rfl (by kernel_rfl) (by kernel_rfl) (by kernel_rfl) (fun _ _ _ h => h) (Or.inl ⟨by rfl, ?_⟩) (by assumption) ?_
                      case refine_2 => (intro w1 hS1; (try dsimp only at hS1); go_simp; try with_reducible rfl)
                      try simp only [List.getElem_toArray, List.getElem_cons_zero, List.getElem_cons_succ, Act.put, List.setIfInBounds_toArray, List.set_cons_zero, List.set_cons_succ]
                      obtain ⟨z0, z1, z2, z3, z4, z5, z6, z7, z8⟩ := nine_at HT9.out
                      obtain ⟨y0, y1, y2, y3, y4, y5, y6, y7, y8⟩ := nine_fr HT9.out
                      have HPE := put_end HS9.out HT9.out HTN.out HZ9.out (n1 : Int) (n2 : Int) (n3 : Int) (n4 : Int) (n5 : Int) (n6 : Int) (n7 : Int) (n8 : Int) (n9 : Int)
                      refine wpAnyH_ready (rs := [20]) (by kernel_rfl) (by simp) ?_
                      refine AllReadyH.cons rfl (fun K hK => ?_) AllReadyH.nil
                      go_simp
                      refine hK.out _ _ HPE.1 (fun hHeld => ?_)
                      clear hK K z0 z1 z2 z3 z4 z5 z6 z7 z8 y0 y1 y2 y3 y4 y5 y6 y7 y8
                      try simp only [List.getElem_toArray, List.getElem_cons_zero, List.getElem_cons_succ, Act.put, List.setIfInBounds_toArray, List.set_cons_zero, List.set_cons_succ]
                      refine wpAnyH_done (by kernel_rfl) ?_ _
                      go_wp2_with fail
                      go_meet
                      exact ⟨_, rfl, Lib.hid HPE.2.out.1, Lib.hid HPE.2.out.2.1, HTN, Lib.hid HPE.2.out.2.2⟩
                  · go_simp
                    have hbx := (Below.refl W7.heap.size W7).alloc (Nat.le_refl _) (.cells #[.int .u64 0, .int .i64 0, .int .i64 0, .int .i64 0, .int .u64 0, .int .i64 0, .int .i64 0, .int .i64 0, .int .i64 0] 25)
                    have HS7a := Lib.hid (HS7.out.kept hbx)
                    have HZ7a := Lib.hid (ex_below HZ7.out hbx)
                    have HT7 : Hid ((W7.alloc (.cells #[.int .u64 0, .int .i64 0, .int .i64 0, .int .i64 0, .int .u64 0, .int .i64 0, .int .i64 0, .int .i64 0, .int .i64 0] 25)).heap[W7.heap.size]? = some (.cells #[.int .u64 0, .int .i64 0, .int .i64 0, .int .i64 0, .int .u64 0, .int .i64 0, .int .i64 0, .int .i64 0, .int .i64 0] 25 (0, 0))) := Lib.hid (World.alloc_heap_new W7 (.cells #[.int .u64 0, .int .i64 0, .int .i64 0, .int .i64 0, .int .u64 0, .int .i64 0, .int .i64 0, .int .i64 0, .int .i64 0] 25))
                    have HTN : Hid (W7.heap.size ≠ b ∧ w.heap.size + 1 < W7.heap.size) := Lib.hid ⟨by have h0 := HS7.out.rr.lt; have h1 : b < W7.heap.size := h0; omega, HW7.out⟩
                    have HW7a := Lib.hid (Nat.lt_of_lt_of_le HW7.out hbx.size)
                    clear hbx HS7 HZ7 HW7
                    have HS7 := HS7a
                    have HZ7 := HZ7a
                    have HW7 := HW7a
                    clear HS7a HZ7a HW7a
                    refine hK.out _ _ (one_at HS7.out.box) (fun hHeld => ?_)
                    clear hK K
                    try simp only [List.getElem_toArray, List.getElem_cons_zero, List.getElem_cons_succ, Act.put, List.setIfInBounds_toArray, List.set_cons_zero, List.set_cons_succ]
                    refine wpAnyH_ready (rs := [15]) (by kernel_rfl) (by simp) ?_
                    refine AllReadyH.cons rfl (fun K hK => ?_) AllReadyH.nil
                    go_simp
                    refine (HC7.out _ _ HS7.out).mono ?_
                    rintro e W8 ⟨rfl, hs, ht⟩
                    have HS8 := Lib.hid hs
                    have HZ8 := Lib.hid (ht.keep HZ7.out (by omega))
                    have HW8 := Lib.hid (Nat.lt_of_lt_of_le HW7.out ht.size)
                    have HT8 := Lib.hid (ht.keep HT7.out HTN.out.1)
                    clear hs ht
                    refine hK.out _ _ (one_at HS8.out.box) (fun hHeld => ?_)
                    clear hK K
                    try simp only [List.getElem_toArray, List.getElem_cons_zero, List.getElem_cons_succ, Act.put, List.setIfInBounds_toArray, List.set_cons_zero, List.set_cons_succ]
                    refine wpAnyH_ready (rs := [17]) (by kernel_rfl) (by simp) ?_
                    refine AllReadyH.cons rfl (fun K hK => ?_) AllReadyH.nil
                    go_simp
                    refine (HC8.out _ _ HS8.out).mono ?_
                    rintro e W9 ⟨rfl, hs, ht⟩
                    have HS9 := Lib.hid hs
                    have HZ9 := Lib.hid (ht.keep HZ8.out (by omega))
                    have HW9 := Lib.hid (Nat.lt_of_lt_of_le HW8.out ht.size)
                    have HT9 := Lib.hid (ht.keep HT8.out HTN.out.1)
                    clear hs ht
                    refine hK.out _ _ (one_at HS9.out.box) (fun hHeld => ?_)
                    clear hK K
                    try simp only [List.getElem_toArray, List.getElem_cons_zero, List.getElem_cons_succ, Act.put, List.setIfInBounds_toArray, List.set_cons_zero, List.set_cons_succ]
                    refine wpAnyH_take (i := 18) (v := ?_) rfl (by kernel_rfl) (by kernel_rfl) (by kernel_rfl) (fun _ _ _ h => h) (Or.inl ⟨by rfl, ?_⟩) (by assumption) ?_
                    case refine_2 => (intro w1 hS1; (try dsimp only at hS1); go_simp; try with_reducible rfl)
                    try simp only [List.getElem_toArray, List.getElem_cons_zero, List.getElem_cons_succ, Act.put, List.setIfInBounds_toArray, List.set_cons_zero, List.set_cons_succ]
                    obtain ⟨z0, z1, z2, z3, z4, z5, z6, z7, z8⟩ := nine_at HT9.out
                    obtain ⟨y0, y1, y2, y3, y4, y5, y6, y7, y8⟩ := nine_fr HT9.out
                    have HPE := put_end HS9.out HT9.out HTN.out HZ9.out (n1 : Int) (n2 : Int) (n3 : Int) (n4 : Int) (n5 : Int) (n6 : Int) (n7 : Int) (n8 : Int) (n9 : Int)
                    refine wpAnyH_ready (rs := [20]) (by kernel_rfl) (by simp) ?_
                    refine AllReadyH.cons rfl (fun K hK => ?_) AllReadyH.nil
                    go_simp
                    refine hK.out _ _ HPE.1 (fun hHeld => ?_)
                    clear hK K z0 z1 z2 z3 z4 z5 z6 z7 z8 y0 y1 y2 y3 y4 y5 y6 y7 y8
                    try simp only [List.getElem_toArray, List.getElem_cons_zero, List.getElem_cons_succ, Act.put, List.setIfInBounds_toArray, List.set_cons_zero, List.set_cons_succ]
                    refine wpAnyH_done (by kernel_rfl) ?_ _
                    go_wp2_with fail
                    go_meet
                    exact ⟨_, rfl, Lib.hid HPE.2.out.1, Lib.hid HPE.2.out.2.1, HTN, Lib.hid HPE.2.out.2.2⟩
                · go_simp
                  have hbx := (Below.refl W6.heap.size W6).alloc (Nat.le_refl _) (.cells #[.int .u64 0, .int .i64 0, .int .i64 0, .int .i64 0, .int .u64 0, .int .i64 0, .int .i64 0, .int .i64 0, .int .i64 0] 25)
                  have HS6a := Lib.hid (HS6.out.kept hbx)
                  have HZ6a := Lib.hid (ex_below HZ6.out hbx)
                  have HT6 : Hid ((W6.alloc (.cells #[.int .u64 0, .int .i64 0, .int .i64 0, .int .i64 0, .int .u64 0, .int .i64 0, .int .i64 0, .int .i64 0, .int .i64 0] 25)).heap[W6.heap.size]? = some (.cells #[.int .u64 0, .int .i64 0, .int .i64 0, .int .i64 0, .int .u64 0, .int .i64 0, .int .i64 0, .int .i64 0, .int .i64 0] 25 (0, 0))) := Lib.hid (World.alloc_heap_new W6 (.cells #[.int .u64 0, .int .i64 0, .int .i64 0, .int .i64 0, .int .u64 0, .int .i64 0, .int .i64 0, .int .i64 0, .int .i64 0] 25))
                  have HTN : Hid (W6.heap.size ≠ b ∧ w.heap.size + 1 < W6.heap.size) := Lib.hid ⟨by have h0 := HS6.out.rr.lt; have h1 : b < W6.heap.size := h0; omega, HW6.out⟩
                  have HW6a := Lib.hid (Nat.lt_of_lt_of_le HW6.out hbx.size)
                  clear hbx HS6 HZ6 HW6
                  have HS6 := HS6a
                  have HZ6 := HZ6a
                  have HW6 := HW6a
                  clear HS6a HZ6a HW6a
                  refine hK.out _ _ (one_at HS6.out.box) (fun hHeld => ?_)
                  clear hK K
                  try simp only [List.getElem_toArray, List.getElem_cons_zero, List.getElem_cons_succ, Act.put, List.setIfInBounds_toArray, List.set_cons_zero, List.set_cons_succ]
                  refine wpAnyH_ready (rs := [13]) (by kernel_rfl) (by simp) ?_
                  refine AllReadyH.cons rfl (fun K hK => ?_) AllReadyH.nil
                  go_simp
                  refine (HC6.out _ _ HS6.out).mono ?_
                  rintro e W7 ⟨rfl, hs, ht⟩
                  have HS7 := Lib.hid hs
                  have HZ7 := Lib.hid (ht.keep HZ6.out (by omega))
                  have HW7 := Lib.hid (Nat.lt_of_lt_of_le HW6.out ht.size)
                  have HT7 := Lib.hid (ht.keep HT6.out HTN.out.1)
                  clear hs ht
                  refine hK.out _ _ (one_at HS7.out.box) (fun hHeld => ?_)
                  clear hK K
                  try simp only [List.getElem_toArray, List.getElem_cons_zero, List.getElem_cons_succ, Act.put, List.setIfInBounds_toArray, List.set_cons_zero, List.set_cons_succ]
                  refine wpAnyH_ready (rs := [15]) (by kernel_rfl) (by simp) ?_
                  refine AllReadyH.cons rfl (fun K hK => ?_) AllReadyH.nil
                  go_simp
                  refine (HC7.out _ _ HS7.out).mono ?_
                  rintro e W8 ⟨rfl, hs, ht⟩
                  have HS8 := Lib.hid hs
                  have HZ8 := Lib.hid (ht.keep HZ7.out (by omega))
                  have HW8 := Lib.hid (Nat.lt_of_lt_of_le HW7.out ht.size)
                  have HT8 := Lib.hid (ht.keep HT7.out HTN.out.1)
                  clear hs ht
                  refine hK.out _ _ (one_at HS8.out.box) (fun hHeld => ?_)
                  clear hK K
                  try simp only [List.getElem_toArray, List.getElem_cons_zero, List.getElem_cons_succ, Act.put, List.setIfInBounds_toArray, List.set_cons_zero, List.set_cons_succ]
                  refine wpAnyH_ready (rs := [17]) (by kernel_rfl) (by simp) ?_
                  refine AllReadyH.cons rfl (fun K hK => ?_) AllReadyH.nil
                  go_simp
                  refine (HC8.out _ _ HS8.out).mono ?_
                  rintro e W9 ⟨rfl, hs, ht⟩
                  have HS9 := Lib.hid hs
                  have HZ9 := Lib.hid (ht.keep HZ8.out (by omega))
                  have HW9 := Lib.hid (Nat.lt_of_lt_of_le HW8.out ht.size)
                  have HT9 := Lib.hid (ht.keep HT8.out HTN.out.1)
                  clear hs ht
                  refine hK.out _ _ (one_at HS9.out.box) (fun hHeld => ?_)
                  clear hK K
                  try simp only [List.getElem_toArray, List.getElem_cons_zero, List.getElem_cons_succ, Act.put, List.setIfInBounds_toArray, List.set_cons_zero, List.set_cons_succ]
                  refine wpAnyH_take (i := 18) (v := ?_) rfl (by kernel_rfl) (by kernel_rfl) (by kernel_rfl) (fun _ _ _ h => h) (Or.inl ⟨by rfl, ?_⟩) (by assumption) ?_
                  case refine_2 => (intro w1 hS1; (try dsimp only at hS1); go_simp; try with_reducible rfl)
                  try simp only [List.getElem_toArray, List.getElem_cons_zero, List.getElem_cons_succ, Act.put, List.setIfInBounds_toArray, List.set_cons_zero, List.set_cons_succ]
                  obtain ⟨z0, z1, z2, z3, z4, z5, z6, z7, z8⟩ := nine_at HT9.out
                  obtain ⟨y0, y1, y2, y3, y4, y5, y6, y7, y8⟩ := nine_fr HT9.out
                  have HPE := put_end HS9.out HT9.out HTN.out HZ9.out (n1 : Int) (n2 : Int) (n3 : Int) (n4 : Int) (n5 : Int) (n6 : Int) (n7 : Int) (n8 : Int) (n9 : Int)
                  refine wpAnyH_ready (rs := [20]) (by kernel_rfl) (by simp) ?_
                  refine AllReadyH.cons rfl (fun K hK => ?_) AllReadyH.nil
                  go_simp
                  refine hK.out _ _ HPE.1 (fun hHeld => ?_)
                  clear hK K z0 z1 z2 z3 z4 z5 z6 z7 z8 y0 y1 y2 y3 y4 y5 y6 y7 y8
                  try simp only [List.getElem_toArray, List.getElem_cons_zero, List.getElem_cons_succ, Act.put, List.setIfInBounds_toArray, List.set_cons_zero, List.set_cons_succ]
                  refine wpAnyH_done (by kernel_rfl) ?_ _
                  go_wp2_with fail
                  go_meet
                  exact ⟨_, rfl, Lib.hid HPE.2.out.1, Lib.hid HPE.2.out.2.1, HTN, Lib.hid HPE.2.out.2.2⟩
              · go_simp
                have hbx := (Below.refl W5.heap.size W5).alloc (Nat.le_refl _) (.cells #[.int .u64 0, .int .i64 0, .int .i64 0, .int .i64 0, .int .u64 0, .int .i64 0, .int .i64 0, .int .i64 0, .int .i64 0] 25)
                have HS5a := Lib.hid (HS5.out.kept hbx)
                have HZ5a := Lib.hid (ex_below HZ5.out hbx)
                have HT5 : Hid ((W5.alloc (.cells #[.int .u64 0, .int .i64 0, .int .i64 0, .int .i64 0, .int .u64 0, .int .i64 0, .int .i64 0, .int .i64 0, .int .i64 0] 25)).heap[W5.heap.size]? = some (.cells #[.int .u64 0, .int .i64 0, .int .i64 0, .int .i64 0, .int .u64 0, .int .i64 0, .int .i64 0, .int .i64 0, .int .i64 0] 25 (0, 0))) := Lib.hid (World.alloc_heap_new W5 (.cells #[.int .u64 0, .int .i64 0, .int .i64 0, .int .i64 0, .int .u64 0, .int .i64 0, .int .i64 0, .int .i64 0, .int .i64 0] 25))
                have HTN : Hid (W5.heap.size ≠ b ∧ w.heap.size + 1 < W5.heap.size) := Lib.hid ⟨by have h0 := HS5.out.rr.lt; have h1 : b < W5.heap.size := h0; omega, HW5.out⟩
                have HW5a := Lib.hid (Nat.lt_of_lt_of_le HW5.out hbx.size)
                clear hbx HS5 HZ5 HW5
                have HS5 := HS5a
                have HZ5 := HZ5a
                have HW5 := HW5a
                clear HS5a HZ5a HW5a
                refine hK.out _ _ (one_at HS5.out.box) (fun hHeld => ?_)
                clear hK K
                try simp only [List.getElem_toArray, List.getElem_cons_zero, List.getElem_cons_succ, Act.put, List.setIfInBounds_toArray, List.set_cons_zero, List.set_cons_succ]
                refine wpAnyH_ready (rs := [11]) (by kernel_rfl) (by simp) ?_
                refine AllReadyH.cons rfl (fun K hK => ?_) AllReadyH.nil
                go_simp
                refine (HC5.out _ _ HS5.out).mono ?_
                rintro e W6 ⟨rfl, hs, ht⟩
                have HS6 := Lib.hid hs
                have HZ6 := Lib.hid (ht.keep HZ5.out (by omega))
                have HW6 := Lib.hid (Nat.lt_of_lt_of_le HW5.out ht.size)
                have HT6 := Lib.hid (ht.keep HT5.out HTN.out.1)
                clear hs ht
                refine hK.out _ _ (one_at HS6.out.box) (fun hHeld => ?_)
                clear hK K
                try simp only [List.getElem_toArray, List.getElem_cons_zero, List.getElem_cons_succ, Act.put, List.setIfInBounds_toArray, List.set_cons_zero, List.set_cons_succ]
                refine wpAnyH_ready (rs := [13]) (by kernel_rfl) (by simp) ?_
                refine AllReadyH.cons rfl (fun K hK => ?_) AllReadyH.nil
                go_simp
                refine (HC6.out _ _ HS6.out).mono ?_
                rintro e W7 ⟨rfl, hs, ht⟩
                have HS7 := Lib.hid hs
                have HZ7 := Lib.hid (ht.keep HZ6.out (by omega))
                have HW7 := Lib.hid (Nat.lt_of_lt_of_le HW6.out ht.size)
                have HT7 := Lib.hid (ht.keep HT6.out HTN.out.1)
                clear hs ht
                refine hK.out _ _ (one_at HS7.out.box) (fun hHeld => ?_)
                clear hK K
                try simp only [List.getElem_toArray, List.getElem_cons_zero, List.getElem_cons_succ, Act.put, List.setIfInBounds_toArray, List.set_cons_zero, List.set_cons_succ]
                refine wpAnyH_ready (rs := [15]) (by kernel_rfl) (by simp) ?_
                refine AllReadyH.cons rfl (fun K hK => ?_) AllReadyH.nil
                go_simp
                refine (HC7.out _ _ HS7.out).mono ?_
                rintro e W8 ⟨rfl, hs, ht⟩
                have HS8 := Lib.hid hs
                have HZ8 := Lib.hid (ht.keep HZ7.out (by omega))
                have HW8 := Lib.hid (Nat.lt_of_lt_of_le HW7.out ht.size)
                have HT8 := Lib.hid (ht.keep HT7.out HTN.out.1)
                clear hs ht
                refine hK.out _ _ (one_at HS8.out.box) (fun hHeld => ?_)
                clear hK K
                try simp only [List.getElem_toArray, List.getElem_cons_zero, List.getElem_cons_succ, Act.put, List.setIfInBounds_toArray, List.set_cons_zero, List.set_cons_succ]
                refine wpAnyH_ready (rs := [17]) (by kernel_rfl) (by simp) ?_
                refine AllReadyH.cons rfl (fun K hK => ?_) AllReadyH.nil
                go_simp
                refine (HC8.out _ _ HS8.out).mono ?_
                rintro e W9 ⟨rfl, hs, ht⟩
                have HS9 := Lib.hid hs
                have HZ9 := Lib.hid (ht.keep HZ8.out (by omega))
                have HW9 := Lib.hid (Nat.lt_of_lt_of_le HW8.out ht.size)
                have HT9 := Lib.hid (ht.keep HT8.out HTN.out.1)
                clear hs ht
                refine hK.out _ _ (one_at HS9.out.box) (fun hHeld => ?_)
                clear hK K
                try simp only [List.getElem_toArray, List.getElem_cons_zero, List.getElem_cons_succ, Act.put, List.setIfInBounds_toArray, List.set_cons_zero, List.set_cons_succ]
                refine wpAnyH_take (i := 18) (v := ?_) rfl (by kernel_rfl) (by kernel_rfl) (by kernel_rfl) (fun _ _ _ h => h) (Or.inl ⟨by rfl, ?_⟩) (by assumption) ?_
                case refine_2 => (intro w1 hS1; (try dsimp only at hS1); go_simp; try with_reducible rfl)
                try simp only [List.getElem_toArray, List.getElem_cons_zero, List.getElem_cons_succ, Act.put, List.setIfInBounds_toArray, List.set_cons_zero, List.set_cons_succ]
                obtain ⟨z0, z1, z2, z3, z4, z5, z6, z7, z8⟩ := nine_at HT9.out
                obtain ⟨y0, y1, y2, y3, y4, y5, y6, y7, y8⟩ := nine_fr HT9.out
                have HPE := put_end HS9.out HT9.out HTN.out HZ9.out (n1 : Int) (n2 : Int) (n3 : Int) (n4 : Int) (n5 : Int) (n6 : Int) (n7 : Int) (n8 : Int) (n9 : Int)
                refine wpAnyH_ready (rs := [20]) (by kernel_rfl) (by simp) ?_
                refine AllReadyH.cons rfl (fun K hK => ?_) AllReadyH.nil
                go_simp
                refine hK.out _ _ HPE.1 (fun hHeld => ?_)
                clear hK K z0 z1 z2 z3 z4 z5 z6 z7 z8 y0 y1 y2 y3 y4 y5 y6 y7 y8
                try simp only [List.getElem_toArray, List.getElem_cons_zero, List.getElem_cons_succ, Act.put, List.setIfInBounds_toArray, List.set_cons_zero, List.set_cons_succ]
                refine wpAnyH_done (by kernel_rfl) ?_ _
                go_wp2_with fail
                go_meet
                exact ⟨_, rfl, Lib.hid HPE.2.out.1, Lib.hid HPE.2.out.2.1, HTN, Lib.hid HPE.2.out.2.2⟩
            · go_simp
              have hbx := (Below.refl W4.heap.size W4).alloc (Nat.le_refl _) (.cells #[.int .u64 0, .int .i64 0, .int .i64 0, .int .i64 0, .int .u64 0, .int .i64 0, .int .i64 0, .int .i64 0, .int .i64 0] 25)
              have HS4a := Lib.hid (HS4.out.kept hbx)
              have HZ4a := Lib.hid (ex_below HZ4.out hbx)
              have HT4 : Hid ((W4.alloc (.cells #[.int .u64 0, .int .i64 0, .int .i64 0, .int .i64 0, .int .u64 0, .int .i64 0, .int .i64 0, .int .i64 0, .int .i64 0] 25)).heap[W4.heap.size]? = some (.cells #[.int .u64 0, .int .i64 0, .int .i64 0, .int .i64 0, .int .u64 0, .int .i64 0, .int .i64 0, .int .i64 0, .int .i64 0] 25 (0, 0))) := Lib.hid (World.alloc_heap_new W4 (.cells #[.int .u64 0, .int .i64 0, .int .i64 0, .int .i64 0, .int .u64 0, .int .i64 0, .int .i64 0, .int .i64 0, .int .i64 0] 25))
              have HTN : Hid (W4.heap.size ≠ b ∧ w.heap.size + 1 < W4.heap.size) := Lib.hid ⟨by have h0 := HS4.out.rr.lt; have h1 : b < W4.heap.size := h0; omega, HW4.out⟩
              have HW4a := Lib.hid (Nat.lt_of_lt_of_le HW4.out hbx.size)
              clear hbx HS4 HZ4 HW4
              have HS4 := HS4a
              have HZ4 := HZ4a
              have HW4 := HW4a
              clear HS4a HZ4a HW4a
              refine hK.out _ _ (one_at HS4.out.box) (fun hHeld => ?_)
              clear hK K
              try simp only [List.getElem_toArray, List.getElem_cons_zero, List.getElem_cons_succ, Act.put, List.setIfInBounds_toArray, List.set_cons_zero, List.set_cons_succ]
              refine wpAnyH_ready (rs := [9]) (by kernel_rfl) (by simp) ?_
              refine AllReadyH.cons rfl (fun K hK => ?_) AllReadyH.nil
              go_simp
              refine (HC4.out _ _ HS4.out).mono ?_
              rintro e W5 ⟨rfl, hs, ht⟩
              have HS5 := Lib.hid hs
              have HZ5 := Lib.hid (ht.keep HZ4.out (by omega))
              have HW5 := Lib.hid (Nat.lt_of_lt_of_le HW4.out ht.size)
              have HT5 := Lib.hid (ht.keep HT4.out HTN.out.1)
              clear hs ht
              refine hK.out _ _ (one_at HS5.out.box) (fun hHeld => ?_)
              clear hK K
              try simp only [List.getElem_toArray, List.getElem_cons_zero, List.getElem_cons_succ, Act.put, List.setIfInBounds_toArray, List.set_cons_zero, List.set_cons_succ]
              refine wpAnyH_ready (rs := [11]) (by kernel_rfl) (by simp) ?_
              refine AllReadyH.cons rfl (fun K hK => ?_) AllReadyH.nil
              go_simp
              refine (HC5.out _ _ HS5.out).mono ?_
              rintro e W6 ⟨rfl, hs, ht⟩
              have HS6 := Lib.hid hs
              have HZ6 := Lib.hid (ht.keep HZ5.out (by omega))
              have HW6 := Lib.hid (Nat.lt_of_lt_of_le HW5.out ht.size)
              have HT6 := Lib.hid (ht.keep HT5.out HTN.out.1)
              clear hs ht
              refine hK.out _ _ (one_at HS6.out.box) (fun hHeld => ?_)
              clear hK K
              try simp only [List.getElem_toArray, List.getElem_cons_zero, List.getElem_cons_succ, Act.put, List.setIfInBounds_toArray, List.set_cons_zero, List.set_cons_succ]
              refine wpAnyH_ready (rs := [13]) (by kernel_rfl) (by simp) ?_
              refine AllReadyH.cons rfl (fun K hK => ?_) AllReadyH.nil
              go_simp
              refine (HC6.out _ _ HS6.out).mono ?_
              rintro e W7 ⟨rfl, hs, ht⟩
              have HS7 := Lib.hid hs
              have HZ7 := Lib.hid (ht.keep HZ6.out (by omega))
              have HW7 := Lib.hid (Nat.lt_of_lt_of_le HW6.out ht.size)
              have HT7 := Lib.hid (ht.keep HT6.out HTN.out.1)
              clear hs ht
              refine hK.out _ _ (one_at HS7.out.box) (fun hHeld => ?_)
              clear hK K
              try simp only [List.getElem_toArray, List.getElem_cons_zero, List.getElem_cons_succ, Act.put, List.setIfInBounds_toArray, List.set_cons_zero, List.set_cons_succ]
              refine wpAnyH_ready (rs := [15]) (by kernel_rfl) (by simp) ?_
              refine AllReadyH.cons rfl (fun K hK => ?_) AllReadyH.nil
              go_simp
              refine (HC7.out _ _ HS7.out).mono ?_
              rintro e W8 ⟨rfl, hs, ht⟩
              have HS8 := Lib.hid hs
              have HZ8 := Lib.hid (ht.keep HZ7.out (by omega))
              have HW8 := Lib.hid (Nat.lt_of_lt_of_le HW7.out ht.size)
              have HT8 := Lib.hid (ht.keep HT7.out HTN.out.1)
              clear hs ht
              refine hK.out _ _ (one_at HS8.out.box) (fun hHeld => ?_)
              clear hK K
              try simp only [List.getElem_toArray, List.getElem_cons_zero, List.getElem_cons_succ, Act.put, List.setIfInBounds_toArray, List.set_cons_zero, List.set_cons_succ]
              refine wpAnyH_ready (rs := [17]) (by kernel_rfl) (by simp) ?_
              refine AllReadyH.cons rfl (fun K hK => ?_) AllReadyH.nil
              go_simp
              refine (HC8.out _ _ HS8.out).mono ?_
              rintro e W9 ⟨rfl, hs, ht⟩
              have HS9 := Lib.hid hs
              have HZ9 := Lib.hid (ht.keep HZ8.out (by omega))
              have HW9 := Lib.hid (Nat.lt_of_lt_of_le HW8.out ht.size)
              have HT9 := Lib.hid (ht.keep HT8.out HTN.out.1)
              clear hs ht
              refine hK.out _ _ (one_at HS9.out.box) (fun hHeld => ?_)
              clear hK K
              try simp only [List.getElem_toArray, List.getElem_cons_zero, List.getElem_cons_succ, Act.put, List.setIfInBounds_toArray, List.set_cons_zero, List.set_cons_succ]
              refine wpAnyH_take (i := 18) (v := ?_) rfl (by kernel_rfl) (by kernel_rfl) (by kernel_rfl) (fun _ _ _ h => h) (Or.inl ⟨by rfl, ?_⟩) (by assumption) ?_
              case refine_2 => (intro w1 hS1; (try dsimp only at hS1); go_simp; try with_reducible rfl)
              try simp only [List.getElem_toArray, List.getElem_cons_zero, List.getElem_cons_succ, Act.put, List.setIfInBounds_toArray, List.set_cons_zero, List.set_cons_succ]
              obtain ⟨z0, z1, z2, z3, z4, z5, z6, z7, z8⟩ := nine_at HT9.out
              obtain ⟨y0, y1, y2, y3, y4, y5, y6, y7, y8⟩ := nine_fr HT9.out
              have HPE := put_end HS9.out HT9.out HTN.out HZ9.out (n1 : Int) (n2 : Int) (n3 : Int) (n4 : Int) (n5 : Int) (n6 : Int) (n7 : Int) (n8 : Int) (n9 : Int)
              refine wpAnyH_ready (rs := [20]) (by kernel_rfl) (by simp) ?_
              refine AllReadyH.cons rfl (fun K hK => ?_) AllReadyH.nil
              go_simp
              refine hK.out _ _ HPE.1 (fun hHeld => ?_)
              clear hK K z0 z1 z2 z3 z4 z5 z6 z7 z8 y0 y1 y2 y3 y4 y5 y6 y7 y8
              try simp only [List.getElem_toArray, List.getElem_cons_zero, List.getElem_cons_succ, Act.put, List.setIfInBounds_toArray, List.set_cons_zero, List.set_cons_succ]
              refine wpAnyH_done (by kernel_rfl) ?_ _
              go_wp2_with fail
              go_meet
              exact ⟨_, rfl, Lib.hid HPE.2.out.1, Lib.hid HPE.2.out.2.1, HTN, Lib.hid HPE.2.out.2.2⟩
          · go_simp
            have hbx := (Below.refl W3.heap.size W3).alloc (Nat.le_refl _) (.cells #[.int .u64 0, .int .i64 0, .int .i64 0, .int .i64 0, .int .u64 0, .int .i64 0, .int .i64 0, .int .i64 0, .int .i64 0] 25)
            have HS3a := Lib.hid (HS3.out.kept hbx)
            have HZ3a := Lib.hid (ex_below HZ3.out hbx)
            have HT3 : Hid ((W3.alloc (.cells #[.int .u64 0, .int .i64 0, .int .i64 0, .int .i64 0, .int .u64 0, .int .i64 0, .int .i64 0, .int .i64 0, .int .i64 0] 25)).heap[W3.heap.size]? = some (.cells #[.int .u64 0, .int .i64 0, .int .i64 0, .int .i64 0, .int .u64 0, .int .i64 0, .int .i64 0, .int .i64 0, .int .i64 0] 25 (0, 0))) := Lib.hid (World.alloc_heap_new W3 (.cells #[.int .u64 0, .int .i64 0, .int .i64 0, .int .i64 0, .int .u64 0, .int .i64 0, .int .i64 0, .int .i64 0, .int .i64 0] 25))
            have HTN : Hid (W3.heap.size ≠ b ∧ w.heap.size + 1 < W3.heap.size) := Lib.hid ⟨by have h0 := HS3.out.rr.lt; have h1 : b < W3.heap.size := h0; omega, HW3.out⟩
            have HW3a := Lib.hid (Nat.lt_of_lt_of_le HW3.out hbx.size)
            clear hbx HS3 HZ3 HW3
            have HS3 := HS3a
            have HZ3 := HZ3a
            have HW3 := HW3a
            clear HS3a HZ3a HW3a
            refine hK.out _ _ (one_at HS3.out.box) (fun hHeld => ?_)
            clear hK K
            try simp only [List.getElem_toArray, List.getElem_cons_zero, List.getElem_cons_succ, Act.put, List.setIfInBounds_toArray, List.set_cons_zero, List.set_cons_succ]
            refine wpAnyH_ready (rs := [7]) (by kernel_rfl) (by simp) ?_
            refine AllReadyH.cons rfl (fun K hK => ?_) AllReadyH.nil
            go_simp
            refine (HC3.out _ _ HS3.out).mono ?_
            rintro e W4 ⟨rfl, hs, ht⟩
            have HS4 := Lib.hid hs
            have HZ4 := Lib.hid (ht.keep HZ3.out (by omega))
            have HW4 := Lib.hid (Nat.lt_of_lt_of_le HW3.out ht.size)
            have HT4 := Lib.hid (ht.keep HT3.out HTN.out.1)
            clear hs ht
            refine hK.out _ _ (one_at HS4.out.box) (fun hHeld => ?_)
            clear hK K
            try simp only [List.getElem_toArray, List.getElem_cons_zero, List.getElem_cons_succ, Act.put, List.setIfInBounds_toArray, List.set_cons_zero, List.set_cons_succ]
            refine wpAnyH_ready (rs := [9]) (by kernel_rfl) (by simp) ?_
            refine AllReadyH.cons rfl (fun K hK => ?_) AllReadyH.nil
            go_simp
            refine (HC4.out _ _ HS4.out).mono ?_
            rintro e W5 ⟨rfl, hs, ht⟩
            have HS5 := Lib.hid hs
            have HZ5 := Lib.hid (ht.keep HZ4.out (by omega))
            have HW5 := Lib.hid (Nat.lt_of_lt_of_le HW4.out ht.size)
            have HT5 := Lib.hid (ht.keep HT4.out HTN.out.1)
            clear hs ht
            refine hK.out _ _ (one_at HS5.out.box) (fun hHeld => ?_)
            clear hK K
            try simp only [List.getElem_toArray, List.getElem_cons_zero, List.getElem_cons_succ, Act.put, List.setIfInBounds_toArray, List.set_cons_zero, List.set_cons_succ]
            refine wpAnyH_ready (rs := [11]) (by kernel_rfl) (by simp) ?_
            refine AllReadyH.cons rfl (fun K hK => ?_) AllReadyH.nil
            go_simp
            refine (HC5.out _ _ HS5.out).mono ?_
            rintro e W6 ⟨rfl, hs, ht⟩
            have HS6 := Lib.hid hs
            have HZ6 := Lib.hid (ht.keep HZ5.out (by omega))
            have HW6 := Lib.hid (Nat.lt_of_lt_of_le HW5.out ht.size)
            have HT6 := Lib.hid (ht.keep HT5.out HTN.out.1)
            clear hs ht
            refine hK.out _ _ (one_at HS6.out.box) (fun hHeld => ?_)
            clear hK K
            try simp only [List.getElem_toArray, List.getElem_cons_zero, List.getElem_cons_succ, Act.put, List.setIfInBounds_toArray, List.set_cons_zero, List.set_cons_succ]
            refine wpAnyH_ready (rs := [13]) (by kernel_rfl) (by simp) ?_
            refine AllReadyH.cons rfl (fun K hK => ?_) AllReadyH.nil
            go_simp
            refine (HC6.out _ _ HS6.out).mono ?_
            rintro e W7 ⟨rfl, hs, ht⟩
            have HS7 := Lib.hid hs
            have HZ7 := Lib.hid (ht.keep HZ6.out (by omega))
            have HW7 := Lib.hid (Nat.lt_of_lt_of_le HW6.out ht.size)
            have HT7 := Lib.hid (ht.keep HT6.out HTN.out.1)
            clear hs ht
            refine hK.out _ _ (one_at HS7.out.box) (fun hHeld => ?_)
            clear hK K
            try simp only [List.getElem_toArray, List.getElem_cons_zero, List.getElem_cons_succ, Act.put, List.setIfInBounds_toArray, List.set_cons_zero, List.set_cons_succ]
            refine wpAnyH_ready (rs := [15]) (by kernel_rfl) (by simp) ?_
            refine AllReadyH.cons rfl (fun K hK => ?_) AllReadyH.nil
            go_simp
            refine (HC7.out _ _ HS7.out).mono ?_
            rintro e W8 ⟨rfl, hs, ht⟩
            have HS8 := Lib.hid hs
            have HZ8 := Lib.hid (ht.keep HZ7.out (by omega))
            have HW8 := Lib.hid (Nat.lt_of_lt_of_le HW7.out ht.size)
            have HT8 := Lib.hid (ht.keep HT7.out HTN.out.1)
            clear hs ht
            refine hK.out _ _ (one_at HS8.out.box) (fun hHeld => ?_)
            clear hK K
            try simp only [List.getElem_toArray, List.getElem_cons_zero, List.getElem_cons_succ, Act.put, List.setIfInBounds_toArray, List.set_cons_zero, List.set_cons_succ]
            refine wpAnyH_ready (rs := [17]) (by kernel_rfl) (by simp) ?_
            refine AllReadyH.cons rfl (fun K hK => ?_) AllReadyH.nil
            go_simp
            refine (HC8.out _ _ HS8.out).mono ?_
            rintro e W9 ⟨rfl, hs, ht⟩
            have HS9 := Lib.hid hs
            have HZ9 := Lib.hid (ht.keep HZ8.out (by omega))
            have HW9 := Lib.hid (Nat.lt_of_lt_of_le HW8.out ht.size)
            have HT9 := Lib.hid (ht.keep HT8.out HTN.out.1)
            clear hs ht
            refine hK.out _ _ (one_at HS9.out.box) (fun hHeld => ?_)
            clear hK K
            try simp only [List.getElem_toArray, List.getElem_cons_zero, List.getElem_cons_succ, Act.put, List.setIfInBounds_toArray, List.set_cons_zero, List.set_cons_succ]
            refine wpAnyH_take (i := 18) (v := ?_) rfl (by kernel_rfl) (by kernel_rfl) (by kernel_rfl) (fun _ _ _ h => h) (Or.inl ⟨by rfl, ?_⟩) (by assumption) ?_
            case refine_2 => (intro w1 hS1; (try dsimp only at hS1); go_simp; try with_reducible rfl)
            try simp only [List.getElem_toArray, List.getElem_cons_zero, List.getElem_cons_succ, Act.put, List.setIfInBounds_toArray, List.set_cons_zero, List.set_cons_succ]
            obtain ⟨z0, z1, z2, z3, z4, z5, z6, z7, z8⟩ := nine_at HT9.out
            obtain ⟨y0, y1, y2, y3, y4, y5, y6, y7, y8⟩ := nine_fr HT9.out
            have HPE := put_end HS9.out HT9.out HTN.out HZ9.out (n1 : Int) (n2 : Int) (n3 : Int) (n4 : Int) (n5 : Int) (n6 : Int) (n7 : Int) (n8 : Int) (n9 : Int)
            refine wpAnyH_ready (rs := [20]) (by kernel_rfl) (by simp) ?_
            refine AllReadyH.cons rfl (fun K hK => ?_) AllReadyH.nil
            go_simp
            refine hK.out _ _ HPE.1 (fun hHeld => ?_)
            clear hK K z0 z1 z2 z3 z4 z5 z6 z7 z8 y0 y1 y2 y3 y4 y5 y6 y7 y8
            try simp only [List.getElem_toArray, List.getElem_cons_zero, List.getElem_cons_succ, Act.put, List.setIfInBounds_toArray, List.set_cons_zero, List.set_cons_succ]
            refine wpAnyH_done (by kernel_rfl) ?_ _
            go_wp2_with fail
            go_meet
            exact ⟨_, rfl, Lib.hid HPE.2.out.1, Lib.hid HPE.2.out.2.1, HTN, Lib.hid HPE.2.out.2.2⟩
        · go_simp
          have hbx := (Below.refl W2.heap.size W2).alloc (Nat.le_refl _) (.cells #[.int .u64 0, .int .i64 0, .int .i64 0, .int .i64 0, .int .u64 0, .int .i64 0, .int .i64 0, .int .i64 0, .int .i64 0] 25)
          have HS2a := Lib.hid (HS2.out.kept hbx)
          have HZ2a := Lib.hid (ex_below HZ2.out hbx)
          have HT2 : Hid ((W2.alloc (.cells #[.int .u64 0, .int .i64 0, .int .i64 0, .int .i64 0, .int .u64 0, .int .i64 0, .int .i64 0, .int .i64 0, .int .i64 0] 25)).heap[W2.heap.size]? = some (.cells #[.int .u64 0, .int .i64 0, .int .i64 0, .int .i64 0, .int .u64 0, .int .i64 0, .int .i64 0, .int .i64 0, .int .i64 0] 25 (0, 0))) := Lib.hid (World.alloc_heap_new W2 (.cells #[.int .u64 0, .int .i64 0, .int .i64 0, .int .i64 0, .int .u64 0, .int .i64 0, .int .i64 0, .int .i64 0, .int .i64 0] 25))
          have HTN : Hid (W2.heap.size ≠ b ∧ w.heap.size + 1 < W2.heap.size) := Lib.hid ⟨by have h0 := HS2.out.rr.lt; have h1 : b < W2.heap.size := h0; omega, HW2.out⟩
          have HW2a := Lib.hid (Nat.lt_of_lt_of_le HW2.out hbx.size)
          clear hbx HS2 HZ2 HW2
          have HS2 := HS2a
          have HZ2 := HZ2a
          have HW2 := HW2a
          clear HS2a HZ2a HW2a
          refine hK.out _ _ (one_at HS2.out.box) (fun hHeld => ?_)
          clear hK K
          try simp only [List.getElem_toArray, List.getElem_cons_zero, List.getElem_cons_succ, Act.put, List.setIfInBounds_toArray, List.set_cons_zero, List.set_cons_succ]
          refine wpAnyH_ready (rs := [5]) (by kernel_rfl) (by simp) ?_
          refine AllReadyH.cons rfl (fun K hK => ?_) AllReadyH.nil
          go_simp
          refine (HC2.out _ _ HS2.out).mono ?_
          rintro e W3 ⟨rfl, hs, ht⟩
          have HS3 := Lib.hid hs
          have HZ3 := Lib.hid (ht.keep HZ2.out (by omega))
          have HW3 := Lib.hid (Nat.lt_of_lt_of_le HW2.out ht.size)
          have HT3 := Lib.hid (ht.keep HT2.out HTN.out.1)
          clear hs ht
          refine hK.out _ _ (one_at HS3.out.box) (fun hHeld => ?_)
          clear hK K
          try simp only [List.getElem_toArray, List.getElem_cons_zero, List.getElem_cons_succ, Act.put, List.setIfInBounds_toArray, List.set_cons_zero, List.set_cons_succ]
          refine wpAnyH_ready (rs := [7]) (by kernel_rfl) (by simp) ?_
          refine AllReadyH.cons rfl (fun K hK => ?_) AllReadyH.nil
          go_simp
          refine (HC3.out _ _ HS3.out).mono ?_
          rintro e W4 ⟨rfl, hs, ht⟩
          have HS4 := Lib.hid hs
          have HZ4 := Lib.hid (ht.keep HZ3.out (by omega))
          have HW4 := Lib.hid (Nat.lt_of_lt_of_le HW3.out ht.size)
          have HT4 := Lib.hid (ht.keep HT3.out HTN.out.1)
          clear hs ht
          refine hK.out _ _ (one_at HS4.out.box) (fun hHeld => ?_)
          clear hK K
          try simp only [List.getElem_toArray, List.getElem_cons_zero, List.getElem_cons_succ, Act.put, List.setIfInBounds_toArray, List.set_cons_zero, List.set_cons_succ]
          refine wpAnyH_ready (rs := [9]) (by kernel_rfl) (by simp) ?_
          refine AllReadyH.cons rfl (fun K hK => ?_) AllReadyH.nil
          go_simp
          refine (HC4.out _ _ HS4.out).mono ?_
          rintro e W5 ⟨rfl, hs, ht⟩
          have HS5 := Lib.hid hs
          have HZ5 := Lib.hid (ht.keep HZ4.out (by omega))
          have HW5 := Lib.hid (Nat.lt_of_lt_of_le HW4.out ht.size)
          have HT5 := Lib.hid (ht.keep HT4.out HTN.out.1)
          clear hs ht
          refine hK.out _ _ (one_at HS5.out.box) (fun hHeld => ?_)
          clear hK K
          try simp only [List.getElem_toArray, List.getElem_cons_zero, List.getElem_cons_succ, Act.put, List.setIfInBounds_toArray, List.set_cons_zero, List.set_cons_succ]
          refine wpAnyH_ready (rs := [11]) (by kernel_rfl) (by simp) ?_
          refine AllReadyH.cons rfl (fun K hK => ?_) AllReadyH.nil
          go_simp
          refine (HC5.out _ _ HS5.out).mono ?_
          rintro e W6 ⟨rfl, hs, ht⟩
          have HS6 := Lib.hid hs
          have HZ6 := Lib.hid (ht.keep HZ5.out (by omega))
          have HW6 := Lib.hid (Nat.lt_of_lt_of_le HW5.out ht.size)
          have HT6 := Lib.hid (ht.keep HT5.out HTN.out.1)
          clear hs ht
          refine hK.out _ _ (one_at HS6.out.box) (fun hHeld => ?_)
          clear hK K
          try simp only [List.getElem_toArray, List.getElem_cons_zero, List.getElem_cons_succ, Act.put, List.setIfInBounds_toArray, List.set_cons_zero, List.set_cons_succ]
          refine wpAnyH_ready (rs := [13]) (by kernel_rfl) (by simp) ?_
          refine AllReadyH.cons rfl (fun K hK => ?_) AllReadyH.nil
          go_simp
          refine (HC6.out _ _ HS6.out).mono ?_
          rintro e W7 ⟨rfl, hs, ht⟩
          have HS7 := Lib.hid hs
          have HZ7 := Lib.hid (ht.keep HZ6.out (by omega))
          have HW7 := Lib.hid (Nat.lt_of_lt_of_le HW6.out ht.size)
          have HT7 := Lib.hid (ht.keep HT6.out HTN.out.1)
          clear hs ht
          refine hK.out _ _ (one_at HS7.out.box) (fun hHeld => ?_)
          clear hK K
          try simp only [List.getElem_toArray, List.getElem_cons_zero, List.getElem_cons_succ, Act.put, List.setIfInBounds_toArray, List.set_cons_zero, List.set_cons_succ]
          refine wpAnyH_ready (rs := [15]) (by kernel_rfl) (by simp) ?_
          refine AllReadyH.cons rfl (fun K hK => ?_) AllReadyH.nil
          go_simp
          refine (HC7.out _ _ HS7.out).mono ?_
          rintro e W8 ⟨rfl, hs, ht⟩
          have HS8 := Lib.hid hs
          have HZ8 := Lib.hid (ht.keep HZ7.out (by omega))
          have HW8 := Lib.hid (Nat.lt_of_lt_of_le HW7.out ht.size)
          have HT8 := Lib.hid (ht.keep HT7.out HTN.out.1)
          clear hs ht
          refine hK.out _ _ (one_at HS8.out.box) (fun hHeld => ?_)
          clear hK K
          try simp only [List.getElem_toArray, List.getElem_cons_zero, List.getElem_cons_succ, Act.put, List.setIfInBounds_toArray, List.set_cons_zero, List.set_cons_succ]
          refine wpAnyH_ready (rs := [17]) (by kernel_rfl) (by simp) ?_
          refine AllReadyH.cons rfl (fun K hK => ?_) AllReadyH.nil
          go_simp
          refine (HC8.out _ _ HS8.out).mono ?_
          rintro e W9 ⟨rfl, hs, ht⟩
          have HS9 := Lib.hid hs
          have HZ9 := Lib.hid (ht.keep HZ8.out (by omega))
          have HW9 := Lib.hid (Nat.lt_of_lt_of_le HW8.out ht.size)
          have HT9 := Lib.hid (ht.keep HT8.out HTN.out.1)
          clear hs ht
          refine hK.out _ _ (one_at HS9.out.box) (fun hHeld => ?_)
          clear hK K
          try simp only [List.getElem_toArray, List.getElem_cons_zero, List.getElem_cons_succ, Act.put, List.setIfInBounds_toArray, List.set_cons_zero, List.set_cons_succ]
          refine wpAnyH_take (i := 18) (v := ?_) rfl (by kernel_rfl) (by kernel_rfl) (by kernel_rfl) (fun _ _ _ h => h) (Or.inl ⟨by rfl, ?_⟩) (by assumption) ?_
          case refine_2 => (intro w1 hS1; (try dsimp only at hS1); go_simp; try with_reducible rfl)
          try simp only [List.getElem_toArray, List.getElem_cons_zero, List.getElem_cons_succ, Act.put, List.setIfInBounds_toArray, List.set_cons_zero, List.set_cons_succ]
          obtain ⟨z0, z1, z2, z3, z4, z5, z6, z7, z8⟩ := nine_at HT9.out
          obtain ⟨y0, y1, y2, y3, y4, y5, y6, y7, y8⟩ := nine_fr HT9.out
          have HPE := put_end HS9.out HT9.out HTN.out HZ9.out (n1 : Int) (n2 : Int) (n3 : Int) (n4 : Int) (n5 : Int) (n6 : Int) (n7 : Int) (n8 : Int) (n9 : Int)
          refine wpAnyH_ready (rs := [20]) (by kernel_rfl) (by simp) ?_
          refine AllReadyH.cons rfl (fun K hK => ?_) AllReadyH.nil
          go_simp
          refine hK.out _ _ HPE.1 (fun hHeld => ?_)
          clear hK K z0 z1 z2 z3 z4 z5 z6 z7 z8 y0 y1 y2 y3 y4 y5 y6 y7 y8
          try simp only [List.getElem_toArray, List.getElem_cons_zero, List.getElem_cons_succ, Act.put, List.setIfInBounds_toArray, List.set_cons_zero, List.set_cons_succ]
          refine wpAnyH_done (by kernel_rfl) ?_ _
          go_wp2_with fail
          go_meet
          exact ⟨_, rfl, Lib.hid HPE.2.out.1, Lib.hid HPE.2.out.2.1, HTN, Lib.hid HPE.2.out.2.2⟩
      · go_simp
        have hbx := (Below.refl W1.heap.size W1).alloc (Nat.le_refl _) (.cells #[.int .u64 0, .int .i64 0, .int .i64 0, .int .i64 0, .int .u64 0, .int .i64 0, .int .i64 0, .int .i64 0, .int .i64 0] 25)
        have HS1a := Lib.hid (HS1.out.kept hbx)
        have HZ1a := Lib.hid (ex_below HZ1.out hbx)
        have HT1 : Hid ((W1.alloc (.cells #[.int .u64 0, .int .i64 0, .int .i64 0, .int .i64 0, .int .u64 0, .int .i64 0, .int .i64 0, .int .i64 0, .int .i64 0] 25)).heap[W1.heap.size]? = some (.cells #[.int .u64 0, .int .i64 0, .int .i64 0, .int .i64 0, .int .u64 0, .int .i64 0, .int .i64 0, .int .i64 0, .int .i64 0] 25 (0, 0))) := Lib.hid (World.alloc_heap_new W1 (.cells #[.int .u64 0, .int .i64 0, .int .i64 0, .int .i64 0, .int .u64 0, .int .i64 0, .int .i64 0, .int .i64 0, .int .i64 0] 25))
        have HTN : Hid (W1.heap.size ≠ b ∧ w.heap.size + 1 < W1.heap.size) := Lib.hid ⟨by have h0 := HS1.out.rr.lt; have h1 : b < W1.heap.size := h0; omega, HW1.out⟩
        have HW1a := Lib.hid (Nat.lt_of_lt_of_le HW1.out hbx.size)
        clear hbx HS1 HZ1 HW1
        have HS1 := HS1a
        have HZ1 := HZ1a
        have HW1 := HW1a
        clear HS1a HZ1a HW1a
        refine hK.out _ _ (one_at HS1.out.box) (fun hHeld => ?_)
        clear hK K
        try simp only [List.getElem_toArray, List.getElem_cons_zero, List.getElem_cons_succ, Act.put, List.setIfInBounds_toArray, List.set_cons_zero, List.set_cons_succ]
        refine wpAnyH_ready (rs := [3]) (by kernel_rfl) (by simp) ?_
        refine AllReadyH.cons rfl (fun K hK => ?_) AllReadyH.nil
        go_simp
        refine (HC1.out _ _ HS1.out).mono ?_
        rintro e W2 ⟨rfl, hs, ht⟩
        have HS2 := Lib.hid hs
        have HZ2 := Lib.hid (ht.keep HZ1.out (by omega))
        have HW2 := Lib.hid (Nat.lt_of_lt_of_le HW1.out ht.size)
        have HT2 := Lib.hid (ht.keep HT1.out HTN.out.1)
        clear hs ht
        refine hK.out _ _ (one_at HS2.out.box) (fun hHeld => ?_)
        clear hK K
        try simp only [List.getElem_toArray, List.getElem_cons_zero, List.getElem_cons_succ, Act.put, List.setIfInBounds_toArray, List.set_cons_zero, List.set_cons_succ]
        refine wpAnyH_ready (rs := [5]) (by kernel_rfl) (by simp) ?_
        refine AllReadyH.cons rfl (fun K hK => ?_) AllReadyH.nil
        go_simp
        refine (HC2.out _ _ HS2.out).mono ?_
        rintro e W3 ⟨rfl, hs, ht⟩
        have HS3 := Lib.hid hs
        have HZ3 := Lib.hid (ht.keep HZ2.out (by omega))
        have HW3 := Lib.hid (Nat.lt_of_lt_of_le HW2.out ht.size)
        have HT3 := Lib.hid (ht.keep HT2.out HTN.out.1)
        clear hs ht
        refine hK.out _ _ (one_at HS3.out.box) (fun hHeld => ?_)
        clear hK K
        try simp only [List.getElem_toArray, List.getElem_cons_zero, List.getElem_cons_succ, Act.put, List.setIfInBounds_toArray, List.set_cons_zero, List.set_cons_succ]
        refine wpAnyH_ready (rs := [7]) (by kernel_rfl) (by simp) ?_
        refine AllReadyH.cons rfl (fun K hK => ?_) AllReadyH.nil
        go_simp
        refine (HC3.out _ _ HS3.out).mono ?_
        rintro e W4 ⟨rfl, hs, ht⟩
        have HS4 := Lib.hid hs
        have HZ4 := Lib.hid (ht.keep HZ3.out (by omega))
        have HW4 := Lib.hid (Nat.lt_of_lt_of_le HW3.out ht.size)
        have HT4 := Lib.hid (ht.keep HT3.out HTN.out.1)
        clear hs ht
        refine hK.out _ _ (one_at HS4.out.box) (fun hHeld => ?_)
        clear hK K
        try simp only [List.getElem_toArray, List.getElem_cons_zero, List.getElem_cons_succ, Act.put, List.setIfInBounds_toArray, List.set_cons_zero, List.set_cons_succ]
        refine wpAnyH_ready (rs := [9]) (by kernel_rfl) (by simp) ?_
        refine AllReadyH.cons rfl (fun K hK => ?_) AllReadyH.nil
        go_simp
        refine (HC4.out _ _ HS4.out).mono ?_
        rintro e W5 ⟨rfl, hs, ht⟩
        have HS5 := Lib.hid hs
        have HZ5 := Lib.hid (ht.keep HZ4.out (by omega))
        have HW5 := Lib.hid (Nat.lt_of_lt_of_le HW4.out ht.size)
        have HT5 := Lib.hid (ht.keep HT4.out HTN.out.1)
        clear hs ht
        refine hK.out _ _ (one_at HS5.out.box) (fun hHeld => ?_)
        clear hK K
        try simp only [List.getElem_toArray, List.getElem_cons_zero, List.getElem_cons_succ, Act.put, List.setIfInBounds_toArray, List.set_cons_zero, List.set_cons_succ]
        refine wpAnyH_ready (rs := [11]) (by kernel_rfl) (by simp) ?_
        refine AllReadyH.cons rfl (fun K hK => ?_) AllReadyH.nil
        go_simp
        refine (HC5.out _ _ HS5.out).mono ?_
        rintro e W6 ⟨rfl, hs, ht⟩
        have HS6 := Lib.hid hs
        have HZ6 := Lib.hid (ht.keep HZ5.out (by omega))
        have HW6 := Lib.hid (Nat.lt_of_lt_of_le HW5.out ht.size)
        have HT6 := Lib.hid (ht.keep HT5.out HTN.out.1)
        clear hs ht
        refine hK.out _ _ (one_at HS6.out.box) (fun hHeld => ?_)
        clear hK K
        try simp only [List.getElem_toArray, List.getElem_cons_zero, List.getElem_cons_succ, Act.put, List.setIfInBounds_toArray, List.set_cons_zero, List.set_cons_succ]
        refine wpAnyH_ready (rs := [13]) (by kernel_rfl) (by simp) ?_
        refine AllReadyH.cons rfl (fun K hK => ?_) AllReadyH.nil
        go_simp
        refine (HC6.out _ _ HS6.out).mono ?_
        rintro e W7 ⟨rfl, hs, ht⟩
        have HS7 := Lib.hid hs
        have HZ7 := Lib.hid (ht.keep HZ6.out (by omega))
        have HW7 := Lib.hid (Nat.lt_of_lt_of_le HW6.out ht.size)
        have HT7 := Lib.hid (ht.keep HT6.out HTN.out.1)
        clear hs ht
        refine hK.out _ _ (one_at HS7.out.box) (fun hHeld => ?_)
        clear hK K
        try simp only [List.getElem_toArray, List.getElem_cons_zero, List.getElem_cons_succ, Act.put, List.setIfInBounds_toArray, List.set_cons_zero, List.set_cons_succ]
        refine wpAnyH_ready (rs := [15]) (by kernel_rfl) (by simp) ?_
        refine AllReadyH.cons rfl (fun K hK => ?_) AllReadyH.nil
        go_simp
        refine (HC7.out _ _ HS7.out).mono ?_
        rintro e W8 ⟨rfl, hs, ht⟩
        have HS8 := Lib.hid hs
        have HZ8 := Lib.hid (ht.keep HZ7.out (by omega))
        have HW8 := Lib.hid (Nat.lt_of_lt_of_le HW7.out ht.size)
        have HT8 := Lib.hid (ht.keep HT7.out HTN.out.1)
        clear hs ht
        refine hK.out _ _ (one_at HS8.out.box) (fun hHeld => ?_)
        clear hK K
        try simp only [List.getElem_toArray, List.getElem_cons_zero, List.getElem_cons_succ, Act.put, List.setIfInBounds_toArray, List.set_cons_zero, List.set_cons_succ]
        refine wpAnyH_ready (rs := [17]) (by kernel_rfl) (by simp) ?_
        refine AllReadyH.cons rfl (fun K hK => ?_) AllReadyH.nil
        go_simp
        refine (HC8.out _ _ HS8.out).mono ?_
        rintro e W9 ⟨rfl, hs, ht⟩
        have HS9 := Lib.hid hs
        have HZ9 := Lib.hid (ht.keep HZ8.out (by omega))
        have HW9 := Lib.hid (Nat.lt_of_lt_of_le HW8.out ht.size)
        have HT9 := Lib.hid (ht.keep HT8.out HTN.out.1)
        clear hs ht
        refine hK.out _ _ (one_at HS9.out.box) (fun hHeld => ?_)
        clear hK K
        try simp only [List.getElem_toArray, List.getElem_cons_zero, List.getElem_cons_succ, Act.put, List.setIfInBounds_toArray, List.set_cons_zero, List.set_cons_succ]
        refine wpAnyH_take (i := 18) (v := ?_) rfl (by kernel_rfl) (by kernel_rfl) (by kernel_rfl) (fun _ _ _ h => h) (Or.inl ⟨by rfl, ?_⟩) (by assumption) ?_
        case refine_2 => (intro w1 hS1; (try dsimp only at hS1); go_simp; try with_reducible rfl)
        try simp only [List.getElem_toArray, List.getElem_cons_zero, List.getElem_cons_succ, Act.put, List.setIfInBounds_toArray, List.set_cons_zero, List.set_cons_succ]
        obtain ⟨z0, z1, z2, z3, z4, z5, z6, z7, z8⟩ := nine_at HT9.out
        obtain ⟨y0, y1, y2, y3, y4, y5, y6, y7, y8⟩ := nine_fr HT9.out
        have HPE := put_end HS9.out HT9.out HTN.out HZ9.out (n1 : Int) (n2 : Int) (n3 : Int) (n4 : Int) (n5 : Int) (n6 : Int) (n7 : Int) (n8 : Int) (n9 : Int)
        refine wpAnyH_ready (rs := [20]) (by kernel_rfl) (by simp) ?_
        refine AllReadyH.cons rfl (fun K hK => ?_) AllReadyH.nil
        go_simp
        refine hK.out _ _ HPE.1 (fun hHeld => ?_)
        clear hK K z0 z1 z2 z3 z4 z5 z6 z7 z8 y0 y1 y2 y3 y4 y5 y6 y7 y8
        try simp only [List.getElem_toArray, List.getElem_cons_zero, List.getElem_cons_succ, Act.put, List.setIfInBounds_toArray, List.set_cons_zero, List.set_cons_succ]
        refine wpAnyH_done (by kernel_rfl) ?_ _
        go_wp2_with fail
        go_meet
        exact ⟨_, rfl, Lib.hid HPE.2.out.1, Lib.hid HPE.2.out.2.1, HTN, Lib.hid HPE.2.out.2.2⟩
    · go_simp
      have hbx := (Below.refl W0.drew.heap.size W0.drew).alloc (Nat.le_refl _) (.cells #[.int .u64 0, .int .i64 0, .int .i64 0, .int .i64 0, .int .u64 0, .int .i64 0, .int .i64 0, .int .i64 0, .int .i64 0] 25)
      have HS0a := Lib.hid (HS0.out.kept hbx)
      have HZ0a := Lib.hid (ex_below HZ0.out hbx)
      have HT0 : Hid ((W0.drew.alloc (.cells #[.int .u64 0, .int .i64 0, .int .i64 0, .int .i64 0, .int .u64 0, .int .i64 0, .int .i64 0, .int .i64 0, .int .i64 0] 25)).heap[W0.heap.size]? = some (.cells #[.int .u64 0, .int .i64 0, .int .i64 0, .int .i64 0, .int .u64 0, .int .i64 0, .int .i64 0, .int .i64 0, .int .i64 0] 25 (0, 0))) := Lib.hid (World.alloc_heap_new W0.drew (.cells #[.int .u64 0, .int .i64 0, .int .i64 0, .int .i64 0, .int .u64 0, .int .i64 0, .int .i64 0, .int .i64 0, .int .i64 0] 25))
      have HTN : Hid (W0.heap.size ≠ b ∧ w.heap.size + 1 < W0.heap.size) := Lib.hid ⟨by have h0 := HS0.out.rr.lt; have h1 : b < W0.heap.size := h0; omega, HW0.out⟩
      have HW0a := Lib.hid (Nat.lt_of_lt_of_le HW0.out hbx.size)
      clear hbx HS0 HZ0 HW0
      have HS0 := HS0a
      have HZ0 := HZ0a
      have HW0 := HW0a
      clear HS0a HZ0a HW0a
      refine hK.out _ _ (one_at HS0.out.box) (fun hHeld => ?_)
      clear hK K
      try simp only [List.getElem_toArray, List.getElem_cons_zero, List.getElem_cons_succ, Act.put, List.setIfInBounds_toArray, List.set_cons_zero, List.set_cons_succ]
      refine wpAnyH_ready (rs := [1]) (by kernel_rfl) (by simp) ?_
      refine AllReadyH.cons rfl (fun K hK => ?_) AllReadyH.nil
      go_simp
      refine (HC0.out _ _ HS0.out).mono ?_
      rintro e W1 ⟨rfl, hs, ht⟩
      have HS1 := Lib.hid hs
      have HZ1 := Lib.hid (ht.keep HZ0.out (by omega))
      have HW1 := Lib.hid (Nat.lt_of_lt_of_le HW0.out ht.size)
      have HT1 := Lib.hid (ht.keep HT0.out HTN.out.1)
      clear hs ht
      refine hK.out _ _ (one_at HS1.out.box) (fun hHeld => ?_)
      clear hK K
      try simp only [List.getElem_toArray, List.getElem_cons_zero, List.getElem_cons_succ, Act.put, List.setIfInBounds_toArray, List.set_cons_zero, List.set_cons_succ]
      refine wpAnyH_ready (rs := [3]) (by kernel_rfl) (by simp) ?_
      refine AllReadyH.cons rfl (fun K hK => ?_) AllReadyH.nil
      go_simp
      refine (HC1.out _ _ HS1.out).mono ?_
      rintro e W2 ⟨rfl, hs, ht⟩
      have HS2 := Lib.hid hs
      have HZ2 := Lib.hid (ht.keep HZ1.out (by omega))
      have HW2 := Lib.hid (Nat.lt_of_lt_of_le HW1.out ht.size)
      have HT2 := Lib.hid (ht.keep HT1.out HTN.out.1)
      clear hs ht
      refine hK.out _ _ (one_at HS2.out.box) (fun hHeld => ?_)
      clear hK K
      try simp only [List.getElem_toArray, List.getElem_cons_zero, List.getElem_cons_succ, Act.put, List.setIfInBounds_toArray, List.set_cons_zero, List.set_cons_succ]
      refine wpAnyH_ready (rs := [5]) (by kernel_rfl) (by simp) ?_
      refine AllReadyH.cons rfl (fun K hK => ?_) AllReadyH.nil
      go_simp
      refine (HC2.out _ _ HS2.out).mono ?_
      rintro e W3 ⟨rfl, hs, ht⟩
      have HS3 := Lib.hid hs
      have HZ3 := Lib.hid (ht.keep HZ2.out (by omega))
      have HW3 := Lib.hid (Nat.lt_of_lt_of_le HW2.out ht.size)
      have HT3 := Lib.hid (ht.keep HT2.out HTN.out.1)
      clear hs ht
      refine hK.out _ _ (one_at HS3.out.box) (fun hHeld => ?_)
      clear hK K
      try simp only [List.getElem_toArray, List.getElem_cons_zero, List.getElem_cons_succ, Act.put, List.setIfInBounds_toArray, List.set_cons_zero, List.set_cons_succ]
      refine wpAnyH_ready (rs := [7]) (by kernel_rfl) (by simp) ?_
      refine AllReadyH.cons rfl (fun K hK => ?_) AllReadyH.nil
      go_simp
      refine (HC3.out _ _ HS3.out).mono ?_
      rintro e W4 ⟨rfl, hs, ht⟩
      have HS4 := Lib.hid hs
      have HZ4 := Lib.hid (ht.keep HZ3.out (by omega))
      have HW4 := Lib.hid (Nat.lt_of_lt_of_le HW3.out ht.size)
      have HT4 := Lib.hid (ht.keep HT3.out HTN.out.1)
      clear hs ht
      refine hK.out _ _ (one_at HS4.out.box) (fun hHeld => ?_)
      clear hK K
      try simp only [List.getElem_toArray, List.getElem_cons_zero, List.getElem_cons_succ, Act.put, List.setIfInBounds_toArray, List.set_cons_zero, List.set_cons_succ]
      refine wpAnyH_ready (rs := [9]) (by kernel_rfl) (by simp) ?_
      refine AllReadyH.cons rfl (fun K hK => ?_) AllReadyH.nil
      go_simp
      refine (HC4.out _ _ HS4.out).mono ?_
      rintro e W5 ⟨rfl, hs, ht⟩
      have HS5 := Lib.hid hs
      have HZ5 := Lib.hid (ht.keep HZ4.out (by omega))
      have HW5 := Lib.hid (Nat.lt_of_lt_of_le HW4.out ht.size)
      have HT5 := Lib.hid (ht.keep HT4.out HTN.out.1)
      clear hs ht
      refine hK.out _ _ (one_at HS5.out.box) (fun hHeld => ?_)
      clear hK K
      try simp only [List.getElem_toArray, List.getElem_cons_zero, List.getElem_cons_succ, Act.put, List.setIfInBounds_toArray, List.set_cons_zero, List.set_cons_succ]
      refine wpAnyH_ready (rs := [11]) (by kernel_rfl) (by simp) ?_
      refine AllReadyH.cons rfl (fun K hK => ?_) AllReadyH.nil
      go_simp
      refine (HC5.out _ _ HS5.out).mono ?_
      rintro e W6 ⟨rfl, hs, ht⟩
      have HS6 := Lib.hid hs
      have HZ6 := Lib.hid (ht.keep HZ5.out (by omega))
      have HW6 := Lib.hid (Nat.lt_of_lt_of_le HW5.out ht.size)
      have HT6 := Lib.hid (ht.keep HT5.out HTN.out.1)
      clear hs ht
      refine hK.out _ _ (one_at HS6.out.box) (fun hHeld => ?_)
      clear hK K
      try simp only [List.getElem_toArray, List.getElem_cons_zero, List.getElem_cons_succ, Act.put, List.setIfInBounds_toArray, List.set_cons_zero, List.set_cons_succ]
      refine wpAnyH_ready (rs := [13]) (by kernel_rfl) (by simp) ?_
      refine AllReadyH.cons rfl (fun K hK => ?_) AllReadyH.nil
      go_simp
      refine (HC6.out _ _ HS6.out).mono ?_
      rintro e W7 ⟨rfl, hs, ht⟩
      have HS7 := Lib.hid hs
      have HZ7 := Lib.hid (ht.keep HZ6.out (by omega))
      have HW7 := Lib.hid (Nat.lt_of_lt_of_le HW6.out ht.size)
      have HT7 := Lib.hid (ht.keep HT6.out HTN.out.1)
      clear hs ht
      refine hK.out _ _ (one_at HS7.out.box) (fun hHeld => ?_)
      clear hK K
      try simp only [List.getElem_toArray, List.getElem_cons_zero, List.getElem_cons_succ, Act.put, List.setIfInBounds_toArray, List.set_cons_zero, List.set_cons_succ]
      refine wpAnyH_ready (rs := [15]) (by kernel_rfl) (by simp) ?_
      refine AllReadyH.cons rfl (fun K hK => ?_) AllReadyH.nil
      go_simp
      refine (HC7.out _ _ HS7.out).mono ?_
      rintro e W8 ⟨rfl, hs, ht⟩
      have HS8 := Lib.hid hs
      have HZ8 := Lib.hid (ht.keep HZ7.out (by omega))
      have HW8 := Lib.hid (Nat.lt_of_lt_of_le HW7.out ht.size)
      have HT8 := Lib.hid (ht.keep HT7.out HTN.out.1)
      clear hs ht
      refine hK.out _ _ (one_at HS8.out.box) (fun hHeld => ?_)
      clear hK K
      try simp only [List.getElem_toArray, List.getElem_cons_zero, List.getElem_cons_succ, Act.put, List.setIfInBounds_toArray, List.set_cons_zero, List.set_cons_succ]
      refine wpAnyH_ready (rs := [17]) (by kernel_rfl) (by simp) ?_
      refine AllReadyH.cons rfl (fun K hK => ?_) AllReadyH.nil
      go_simp
      refine (HC8.out _ _ HS8.out).mono ?_
      rintro e W9 ⟨rfl, hs, ht⟩
      have HS9 := Lib.hid hs
      have HZ9 := Lib.hid (ht.keep HZ8.out (by omega))
      have HW9 := Lib.hid (Nat.lt_of_lt_of_le HW8.out ht.size)
      have HT9 := Lib.hid (ht.keep HT8.out HTN.out.1)
      clear hs ht
      refine hK.out _ _ (one_at HS9.out.box) (fun hHeld => ?_)
      clear hK K
      try simp only [List.getElem_toArray, List.getElem_cons_zero, List.getElem_cons_succ, Act.put, List.setIfInBounds_toArray, List.set_cons_zero, List.set_cons_succ]
      refine wpAnyH_take (i := 18) (v := ?_) rfl (by kernel_rfl) (by kernel_rfl) (by kernel_rfl) (fun _ _ _ h => h) (Or.inl ⟨by rfl, ?_⟩) (by assumption) ?_
      case refine_2 => (intro w1 hS1; (try dsimp only at hS1); go_simp; try with_reducible rfl)
      try simp only [List.getElem_toArray, List.getElem_cons_zero, List.getElem_cons_succ, Act.put, List.setIfInBounds_toArray, List.set_cons_zero, List.set_cons_succ]
      obtain ⟨z0, z1, z2, z3, z4, z5, z6, z7, z8⟩ := nine_at HT9.out
      obtain ⟨y0, y1, y2, y3, y4, y5, y6, y7, y8⟩ := nine_fr HT9.out
      have HPE := put_end HS9.out HT9.out HTN.out HZ9.out (n1 : Int) (n2 : Int) (n3 : Int) (n4 : Int) (n5 : Int) (n6 : Int) (n7 : Int) (n8 : Int) (n9 : Int)
      refine wpAnyH_ready (rs := [20]) (by kernel_rfl) (by simp) ?_
      refine AllReadyH.cons rfl (fun K hK => ?_) AllReadyH.nil
      go_simp
      refine hK.out _ _ HPE.1 (fun hHeld => ?_)
      clear hK K z0 z1 z2 z3 z4 z5 z6 z7 z8 y0 y1 y2 y3 y4 y5 y6 y7 y8
      try simp only [List.getElem_toArray, List.getElem_cons_zero, List.getElem_cons_succ, Act.put, List.setIfInBounds_toArray, List.set_cons_zero, List.set_cons_succ]
      refine wpAnyH_done (by kernel_rfl) ?_ _
      go_wp2_with fail
      go_meet
      exact ⟨_, rfl, Lib.hid HPE.2.out.1, Lib.hid HPE.2.out.2.1, HTN, Lib.hid HPE.2.out.2.2⟩
  case rest =>
    clear HS0 HZ0
    obtain ⟨T, rfl, HT, HS, HTN, HZ⟩ := hcut
    have hbx := one_at HS.out.box
    have HBD := Lib.hid (bad_rd b d9 q9 wc HS.out.rr)
    cases q9
    case true =>
      have hokf : ok = false := by rw [← HOK.out.1]; rfl
      subst hokf
      try simp only [Bool.false_eq_true, if_false, Bool.not_false]
      have HS2 := HS
      have HZ2 := HZ
      go_wp2_with (go_at_call 26; refine HBD.out.mono ?_; rintro e w' ⟨rfl, rfl⟩)
      go_wp2_with (go_at_call 59; refine (fail_rd b _ _ _ HS2.out.rr).mono ?_; rintro e W6 ⟨rfl, hr, ht⟩; have HR6 := Lib.hid (And.intro hr (HS2.out.rd.trans ht)); have HZ6 := Lib.hid (ht.keep HZ2.out (by omega)); clear hr ht; obtain ⟨y0, y1, y2, y3, y4, y5, y6, y7, y8⟩ := nine_fr HZ6.out; obtain ⟨z0, z1, z2, z3, z4, z5, z6, z7, z8⟩ := nine_at HZ6.out)
      obtain ⟨hp9, hoth, -⟩ := put9_at HZ6.out (.int .u64 0) (.int .i64 0) (.int .i64 0) (.int .i64 0) (.int .u64 0) (.int .i64 0) (.int .i64 0) (.int .i64 0) (.int .i64 0)
      obtain ⟨p0, p1, p2, p3, p4, p5, p6, p7, p8⟩ := nine_at hp9
      have hrr := HR6.out.1.nine HZ6.out hoth (by omega)
      have hrd := HR6.out.2.put9 (show w.heap.size ≤ w.heap.size + 1 by omega) (.int .u64 0) (.int .i64 0) (.int .i64 0) (.int .i64 0) (.int .u64 0) (.int .i64 0) (.int .i64 0) (.int .i64 0) (.int .i64 0)
      unfold put9 at p0 p1 p2 p3 p4 p5 p6 p7 p8 hrr hrd
      exact bodyPost_ret (v := .tuple #[.agg #[.int .u64 0, .int .i64 0, .int .i64 0, .int .i64 0, .int .u64 0, .int .i64 0, .int .i64 0, .int .i64 0, .int .i64 0], .bool false]) (by simp [results, Try.results58, go_sem, p0, p1, p2, p3, p4, p5, p6, p7, p8]) rfl ⟨rfl, hrr, hrd⟩
    case false =>
      have hokf : soundB (n2 : Int) n3 n4 n5 n6 n7 n8 n9 = ok := HOK.out.1
      obtain ⟨c0, c1, c2, c3, c4, c5, c6, c7, c8⟩ := nine_at HT.out
      have HSO := Lib.hid (sound_any n1 n2 n3 n4 n5 n6 n7 n8 n9 wc HFR.out)
      rw [hokf] at HSO
      unfold tkV at HSO
      clear hokf
      cases ok
      case false =>
        try simp only [Bool.false_eq_true, if_false, Bool.not_false]
        go_wp2_with first
          | (go_at_call 26; refine HBD.out.mono ?_; rintro e w' ⟨rfl, rfl⟩)
          | (go_at_call 45; refine HSO.out.mono ?_; rintro e W5 ⟨rfl, hb⟩; have HS2 := Lib.hid (HS.out.kept hb); have HZ2 := Lib.hid (ex_below HZ.out hb); clear hb c0 c1 c2 c3 c4 c5 c6 c7 c8 hbx; have hbx := one_at HS2.out.box)
          | (go_at_call 59; refine (fail_rd b _ _ _ HS2.out.rr).mono ?_; rintro e W6 ⟨rfl, hr, ht⟩; have HR6 := Lib.hid (And.intro hr (HS2.out.rd.trans ht)); have HZ6 := Lib.hid (ht.keep HZ2.out (by omega)); clear hr ht; obtain ⟨y0, y1, y2, y3, y4, y5, y6, y7, y8⟩ := nine_fr HZ6.out; obtain ⟨z0, z1, z2, z3, z4, z5, z6, z7, z8⟩ := nine_at HZ6.out)
        obtain ⟨hp9, hoth, -⟩ := put9_at HZ6.out (.int .u64 0) (.int .i64 0) (.int .i64 0) (.int .i64 0) (.int .u64 0) (.int .i64 0) (.int .i64 0) (.int .i64 0) (.int .i64 0)
        obtain ⟨p0, p1, p2, p3, p4, p5, p6, p7, p8⟩ := nine_at hp9
        have hrr := HR6.out.1.nine HZ6.out hoth (by omega)
        have hrd := HR6.out.2.put9 (show w.heap.size ≤ w.heap.size + 1 by omega) (.int .u64 0) (.int .i64 0) (.int .i64 0) (.int .i64 0) (.int .u64 0) (.int .i64 0) (.int .i64 0) (.int .i64 0) (.int .i64 0)
        unfold put9 at p0 p1 p2 p3 p4 p5 p6 p7 p8 hrr hrd
        exact bodyPost_ret (v := .tuple #[.agg #[.int .u64 0, .int .i64 0, .int .i64 0, .int .i64 0, .int .u64 0, .int .i64 0, .int .i64 0, .int .i64 0, .int .i64 0], .bool false]) (by simp [results, Try.results58, go_sem, p0, p1, p2, p3, p4, p5, p6, p7, p8]) rfl ⟨rfl, hrr, hrd⟩
      case true =>
        try simp only [if_true, Bool.not_true]
        go_wp2_with first
          | (go_at_call 26; refine HBD.out.mono ?_; rintro e w' ⟨rfl, rfl⟩)
          | (go_at_call 45; refine HSO.out.mono ?_; rintro e W6 ⟨rfl, hb⟩; have HS2 := Lib.hid (HS.out.kept hb); have HZ6 := Lib.hid (ex_below HZ.out hb); have HT6 := Lib.hid (ex_below HT.out hb); have HR6 := Lib.hid (And.intro HS2.out.rr HS2.out.rd); clear hb c0 c1 c2 c3 c4 c5 c6 c7 c8 hbx; obtain ⟨c0, c1, c2, c3, c4, c5, c6, c7, c8⟩ := nine_at HT6.out; obtain ⟨y0, y1, y2, y3, y4, y5, y6, y7, y8⟩ := nine_fr HZ6.out; obtain ⟨z0, z1, z2, z3, z4, z5, z6, z7, z8⟩ := nine_at HZ6.out)
        obtain ⟨hp9, hoth, -⟩ := put9_at HZ6.out (.int .u64 (n1 : Int)) (.int .i64 (n2 : Int)) (.int .i64 (n3 : Int)) (.int .i64 (n4 : Int)) (.int .u64 (n5 : Int)) (.int .i64 (n6 : Int)) (.int .i64 (n7 : Int)) (.int .i64 (n8 : Int)) (.int .i64 (n9 : Int))
        obtain ⟨p0, p1, p2, p3, p4, p5, p6, p7, p8⟩ := nine_at hp9
        have hrr := HR6.out.1.nine HZ6.out hoth (by omega)
        have hrd := HR6.out.2.put9 (show w.heap.size ≤ w.heap.size + 1 by omega) (.int .u64 (n1 : Int)) (.int .i64 (n2 : Int)) (.int .i64 (n3 : Int)) (.int .i64 (n4 : Int)) (.int .u64 (n5 : Int)) (.int .i64 (n6 : Int)) (.int .i64 (n7 : Int)) (.int .i64 (n8 : Int)) (.int .i64 (n9 : Int))
        unfold put9 at p0 p1 p2 p3 p4 p5 p6 p7 p8 hrr hrd
        exact bodyPost_ret (v := .tuple #[.agg #[.int .u64 ((n1 : Int)), .int .i64 ((n2 : Int)), .int .i64 ((n3 : Int)), .int .i64 ((n4 : Int)), .int .u64 ((n5 : Int)), .int .i64 ((n6 : Int)), .int .i64 ((n7 : Int)), .int .i64 ((n8 : Int)), .int .i64 ((n9 : Int))], .bool true]) (by simp [results, Try.results58, go_sem, p0, p1, p2, p3, p4, p5, p6, p7, p8]) rfl ⟨rfl, hrr, hrd⟩
end Go.Proofs.Ytnhaakdjijjinaa

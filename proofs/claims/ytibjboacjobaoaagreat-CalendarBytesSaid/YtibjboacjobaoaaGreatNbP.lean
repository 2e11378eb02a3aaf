/- Rows of spans that are written. -/
import Derived.Test.YtibjboacjobaoaaGreatMgBA
import Derived.Deep.RegionHeld3
import Derived.Deep.LoopGhost
namespace Go.Proofs.YtibjboacjobaoaaGreat
open Go.RowKit
theorem wrap_up (k : Nat) (h : k ≤ 1000000) : wrap64 ((k : Int) + 1) = (k : Int) + 1 := IntWalk.wrap64_in _ ⟨by omega, by omega⟩
set_option maxRecDepth 100000 in
set_option maxHeartbeats 8000000 in
theorem put_spans (b base : Nat) (v : Value) (bs : List Nat) (a : Option Addr) (n ca : Nat) (F T : Nat → Int) (w : World) (hw : WR w b base v bs) (hS : Sps w a n F T) (hfar : FarR b a n) (hn : n ≤ 1000) (hnn : NonNeg F T n) (hbl : bs.length ≤ 1000000) :
    Calls Tryz.prog 53 #[.pointer (some ⟨b, 0, none⟩), .slice a n ca] w fun e w' => e = .returned (.tuple #[]) ∧ Wrote b base v w (bs ++ rowW F T n) w' := by
  have hup := hS.up
  have HUP := Lib.hid hup
  have HS := Lib.hid hS
  have HFR := Lib.hid hfar
  have HNN := Lib.hid hnn
  have HBL := Lib.hid hbl
  have HBB := Lib.hid (And.intro hw.2.1 hw.base_le)
  have e0 : IntKind.u64.wrap (n : Int) = (n : Int) := IntWalk.u64_in _ ⟨by omega, by omega⟩
  have h0 := num_one b base v n bs w hw (by omega) (by omega)
  have HN := Lib.hid hn
  clear hw hS hfar hnn hbl hup hn
  go_enter Tryz.func53, Tryz.ntmps53
  go_wp2_with fail
  refine h0.mono ?_
  rintro e w1 ⟨rfl, hwr⟩
  have HW1 : Hid (Wrote b base v w (bs ++ (num 0 n ++ pW (pairs F T 0))) w1) := Lib.hid (by simpa [pairs, pW] using hwr)
  clear h0 hwr
  go_wp2_with fail
  go_loopg [14] n (fun kx s14 wr => ∃ (k : Nat), s14 = .int .i64 k ∧ k ≤ n ∧ n - k ≤ kx ∧ Hid (Wrote b base v w (bs ++ (num 0 n ++ pW (pairs F T k))) wr))
  case atStart => exact ⟨0, rfl, by omega, by omega, HW1⟩
  case round =>
    obtain ⟨k, rfl, hk, hkx, HW⟩ := hrel
    by_cases hlt : k < n
    · have hltz : (k : Int) < (n : Int) := by omega
      have hk0 : (0 : Int) ≤ (k : Int) := by omega
      obtain ⟨v1, hw1, ht1, hm1⟩ := HW.out
      have hS1 := HS.out.turn ht1 HFR.out HBB.out.1 HBB.out.2
      obtain ⟨ab, ao, rfl, hal, c0, c1, x1, x2, x3, x4⟩ := hS1.at (Below.refl _ _) k hlt
      obtain ⟨p0, p1⟩ := HNN.out k hlt
      obtain ⟨f, hf⟩ : ∃ f : Nat, F k = (f : Int) := ⟨(F k).toNat, by omega⟩
      obtain ⟨t, ht⟩ : ∃ t : Nat, T k = (t : Int) := ⟨(T k).toNat, by omega⟩
      have HSN := Lib.hid (rowW_snoc F T n k f t hf ht)
      rw [hf] at c0 x1 x2
      rw [ht] at c1 x3 x4
      have ef : IntKind.u64.wrap (f : Int) = (f : Int) := IntWalk.u64_in _ ⟨by omega, by omega⟩
      have et : IntKind.u64.wrap (t : Int) = (t : Int) := IntWalk.u64_in _ ⟨by omega, by omega⟩
      have HLL : Hid ((bs ++ (num 0 n ++ pW (pairs F T k))).length ≤ 10000000) := Lib.hid (by
        have := rowW_len F T n k HN.out hk HUP.out
        have := HBL.out
        have := HN.out
        rw [List.length_append]; omega)
      have B1 : Below wr.heap.size wr (wr.alloc (.cells #[.int .i64 f, .int .i64 t] 101)) := (Below.refl _ _).alloc (Nat.le_refl _) _
      have hnt := num_two b base v1 f t (bs ++ (num 0 n ++ pW (pairs F T k))) (wr.alloc (.cells #[.int .i64 f, .int .i64 t] 101)) (hw1.kept B1) HLL.out (by omega) (by omega)
      rw [show (wr.alloc (.cells #[.int .i64 f, .int .i64 t] 101)).heap.size = wr.heap.size + 1 from World.size_alloc ..] at hnt
      have HJ : Hid (∀ w', Wrote b base v1 (wr.alloc (.cells #[.int .i64 f, .int .i64 t] 101)) ((bs ++ (num 0 n ++ pW (pairs F T k))) ++ (num 0 f ++ num 0 t)) w' → Wrote b base v w (bs ++ (num 0 n ++ pW (pairs F T (k + 1)))) w') := Lib.hid (fun w' h => by
        rw [HSN.out, ← List.append_assoc]
        exact Wrote.join hw1 ht1 hm1 (h.after B1))
      clear hw1 ht1 hm1 hS1 HW B1 p0 p1 hf ht x1 x2 x3 x4
      go_wp2_with fail
      refine hnt.mono ?_
      rintro e w4 ⟨rfl, hwr4⟩
      have HW4 := Lib.hid (HJ.out _ hwr4)
      clear hnt hwr4
      go_wp2_with fail
      go_roundg (n - (k + 1))
      case measure => omega
      case rel =>
        have hn9 := HN.out
        clear ef et e0 c0 c1 hal
        have hw64 : wrap64 ((k : Int) + 1) = (k : Int) + 1 := wrap_up k (by omega)
        exact ⟨k + 1, by rw [hw64]; rfl, by omega, by omega, HW4⟩
    · have hltz : ¬ (k : Int) < (n : Int) := by omega
      obtain rfl : k = n := by omega
      go_wp2_with fail
      go_end0
      exact ⟨rfl, HW.out⟩
end Go.Proofs.YtibjboacjobaoaaGreat

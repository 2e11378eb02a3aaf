/- Tickets: the reference's Put. -/
import Derived.Test.YtnhaakdjijjinaaTbE
namespace Go.Proofs.Ytnhaakdjijjinaa
open Go.RowKit
set_option maxRecDepth 100000 in
set_option maxHeartbeats 16000000 in
theorem rput_any (n1 n2 n3 n4 n5 n6 n7 n8 n9 : Nat) (b1 : n1 < 18446744073709551616) (b2 : n2 < 9223372036854775808) (b3 : n3 < 9223372036854775808) (b4 : n4 < 9223372036854775808) (b5 : n5 < 18446744073709551616) (b6 : n6 < 9223372036854775808) (b7 : n7 < 9223372036854775808) (b8 : n8 < 9223372036854775808) (b9 : n9 < 9223372036854775808) (w : World) :
    Calls Try.prog 63 #[tkV n1 n2 n3 n4 n5 n6 n7 n8 n9] w (Owned w (nums [n1, n2, n3, n4, n5, n6, n7, n8, n9])) := by
  obtain ⟨ns, hns⟩ : ∃ ns : List Nat, [n1, n2, n3, n4, n5, n6, n7, n8, n9] = ns := ⟨_, rfl⟩
  have HNN := Lib.hid (nine_nums n1 n2 n3 n4 n5 n6 n7 n8 n9 b1 b2 b3 b4 b5 b6 b7 b8 b9)
  have HNL : Hid (ns.length = 9) := Lib.hid (by rw [← hns]; rfl)
  have e2 : IntKind.u64.wrap (n2 : Int) = (n2 : Int) := IntWalk.u64_in _ ⟨by omega, by omega⟩
  have e3 : IntKind.u64.wrap (n3 : Int) = (n3 : Int) := IntWalk.u64_in _ ⟨by omega, by omega⟩
  have e4 : IntKind.u64.wrap (n4 : Int) = (n4 : Int) := IntWalk.u64_in _ ⟨by omega, by omega⟩
  have e6 : IntKind.u64.wrap (n6 : Int) = (n6 : Int) := IntWalk.u64_in _ ⟨by omega, by omega⟩
  have e7 : IntKind.u64.wrap (n7 : Int) = (n7 : Int) := IntWalk.u64_in _ ⟨by omega, by omega⟩
  have e8 : IntKind.u64.wrap (n8 : Int) = (n8 : Int) := IntWalk.u64_in _ ⟨by omega, by omega⟩
  have e9 : IntKind.u64.wrap (n9 : Int) = (n9 : Int) := IntWalk.u64_in _ ⟨by omega, by omega⟩
  obtain ⟨B2, s0, sz⟩ := box1 w #[.int .u64 (n1 : Int), .int .i64 (n2 : Int), .int .i64 (n3 : Int), .int .i64 (n4 : Int), .int .u64 (n5 : Int), .int .i64 (n6 : Int), .int .i64 (n7 : Int), .int .i64 (n8 : Int), .int .i64 (n9 : Int)] 25
  obtain ⟨c0, c1, c2, c3, c4, c5, c6, c7, c8⟩ := nine_at s0
  have HB := Lib.hid B2
  clear b1 b2 b3 b4 b5 b6 b7 b8 b9 B2 s0 sz
  unfold tkV
  go_enter Try.func63, Try.ntmps63
  go_wp2_with fail
  have hsz : ((w.alloc (.cells #[.int .u64 (n1 : Int), .int .i64 (n2 : Int), .int .i64 (n3 : Int), .int .i64 (n4 : Int), .int .u64 (n5 : Int), .int .i64 (n6 : Int), .int .i64 (n7 : Int), .int .i64 (n8 : Int), .int .i64 (n9 : Int)] 25))).heap.size = w.heap.size + 1 := by simp
  generalize (w.alloc (.cells #[.int .u64 (n1 : Int), .int .i64 (n2 : Int), .int .i64 (n3 : Int), .int .i64 (n4 : Int), .int .u64 (n5 : Int), .int .i64 (n6 : Int), .int .i64 (n7 : Int), .int .i64 (n8 : Int), .int .i64 (n9 : Int)] 25)) = W0 at HB c0 c1 c2 c3 c4 c5 c6 c7 c8 hsz ⊢
  have b1 : Below W0.heap.size W0 (W0.alloc (.cells #[.int .u64 (n1 : Int), .int .u64 (n2 : Int), .int .u64 (n3 : Int), .int .u64 (n4 : Int), .int .u64 (n5 : Int), .int .u64 (n6 : Int), .int .u64 (n7 : Int), .int .u64 (n8 : Int), .int .u64 (n9 : Int)] 23)) := (Below.refl _ _).alloc (Nat.le_refl _) _
  have hrv := rv_nine W0 (w.heap.size + 1) 23 (.int .u64 (n1 : Int)) (.int .u64 (n2 : Int)) (.int .u64 (n3 : Int)) (.int .u64 (n4 : Int)) (.int .u64 (n5 : Int)) (.int .u64 (n6 : Int)) (.int .u64 (n7 : Int)) (.int .u64 (n8 : Int)) (.int .u64 (n9 : Int)) hsz.symm
  have HX : Hid (∀ k, k < 9 → (W0.alloc (.cells #[.int .u64 (n1 : Int), .int .u64 (n2 : Int), .int .u64 (n3 : Int), .int .u64 (n4 : Int), .int .u64 (n5 : Int), .int .u64 (n6 : Int), .int .u64 (n7 : Int), .int .u64 (n8 : Int), .int .u64 (n9 : Int)] 23)).cell? ⟨w.heap.size + 1, k, none⟩ = some (.int .u64 ((ns.getD k 0 : Nat) : Int))) := Lib.hid (fun k hk => by
    obtain ⟨-, a, cap, hv, hc⟩ := hrv
    obtain ⟨b', off, ha, hcc⟩ := hc k (by simp only [List.length_cons, List.length_nil]; omega)
    injection hv with hv1 hv2 hv3
    rw [← hv1] at ha
    injection ha with ha
    injection ha with ha1 ha2
    subst ha1 ha2
    rw [Nat.zero_add] at hcc
    rw [hcc, ← hns]
    have : k = 0 ∨ k = 1 ∨ k = 2 ∨ k = 3 ∨ k = 4 ∨ k = 5 ∨ k = 6 ∨ k = 7 ∨ k = 8 := by omega
    rcases this with rfl | rfl | rfl | rfl | rfl | rfl | rfl | rfl | rfl <;> rfl)
  have HBB := Lib.hid (HB.out.trans (b1.mono HB.out.size))
  rw [hns] at HNN
  have HNS := Lib.hid hns
  have hT : w.heap.size + 1 < (W0.alloc (.cells #[.int .u64 (n1 : Int), .int .u64 (n2 : Int), .int .u64 (n3 : Int), .int .u64 (n4 : Int), .int .u64 (n5 : Int), .int .u64 (n6 : Int), .int .u64 (n7 : Int), .int .u64 (n8 : Int), .int .u64 (n9 : Int)] 23)).heap.size := by simp [hsz]
  clear hns hrv b1 c0 c1 c2 c3 c4 c5 c6 c7 c8
  generalize hW1 : W0.alloc (.cells #[.int .u64 (n1 : Int), .int .u64 (n2 : Int), .int .u64 (n3 : Int), .int .u64 (n4 : Int), .int .u64 (n5 : Int), .int .u64 (n6 : Int), .int .u64 (n7 : Int), .int .u64 (n8 : Int), .int .u64 (n9 : Int)] 23) = W1 at HX HBB hT ⊢
  obtain ⟨T, hTT⟩ : ∃ T, w.heap.size + 1 = T := ⟨_, rfl⟩
  rw [hTT] at HX hT ⊢
  clear hW1 HB hsz hTT e2 e3 e4 e6 e7 e8 e9
  go_loopw [3, 5, 33] (fun v v5 i wr => ∃ k : Nat, k ≤ 9 ∧ (∃ y, v5 = y) ∧ i = .int .i64 k ∧ OB wr W1.heap.size v (nums (ns.take k)) ∧ Hid (Below W1.heap.size W1 wr)) (fun _ _ i _ => 9 - (intOf i).toNat)
  case atStart => exact ⟨0, Nat.zero_le _, ⟨_, rfl⟩, rfl, World.ownsRow_nil _ _ _ _, Below.refl _ _⟩
  case round =>
    obtain ⟨k, hk, ⟨y, rfl⟩, rfl, ho, HW1⟩ := hrel
    by_cases hlt : k < 9
    · have hc' := (HW1.out.cell (p := ⟨T, k, none⟩) hT).trans (HX.out k hlt)
      have hlp : k < ns.length := by rw [HNL.out]; exact hlt
      have HT := Lib.hid (flat_snoc (num 0) ns k 0 hlp)
      have HM := Lib.hid (HNN.out (ns.getD k 0) (by simp [hlp]))
      have hl9 : (nums (ns.take k)).length ≤ 9 * k := by
        have := flat_len (num 0) 9 (ns.take k) (fun y hy => num_len9 0 y (HNN.out y (List.mem_of_mem_take hy)))
        rw [List.length_take] at this
        unfold nums; omega
      have HL9 := Lib.hid hl9
      have hsz := HW1.out.size
      obtain ⟨m, hm⟩ : ∃ m, ns.getD k 0 = m := ⟨_, rfl⟩
      rw [hm] at hc' HT HM
      clear hm hlp hl9
      go_wp2_with (first
        | (go_at_call 60; refine (refnum_any m _ HM.out).mono ?_; rintro e w2 ⟨v2, rfl, ho2, hb2⟩; have HB2 := Lib.hid hb2; have HR2 := Lib.hid (ho2.rb (num_lt' 0 m (by omega) HM.out) (by have := num_len9 0 m HM.out; omega)); have HO2 := Lib.hid (ho.kept hb2); clear ho hb2 ho2)
        | (at_builtin; refine append_rb rfl (.tmp 37) (.tmp 39) rfl W1.heap.size _ _ (nums (ns.take k)) (num 0 m) rfl rfl HO2.out HR2.out (by have := HL9.out; have := num_len9 0 m HM.out; omega) (by have := HB2.out.size; omega) ?_; intro v3 w3 ho3 hg3; have HB3 := Lib.hid (HO2.out.below hg3 (HW1.out.trans (HB2.out.mono hsz)) (by have := HB2.out.size; omega)); clear hg3))
      go_roundw
      case rel => exact ⟨k + 1, by omega, ⟨_, rfl⟩, by go_num, by unfold nums; rw [HT.out]; exact ho3, HB3⟩
      case measure => simp [intOf]; omega
    · obtain rfl : k = 9 := by omega
      have ht : ns.take 9 = ns := List.take_of_length_le (by rw [HNL.out]; omega)
      rw [ht] at ho
      go_wp2_with fail
      go_ret
      exact ⟨_, rfl, by rw [HNS.out]; exact ho.mono HBB.out.size, HBB.out.trans (HW1.out.mono HBB.out.size)⟩
end Go.Proofs.Ytnhaakdjijjinaa

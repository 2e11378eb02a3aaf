/- Tickets: Put, both ways. -/
import Derived.Test.YtnhaakdjijjinaaTbD
namespace Go.Proofs.Ytnhaakdjijjinaa
open Go.RowKit
theorem nine_nums (n1 n2 n3 n4 n5 n6 n7 n8 n9 : Nat) (b1 : n1 < 18446744073709551616) (b2 : n2 < 9223372036854775808) (b3 : n3 < 9223372036854775808) (b4 : n4 < 9223372036854775808) (b5 : n5 < 18446744073709551616) (b6 : n6 < 9223372036854775808) (b7 : n7 < 9223372036854775808) (b8 : n8 < 9223372036854775808) (b9 : n9 < 9223372036854775808) : ∀ n ∈ [n1, n2, n3, n4, n5, n6, n7, n8, n9], n < 18446744073709551616 := by
  intro n hn
  simp only [List.mem_cons, List.not_mem_nil, or_false] at hn
  omega
theorem rv_nine (w : World) (b : Nat) (t : TypeId) (x1 x2 x3 x4 x5 x6 x7 x8 x9 : Value) (hb : b = w.heap.size) : RV (w.alloc (.cells #[x1, x2, x3, x4, x5, x6, x7, x8, x9] t)) (.slice (some ⟨b, 0, none⟩) 9 9) [x1, x2, x3, x4, x5, x6, x7, x8, x9] := by
  subst hb
  refine ⟨by simp, _, _, rfl, fun i hi => ⟨_, _, rfl, ?_⟩⟩
  rw [World.cell?_alloc_at _ _ _ _ rfl]
  simp only [List.length_cons, List.length_nil] at hi
  have : i = 0 ∨ i = 1 ∨ i = 2 ∨ i = 3 ∨ i = 4 ∨ i = 5 ∨ i = 6 ∨ i = 7 ∨ i = 8 := by omega
  rcases this with rfl | rfl | rfl | rfl | rfl | rfl | rfl | rfl | rfl <;> rfl
set_option maxRecDepth 100000 in
set_option maxHeartbeats 16000000 in
theorem tput_any (b base : Nat) (v : Value) (n1 n2 n3 n4 n5 n6 n7 n8 n9 : Nat) (b1 : n1 < 18446744073709551616) (b2 : n2 < 9223372036854775808) (b3 : n3 < 9223372036854775808) (b4 : n4 < 9223372036854775808) (b5 : n5 < 18446744073709551616) (b6 : n6 < 9223372036854775808) (b7 : n7 < 9223372036854775808) (b8 : n8 < 9223372036854775808) (b9 : n9 < 9223372036854775808) (w : World) (hw : WR w b base v []) :
    Calls Try.prog 52 #[.pointer (some ⟨b, 0, none⟩), tkV n1 n2 n3 n4 n5 n6 n7 n8 n9] w fun e w' => e = .returned (.tuple #[]) ∧ Wrote b base v w (nums [n1, n2, n3, n4, n5, n6, n7, n8, n9]) w' := by
  have HNN := Lib.hid (nine_nums n1 n2 n3 n4 n5 n6 n7 n8 n9 b1 b2 b3 b4 b5 b6 b7 b8 b9)
  have e2 : IntKind.u64.wrap (n2 : Int) = (n2 : Int) := IntWalk.u64_in _ ⟨by omega, by omega⟩
  have e3 : IntKind.u64.wrap (n3 : Int) = (n3 : Int) := IntWalk.u64_in _ ⟨by omega, by omega⟩
  have e4 : IntKind.u64.wrap (n4 : Int) = (n4 : Int) := IntWalk.u64_in _ ⟨by omega, by omega⟩
  have e6 : IntKind.u64.wrap (n6 : Int) = (n6 : Int) := IntWalk.u64_in _ ⟨by omega, by omega⟩
  have e7 : IntKind.u64.wrap (n7 : Int) = (n7 : Int) := IntWalk.u64_in _ ⟨by omega, by omega⟩
  have e8 : IntKind.u64.wrap (n8 : Int) = (n8 : Int) := IntWalk.u64_in _ ⟨by omega, by omega⟩
  have e9 : IntKind.u64.wrap (n9 : Int) = (n9 : Int) := IntWalk.u64_in _ ⟨by omega, by omega⟩
  obtain ⟨B2, s0, sz⟩ := box1 w #[.int .u64 (n1 : Int), .int .i64 (n2 : Int), .int .i64 (n3 : Int), .int .i64 (n4 : Int), .int .u64 (n5 : Int), .int .i64 (n6 : Int), .int .i64 (n7 : Int), .int .i64 (n8 : Int), .int .i64 (n9 : Int)] 25
  obtain ⟨c0, c1, c2, c3, c4, c5, c6, c7, c8⟩ := nine_at s0
  have HB := Lib.hid B2
  have HW := Lib.hid (hw.kept B2)
  clear b1 b2 b3 b4 b5 b6 b7 b8 b9 B2 s0 sz hw
  unfold tkV
  go_enter Try.func52, Try.ntmps52
  go_wp2_with fail
  have hsz : ((w.alloc (.cells #[.int .u64 (n1 : Int), .int .i64 (n2 : Int), .int .i64 (n3 : Int), .int .i64 (n4 : Int), .int .u64 (n5 : Int), .int .i64 (n6 : Int), .int .i64 (n7 : Int), .int .i64 (n8 : Int), .int .i64 (n9 : Int)] 25))).heap.size = w.heap.size + 1 := by simp
  generalize (w.alloc (.cells #[.int .u64 (n1 : Int), .int .i64 (n2 : Int), .int .i64 (n3 : Int), .int .i64 (n4 : Int), .int .u64 (n5 : Int), .int .i64 (n6 : Int), .int .i64 (n7 : Int), .int .i64 (n8 : Int), .int .i64 (n9 : Int)] 25)) = W0 at hsz HB HW c0 c1 c2 c3 c4 c5 c6 c7 c8 ⊢
  have b1 : Below W0.heap.size W0 (W0.alloc (.cells #[.int .u64 (n1 : Int), .int .u64 (n2 : Int), .int .u64 (n3 : Int), .int .u64 (n4 : Int), .int .u64 (n5 : Int), .int .u64 (n6 : Int), .int .u64 (n7 : Int), .int .u64 (n8 : Int), .int .u64 (n9 : Int)] 23)) := (Below.refl _ _).alloc (Nat.le_refl _) _
  have hrv : RV (W0.alloc (.cells #[.int .u64 (n1 : Int), .int .u64 (n2 : Int), .int .u64 (n3 : Int), .int .u64 (n4 : Int), .int .u64 (n5 : Int), .int .u64 (n6 : Int), .int .u64 (n7 : Int), .int .u64 (n8 : Int), .int .u64 (n9 : Int)] 23)) (.slice (some ⟨w.heap.size + 1, 0, none⟩) 9 9) (List.map (fun n : Nat => Value.int .u64 ((n : Nat) : Int)) [n1, n2, n3, n4, n5, n6, n7, n8, n9]) := by
    simp only [List.map_cons, List.map_nil]
    exact rv_nine W0 _ _ _ _ _ _ _ _ _ _ _ hsz.symm
  obtain ⟨ns, hns⟩ : ∃ ns : List Nat, [n1, n2, n3, n4, n5, n6, n7, n8, n9] = ns := ⟨_, rfl⟩
  rw [hns] at HNN hrv
  have HNS := Lib.hid hns
  have hnum := num_wr b base v [] ns _ _ (HW.out.kept b1) (Nat.zero_le _) hrv HNN.out
  clear hrv hns HNN c0 c1 c2 c3 c4 c5 c6 c7 c8 HW
  refine hnum.mono ?_
  rintro e w2 ⟨rfl, hwr⟩
  go_wp2_with fail
  go_end0
  rw [HNS.out]
  exact ⟨rfl, (hwr.after b1).after HB.out⟩
end Go.Proofs.Ytnhaakdjijjinaa

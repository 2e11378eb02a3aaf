/- The walk of WheelNobody. -/
import Derived.Test.YtfclmbneimbmnaaDoorWhT
import Derived.Test.YtfclmbneimbmnaaDoorWhQ
namespace Go.Proofs.YtfclmbneimbmnaaDoor
open Go.RowKit

theorem neq_five0 (w : World) : (binOp .neq 61 (.agg #[.int .i64 0, .int .i64 0, .int .i64 0, .int .i64 0, .int .i64 0]) (.agg #[.int .i64 0, .int .i64 0, .int .i64 0, .int .i64 0, .int .i64 0])).run Tryd.prog w = .ok (.bool false) w := by
  rw [run_neq_struct, eq_five]; rfl

theorem three_new (w : World) (A B C : Array Value) (ta tb tc : TypeId) {T : Nat} (hT : w.heap.size = T) :
    (∀ o v, A[o]? = some v → (((w.alloc (.cells A ta)).alloc (.cells B tb)).alloc (.cells C tc)).cell? ⟨T, o, none⟩ = some v) ∧ (∀ o v, B[o]? = some v → (((w.alloc (.cells A ta)).alloc (.cells B tb)).alloc (.cells C tc)).cell? ⟨T + 1, o, none⟩ = some v) ∧ (∀ o v, C[o]? = some v → (((w.alloc (.cells A ta)).alloc (.cells B tb)).alloc (.cells C tc)).cell? ⟨T + 1 + 1, o, none⟩ = some v) := by
  have s1 : (w.alloc (.cells A ta)).heap.size = T + 1 := by simp [hT]
  have s2 : ((w.alloc (.cells A ta)).alloc (.cells B tb)).heap.size = T + 1 + 1 := by simp [hT]
  refine ⟨fun o v h => ?_, fun o v h => ?_, fun o v h => ?_⟩
  · rw [World.cell?_alloc_lt (h := by show T < _; omega), World.cell?_alloc_lt (h := by show T < _; omega), World.cell?_alloc_at _ _ _ _ hT.symm]; exact h
  · rw [World.cell?_alloc_lt (h := by show T + 1 < _; omega), World.cell?_alloc_at _ _ _ _ s1.symm]; exact h
  · rw [World.cell?_alloc_at _ _ _ _ s2.symm]; exact h

set_option maxRecDepth 100000 in
set_option maxHeartbeats 8000000 in
theorem wnobody_walk (x y z u : Int) (w : World) (hT : Tab w) {p : Prop} (_ : p) : Calls Tryd.prog 9 #[.agg #[.int .u64 x, .int .u64 y, .int .i64 z], .int .i64 u] w fun e w' => e = .returned (.bool true) ∧ Below w.heap.size w w' := by
  have mixed := insTh.mixed
  have HT := Lib.hid hT
  have eqf := fun w => eq_five 0 0 0 0 0 w
  clear hT
  go_enter Tryd.func9, Tryd.ntmps9
  go_wp2_with fail
  obtain ⟨T, hTs⟩ : ∃ T, w.heap.size = T := ⟨_, rfl⟩
  rw [hTs]
  have hb0 : Below w.heap.size w (((w.alloc (.cells #[.int .u64 x, .int .u64 y, .int .i64 z] 27)).alloc (.cells #[.int .i64 0, .pointer none, .pointer none, .pointer none, .pointer none, .slice none 0 0] 81)).alloc (.cells #[.pointer none, .pointer (some ⟨T + 1, 0, none⟩)] 52)) := (((Below.refl _ _).alloc (Nat.le_refl _) _).alloc (by simp) _).alloc (by simp; omega) _
  have n3 := three_new w #[.int .u64 x, .int .u64 y, .int .i64 z] #[.int .i64 0, .pointer none, .pointer none, .pointer none, .pointer none, .slice none 0 0] #[.pointer none, .pointer (some ⟨T + 1, 0, none⟩)] 27 81 52 hTs
  have p0 : (((w.alloc (.cells #[.int .u64 x, .int .u64 y, .int .i64 z] 27)).alloc (.cells #[.int .i64 0, .pointer none, .pointer none, .pointer none, .pointer none, .slice none 0 0] 81)).alloc (.cells #[.pointer none, .pointer (some ⟨T + 1, 0, none⟩)] 52)).cell? ⟨T, 0, none⟩ = some (.int .u64 x) := n3.1 _ _ rfl
  have p1 : (((w.alloc (.cells #[.int .u64 x, .int .u64 y, .int .i64 z] 27)).alloc (.cells #[.int .i64 0, .pointer none, .pointer none, .pointer none, .pointer none, .slice none 0 0] 81)).alloc (.cells #[.pointer none, .pointer (some ⟨T + 1, 0, none⟩)] 52)).cell? ⟨T, 1, none⟩ = some (.int .u64 y) := n3.1 _ _ rfl
  have p2 : (((w.alloc (.cells #[.int .u64 x, .int .u64 y, .int .i64 z] 27)).alloc (.cells #[.int .i64 0, .pointer none, .pointer none, .pointer none, .pointer none, .slice none 0 0] 81)).alloc (.cells #[.pointer none, .pointer (some ⟨T + 1, 0, none⟩)] 52)).cell? ⟨T, 2, none⟩ = some (.int .i64 z) := n3.1 _ _ rfl
  have pw : (((w.alloc (.cells #[.int .u64 x, .int .u64 y, .int .i64 z] 27)).alloc (.cells #[.int .i64 0, .pointer none, .pointer none, .pointer none, .pointer none, .slice none 0 0] 81)).alloc (.cells #[.pointer none, .pointer (some ⟨T + 1, 0, none⟩)] 52)).cell? ⟨T + 1, 1, none⟩ = some (.pointer none) := n3.2.1 _ _ rfl
  have s0 : (((w.alloc (.cells #[.int .u64 x, .int .u64 y, .int .i64 z] 27)).alloc (.cells #[.int .i64 0, .pointer none, .pointer none, .pointer none, .pointer none, .slice none 0 0] 81)).alloc (.cells #[.pointer none, .pointer (some ⟨T + 1, 0, none⟩)] 52)).cell? ⟨T + 1 + 1, 0, none⟩ = some (.pointer none) := n3.2.2 _ _ rfl
  have s1 : (((w.alloc (.cells #[.int .u64 x, .int .u64 y, .int .i64 z] 27)).alloc (.cells #[.int .i64 0, .pointer none, .pointer none, .pointer none, .pointer none, .slice none 0 0] 81)).alloc (.cells #[.pointer none, .pointer (some ⟨T + 1, 0, none⟩)] 52)).cell? ⟨T + 1 + 1, 1, none⟩ = some (.pointer (some ⟨T + 1, 0, none⟩)) := n3.2.2 _ _ rfl
  clear n3
  generalize (((w.alloc (.cells #[.int .u64 x, .int .u64 y, .int .i64 z] 27)).alloc (.cells #[.int .i64 0, .pointer none, .pointer none, .pointer none, .pointer none, .slice none 0 0] 81)).alloc (.cells #[.pointer none, .pointer (some ⟨T + 1, 0, none⟩)] 52)) = W0 at hb0 p0 p1 p2 pw s0 s1 ⊢
  have HV : Hid (∀ k : Nat, k < 2 → ∃ v : Option Addr, W0.cell? ⟨T + 1 + 1, k, none⟩ = some (.pointer v) ∧ NoW (.pointer v) W0) := Lib.hid (fun k hk => by
    match k, hk with
    | 0, _ => exact ⟨none, s0, now_nil W0⟩
    | 1, _ => exact ⟨some ⟨T + 1, 0, none⟩, s1, now_plain (T + 1) W0 pw⟩)
  have HB0 := Lib.hid hb0
  have HP := Lib.hid (And.intro p0 (And.intro p1 p2))
  clear hb0 p0 p1 p2 pw s0 s1
  go_loopg [21] 2 (fun kx s21 wr => ∃ k : Nat, s21 = .int .i64 k ∧ k ≤ 2 ∧ 2 - k ≤ kx ∧ Hid (Below W0.heap.size W0 wr))
  case atStart => exact ⟨0, rfl, by omega, by omega, Below.refl _ _⟩
  case round =>
    obtain ⟨k, rfl, hk, hkx, HB⟩ := hrel
    by_cases hk2 : k < 2
    · have hk2z : (k : Int) < 2 := by omega
      have hk0 : (0 : Int) ≤ (k : Int) := by omega
      obtain ⟨v, hv, hno⟩ := HV.out k hk2
      have cv := (HB.out.cell (p := ⟨T + 1 + 1, k, none⟩) (cell_lt hv)).trans hv
      have HNO := Lib.hid hno
      clear hv hno
      go_wp2_with fail
      refine (nwadv v u wr (HNO.out.below HB.out)).mono ?_
      rintro e w1 ⟨rfl, hb1⟩
      have H1 := Lib.hid (HB.out.trans (hb1.mono HB.out.size))
      have a0 := (H1.out.cell (p := ⟨T, 0, none⟩) (cell_lt HP.out.1)).trans HP.out.1
      clear hb1 cv
      go_wp2_with fail
      refine (nwcancel (.pointer v) x w1 (HNO.out.below H1.out)).mono ?_
      rintro e w2 ⟨rfl, hb2⟩
      have b2 := H1.out.trans (hb2.mono H1.out.size)
      have H2 : Hid (Below W0.heap.size W0 (w2.alloc (.cells #[.int .u64 0, .int .u64 0, .int .i64 0] 27))) := Lib.hid (b2.alloc b2.size _)
      have a2 := (H2.out.cell (p := ⟨T, 0, none⟩) (cell_lt HP.out.1)).trans HP.out.1
      clear hb2 b2 a0
      go_wp2_with fail
      generalize w2.alloc (.cells #[.int .u64 0, .int .u64 0, .int .i64 0] 27) = w2' at H2 a2 ⊢
      refine (nwget (.pointer v) x w2' (HNO.out.below H2.out)).mono ?_
      rintro e w3 ⟨rfl, hb3⟩
      have b3 := H2.out.trans (hb3.mono H2.out.size)
      have H3 : Hid (Below W0.heap.size W0 (w3.alloc (.cells #[.int .u64 0, .int .u64 0, .int .i64 0] 27))) := Lib.hid (b3.alloc b3.size _)
      clear hb3 b3 a2
      go_wp2_with fail
      generalize w3.alloc (.cells #[.int .u64 0, .int .u64 0, .int .i64 0] 27) = w3' at H3 ⊢
      refine (nwnext (.pointer v) w3' (HNO.out.below H3.out)).mono ?_
      rintro e w4 ⟨rfl, rfl⟩
      have a0 := (H3.out.cell (p := ⟨T, 0, none⟩) (cell_lt HP.out.1)).trans HP.out.1
      have a1 := (H3.out.cell (p := ⟨T, 1, none⟩) (cell_lt HP.out.2.1)).trans HP.out.2.1
      have a2 := (H3.out.cell (p := ⟨T, 2, none⟩) (cell_lt HP.out.2.2)).trans HP.out.2.2
      go_wp2_with fail
      refine (nwarm (.pointer v) x y z w4 (HNO.out.below H3.out)).mono ?_
      rintro e w5 ⟨rfl, hb5⟩
      have H5 := Lib.hid (H3.out.trans (hb5.mono H3.out.size))
      clear hb5 a0 a1 a2
      go_wp2_with fail
      refine (nwall (.pointer v) w5 (HNO.out.below H5.out)).mono ?_
      rintro e w6 ⟨rfl, rfl⟩
      go_wp2_with fail
      refine (nwlen (.pointer v) w6 (HNO.out.below H5.out)).mono ?_
      rintro e w7 ⟨rfl, hb7⟩
      have H7 := Lib.hid (H5.out.trans (hb7.mono H5.out.size))
      clear hb7
      go_wp2_with fail
      refine (nwnow (.pointer v) w7 (HNO.out.below H7.out)).mono ?_
      rintro e w8 ⟨rfl, rfl⟩
      go_wp2_with fail
      refine (nwspread (.pointer v) w8 (HNO.out.below H7.out)).mono ?_
      rintro e w9 ⟨rfl, hb9⟩
      have H9 := Lib.hid (H7.out.trans (hb9.mono H7.out.size))
      clear hb9
      go_wp2_with fail
      go_roundg (2 - (k + 1))
      case measure => omega
      case rel => exact ⟨k + 1, by go_num, by omega, by omega, H9⟩
    · have hk2z : ¬ (k : Int) < 2 := by omega
      obtain rfl : k = 2 := by omega
      have hbw := HB0.out.trans (HB.out.mono HB0.out.size)
      have hl := lives12 wr (HT.out.below hbw)
      have HW := Lib.hid hbw
      clear hbw
      go_wp2_with (go_at_call 30; (with_reducible refine hl.mono ?_); rintro e w1 ⟨rfl, hb1⟩; have H1 := Lib.hid (HW.out.trans (hb1.mono HW.out.size)); clear hb1 hl)
      go_ret
      exact ⟨rfl, H1.out⟩
end Go.Proofs.YtfclmbneimbmnaaDoor

/- Bytes: room made; two rows put together. -/
import Derived.Test.YthkjjpkipeeimaaDkQ
import Derived.Test.YthkjjpkipeeimaaDkT
namespace Go.Proofs.Ythkjjpkipeeimaa
open Go.RowKit Go.Maps Go.Shelf
theorem info5' : ∃ i0, Try.prog.info? 5 = some i0 ∧ i0.zero = some (.int .u8 0) ∧ i0.size = 1 ∧ i0.bytes = 1 := by
  obtain ⟨i0, hi, hz0, hz1, hz2⟩ := info_parts info5
  exact ⟨i0, hi, hz0, hz1, hz2⟩
theorem bgrow (n : Nat) (w : World) (hn : n ≤ 100000000) : Calls Try.prog 147 #[.slice none 0 0, .int .i64 (n : Int)] w fun e w' => ∃ v, e = .returned v ∧ OB w' w.heap.size v [] ∧ Below w.heap.size w w' := by
  by_cases h0 : n = 0
  · subst h0
    have hc := Any8.slices_Grow_room growB none 0 0 0 w (Nat.le_refl _) (by decide) (by decide) (Nat.le_refl _)
    change Calls Try.prog 147 _ _ _ at hc
    refine hc.mono ?_
    rintro e w' ⟨rfl, rfl⟩
    exact ⟨_, rfl, World.ownsRow_nil _ _ _ _, Below.refl _ _⟩
  · obtain ⟨i0, hi, hz0, hz1, hz2⟩ := info5'
    have hc := Any8.slices_Grow_grow growB i0 (.int .u8 0) hi hz0 (by rw [hz1]; decide) none 0 0 n [] w (Nat.le_refl _) (by omega) (by rw [hz2]; omega) (by omega) (by simp) (fun _ => rfl) (fun a h => by cases h)
    change Calls Try.prog 147 _ _ _ at hc
    refine hc.mono ?_
    rintro e w' ⟨rfl, rfl⟩
    refine ⟨_, rfl, ?_, ((Below.refl _ _).drew).alloc (Nat.le_refl _) _⟩
    refine ⟨rfl, .inr ⟨w.heap.size, _, _, rfl, Nat.le_refl _, heap_alloc_new w.drew _, Nat.zero_le _, grownCap_le_maxLen _ _ _ _ (by unfold maxLen; omega), ?_, by simp [cb]⟩⟩
    have hge := grownCap_ge w (0 + n) 0 5
    simp only [Array.size_append, size_zeroCells]
    show 0 + (0 + n - 0) * 1 + (grownCap w (0 + n) 0 5 - (0 + n)) * 1 = grownCap w (0 + n) 0 5 * 1
    omega
set_option maxRecDepth 100000 in
set_option maxHeartbeats 4000000 in
theorem bconcat2 (g : Nat) (cg : Nat) (a1 a2 : Option Addr) (c1 c2 : Nat) (x y : List Nat) (w : World) (h0 : w.cell? ⟨g, 0, none⟩ = some (.slice a1 x.length c1)) (h1 : w.cell? ⟨g, 1, none⟩ = some (.slice a2 y.length c2)) (hx : RB w (.slice a1 x.length c1) x) (hy : RB w (.slice a2 y.length c2) y) (hl : x.length + y.length ≤ 10000000) : Calls Try.prog 118 #[.slice (some ⟨g, 0, none⟩) 2 cg] w fun e w' => ∃ v, e = .returned v ∧ OB w' w.heap.size v (x ++ y) ∧ Below w.heap.size w w' := by
  have HX := Lib.hid hx
  have HY := Lib.hid hy
  have HG : Hid (g < w.heap.size) := Lib.hid (cell_spot h0).2
  have HC := Lib.hid (And.intro h0 h1)
  have HL := Lib.hid hl
  clear hx hy hl
  go_enter Try.func118, Try.ntmps118
  go_wp2_with fail
  go_loopg [3, 11] 2 (fun kx s3 s11 wr => w = wr ∧ ((s11 = .int .i64 0 ∧ s3 = .int .i64 0 ∧ 2 ≤ kx) ∨ (s11 = .int .i64 1 ∧ s3 = .int .i64 (x.length : Int) ∧ 1 ≤ kx) ∨ (s11 = .int .i64 2 ∧ s3 = .int .i64 ((x.length + y.length : Nat) : Int))))
  case atStart => exact ⟨rfl, .inl ⟨rfl, rfl, Nat.le_refl _⟩⟩
  case round =>
    obtain ⟨rfl, ⟨rfl, rfl, hk⟩ | ⟨rfl, rfl, hk⟩ | ⟨rfl, rfl⟩⟩ := hrel
    · have hw1 : wrap64 (x.length : Int) = (x.length : Int) := IntWalk.wrap64_in _ (by have := HL.out; omega)
      have hd1 : decide ((x.length : Int) < 0) = false := decide_eq_false (by omega)
      have hm : 1 < gk := by omega
      go_wp2_with fail
      go_roundg 1
      case measure => exact hm
      case rel => exact ⟨rfl, .inr (.inl ⟨rfl, by first | rfl | rw [hw1], Nat.le_refl _⟩)⟩
    · have hs : (x.length : Int) + (y.length : Int) = ((x.length + y.length : Nat) : Int) := by omega
      have hw1 : wrap64 ((x.length : Int) + (y.length : Int)) = ((x.length + y.length : Nat) : Int) := by rw [hs]; exact IntWalk.wrap64_in _ (by have := HL.out; omega)
      have hd1 : decide (((x.length + y.length : Nat) : Int) < 0) = false := decide_eq_false (by omega)
      have hm : 0 < gk := by omega
      have HW := Lib.hid hw1
      clear hs
      obtain ⟨sz, hsz⟩ : ∃ sz, ((x.length + y.length : Nat) : Int) = sz := ⟨_, rfl⟩
      have HSZ := Lib.hid hsz
      rw [hsz] at hw1 hd1 HW
      clear hsz
      go_wp2_with fail
      go_roundg 0
      case measure => exact hm
      case rel => exact ⟨rfl, .inr (.inr ⟨rfl, by rw [HSZ.out]; first | rfl | rw [HW.out]⟩)⟩
    · clear h0 h1
      go_wp2_with fail
      refine (bgrow (x.length + y.length) w (by have := HL.out; omega)).mono ?_
      rintro e w1 ⟨v, rfl, ho, hb⟩
      have HO := Lib.hid ho
      have HB := Lib.hid hb
      clear ho hb
      go_wp2_with fail
      go_loopg [6, 27] 2 (fun kx s6 s27 wq => ∃ v : Value, v = s6 ∧ Hid (Below w.heap.size w wq) ∧ ((s27 = .int .i64 0 ∧ Hid (OB wq w.heap.size v []) ∧ 2 ≤ kx) ∨ (s27 = .int .i64 1 ∧ Hid (OB wq w.heap.size v x) ∧ 1 ≤ kx) ∨ (s27 = .int .i64 2 ∧ Hid (OB wq w.heap.size v (x ++ y)))))
      case atStart => exact ⟨v, rfl, HB, .inl ⟨rfl, HO, Nat.le_refl _⟩⟩
      case round =>
        clear HO HB
        obtain ⟨v2, rfl, HB, ⟨rfl, HO, hk⟩ | ⟨rfl, HO, hk⟩ | ⟨rfl, HO⟩⟩ := hrel
        · have e0 := (HB.out.cell (p := ⟨g, 0, none⟩) HG.out).trans HC.out.1
          have HRX := Lib.hid (HX.out.kept HB.out)
          have HSZ2 : Hid (w.heap.size ≤ wr.heap.size) := Lib.hid HB.out.size
          have hm : 1 < gk := by omega
          go_wp2_with (at_builtin; refine append_moved rfl (.tmp 31) (.tmp 32) rfl w.heap.size _ _ [] x rfl rfl HO.out HRX.out (by have := HL.out; simp; omega) HSZ2.out ?_; intro v3 w3 ho3 hg3 hm3; have HO3 := Lib.hid ho3; have HB3 := Lib.hid (HB.out.grown hg3 HSZ2.out (fun k hk => (World.ownsRow.lt HO.out k hk).1)); clear ho3 hg3 hm3)
          go_roundg 1
          case measure => exact hm
          case rel => exact ⟨_, rfl, HB3, .inr (.inl ⟨rfl, Lib.hid (by simpa using HO3.out), Nat.le_refl _⟩)⟩
        · have e0 := (HB.out.cell (p := ⟨g, 1, none⟩) HG.out).trans HC.out.2
          have HRX := Lib.hid (HY.out.kept HB.out)
          have HSZ2 : Hid (w.heap.size ≤ wr.heap.size) := Lib.hid HB.out.size
          have hm : 0 < gk := by omega
          go_wp2_with (at_builtin; refine append_moved rfl (.tmp 31) (.tmp 32) rfl w.heap.size _ _ x y rfl rfl HO.out HRX.out (by have := HL.out; omega) HSZ2.out ?_; intro v3 w3 ho3 hg3 hm3; have HO3 := Lib.hid ho3; have HB3 := Lib.hid (HB.out.grown hg3 HSZ2.out (fun k hk => (World.ownsRow.lt HO.out k hk).1)); clear ho3 hg3 hm3)
          go_roundg 0
          case measure => exact hm
          case rel => exact ⟨_, rfl, HB3, .inr (.inr ⟨rfl, HO3⟩)⟩
        · go_wp2_with fail
          go_ret
          exact ⟨_, rfl, HO.out, HB.out⟩
end Go.Proofs.Ythkjjpkipeeimaa

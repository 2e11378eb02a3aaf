/- The walk of FrameTakes. -/
import Derived.Test.YteehglaadofidaaFrJ
namespace Go.Proofs.Yteehglaadofidaa
open Go.RowKit

theorem ftakes_big (a0 : Option Addr) (n c : Nat) (w : World) (h1 : n ≤ 9223372036854775807) (h : 3000 < n) :
    Calls Try.prog 4 #[.slice a0 n c] w fun e w' => e = .returned (.bool true) ∧ Below w.heap.size w w' := by
  go_enter Try.func4, Try.ntmps4
  go_wp2_with (go_at_call 12; refine (lives3 _).mono ?_; rintro e w' ⟨rfl, hb⟩)
  go_ret
  exact ⟨rfl, hb⟩
set_option maxHeartbeats 4000000 in
theorem ftakes_yes (v : Value) (bs : List Nat) (w : World) (hb : RB w v bs) (hl : bs.length ≤ 3000) (he : (takeOf bs).e = 0) (hn : (takeOf bs).n = bs.length) :
    Calls Try.prog 4 #[v] w fun e w' => e = .returned (.bool true) ∧ Below w.heap.size w w' := by
  have hT := fun (W : World) (h : RB W v bs) => take_any v bs W h
  have hR := fun (W : World) (h : RB W v bs) => reftake_any v bs W h
  have hW := fun (W : World) (h : RB W v bs) => whole_yes v bs W h he hn
  generalize takeOf bs = t at *
  obtain ⟨k, body, n, e⟩ := t
  dsimp only at he hn hW
  subst he hn
  have HT := Lib.hid hT
  have HR := Lib.hid hR
  have HW := Lib.hid hW
  have HB := Lib.hid hb
  obtain ⟨a, cap, rfl, _, _⟩ := hb.shape
  obtain ⟨m, hm⟩ : ∃ m, bs.length = m := ⟨_, rfl⟩
  rw [hm] at hl HT HR HW HB ⊢
  have hd : decide (3000 < (m : Int)) = false := by simp; omega
  clear hb hT hR hW hm
  go_enter Try.func4, Try.ntmps4
  go_wp2_with fail
  refine (HT.out _ HB.out).mono ?_
  rintro e w1 ⟨v1, rfl, hr1, hb1⟩
  obtain ⟨a1, c1, hv1, _, _⟩ := hr1.shape
  subst hv1
  go_wp2_with fail
  refine (HR.out _ (HB.out.kept hb1)).mono ?_
  rintro e w2 ⟨v2, rfl, hr2, hb2⟩
  obtain ⟨a2, c2, hv2, _, _⟩ := hr2.shape
  subst hv2
  have HW2 := Lib.hid (hb1.trans (hb2.mono hb1.size))
  have e1 := rb_string (P := Try.prog) (hr1.kept hb2) 22 9 5 Try.underlying22 Try.underlying5 Try.underlying9
  have e2 := rb_string (P := Try.prog) hr2 22 9 5 Try.underlying22 Try.underlying5 Try.underlying9
  have HR2 := Lib.hid hr2
  clear hr1 hr2 hb1 hb2
  go_wp2_with fail
  refine (HW.out _ (HB.out.kept HW2.out)).mono ?_
  rintro e w3 ⟨v3, rfl, hr3, hb3⟩
  obtain ⟨a3, c3, hv3, _, _⟩ := hr3.shape
  subst hv3
  clear e1 e2
  have e3 := rb_string (P := Try.prog) hr3 22 9 5 Try.underlying22 Try.underlying5 Try.underlying9
  have e4 := rb_string (P := Try.prog) (HR2.out.kept hb3) 22 9 5 Try.underlying22 Try.underlying5 Try.underlying9
  have HW3 := Lib.hid (HW2.out.trans (hb3.mono HW2.out.size))
  clear hr3 hb3
  go_wp2_with (go_at_call 12; refine (lives3 _).mono ?_; rintro e w' ⟨rfl, hl⟩)
  go_ret
  exact ⟨rfl, HW3.out.trans (hl.mono HW3.out.size)⟩
set_option maxHeartbeats 4000000 in
theorem ftakes_no (v : Value) (bs : List Nat) (w : World) (hb : RB w v bs) (hl : bs.length ≤ 3000) (he : (takeOf bs).e ≠ 0 ∨ (takeOf bs).n ≠ bs.length) :
    Calls Try.prog 4 #[v] w fun e w' => e = .returned (.bool true) ∧ Below w.heap.size w w' := by
  have hT := fun (W : World) (h : RB W v bs) => take_any v bs W h
  have hR := fun (W : World) (h : RB W v bs) => reftake_any v bs W h
  have hW := fun (W : World) (h : RB W v bs) => whole_no v bs W h he
  generalize takeOf bs = t at *
  obtain ⟨k, body, n, e⟩ := t
  dsimp only at he
  have HT := Lib.hid hT
  have HR := Lib.hid hR
  have HW := Lib.hid hW
  have HB := Lib.hid hb
  obtain ⟨a, cap, rfl, _, _⟩ := hb.shape
  obtain ⟨m, hm⟩ : ∃ m, bs.length = m := ⟨_, rfl⟩
  rw [hm] at hl he HT HR HW HB ⊢
  have hd : decide (3000 < (m : Int)) = false := by simp; omega
  clear hb hT hR hW hm
  have key : ((e : Int) == 0 ∧ ((n : Int) == (m : Int)) = false) ∨ ((e : Int) == 0) = false := by
    by_cases h0 : e = 0
    · exact .inl ⟨by simp [h0], by simp; omega⟩
    · exact .inr (by simp; omega)
  clear he
  rcases key with ⟨k1, k2⟩ | k1
  all_goals
    go_enter Try.func4, Try.ntmps4
    go_wp2_with fail
    refine (HT.out _ HB.out).mono ?_
    rintro e w1 ⟨v1, rfl, hr1, hb1⟩
    obtain ⟨a1, c1, hv1, _, _⟩ := hr1.shape
    subst hv1
    go_wp2_with fail
    refine (HR.out _ (HB.out.kept hb1)).mono ?_
    rintro e w2 ⟨v2, rfl, hr2, hb2⟩
    obtain ⟨a2, c2, hv2, _, _⟩ := hr2.shape
    subst hv2
    have HW2 := Lib.hid (hb1.trans (hb2.mono hb1.size))
    have e1 := rb_string (P := Try.prog) (hr1.kept hb2) 22 9 5 Try.underlying22 Try.underlying5 Try.underlying9
    have e2 := rb_string (P := Try.prog) hr2 22 9 5 Try.underlying22 Try.underlying5 Try.underlying9
    clear hr1 hr2 hb1 hb2
    go_wp2_with fail
    refine (HW.out _ (HB.out.kept HW2.out)).mono ?_
    rintro e w3 ⟨v3, rfl, hr3, hb3⟩
    obtain ⟨a3, c3, rfl⟩ := hr3.shapeN (n := 0) rfl
    clear e1 e2
    have HW3 := Lib.hid (HW2.out.trans (hb3.mono HW2.out.size))
    clear hr3 hb3
    go_wp2_with (go_at_call 12; refine (lives3 _).mono ?_; rintro e w' ⟨rfl, hl⟩)
    go_ret
    exact ⟨rfl, HW3.out.trans (hl.mono HW3.out.size)⟩
end Go.Proofs.Yteehglaadofidaa

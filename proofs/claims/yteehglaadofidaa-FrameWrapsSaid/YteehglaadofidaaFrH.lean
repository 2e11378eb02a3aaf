/- The walk of FrameWraps. -/
import Derived.Test.YteehglaadofidaaFrE
import Derived.Deep.RegionWith
namespace Go.Proofs.Yteehglaadofidaa
open Go.RowKit

theorem fwraps_big (k : Int) (a0 b0 : Option Addr) (n1 n2 c1 c2 : Nat) (w : World) (h1 : n1 ≤ 9223372036854775807) (h2 : n2 ≤ 9223372036854775807) (h : 66000 < n1 ∨ 1000 < n2) :
    Calls Try.prog 3 #[.int .u8 k, .slice a0 n1 c1, .slice b0 n2 c2] w fun e w' => e = .returned (.bool true) ∧ Below w.heap.size w w' := by
  by_cases h3 : 66000 < n1
  · have hd : decide (66000 < (n1 : Int)) = true := by simp; omega
    go_enter Try.func3, Try.ntmps3
    go_wp2_with (go_at_call 12; refine (lives3 _).mono ?_; rintro e w' ⟨rfl, hb⟩)
    go_ret
    exact ⟨rfl, hb⟩
  · have hd : decide (66000 < (n1 : Int)) = false := by simp; omega
    have hd2 : decide (1000 < (n2 : Int)) = true := by simp; omega
    go_enter Try.func3, Try.ntmps3
    go_wp2_with (go_at_call 12; refine (lives3 _).mono ?_; rintro e w' ⟨rfl, hb⟩)
    go_ret
    exact ⟨rfl, hb⟩
theorem fwraps_zero (v u : Value) (bs ms : List Nat) (w : World) (hb : RB w v bs) (hm : RB w u ms) (h1 : bs.length ≤ 66000) (h2 : ms.length ≤ 1000) :
    Calls Try.prog 3 #[.int .u8 0, v, u] w fun e w' => e = .returned (.bool true) ∧ Below w.heap.size w w' := by
  have HZ := Lib.hid (wrap_zero v bs w hb)
  obtain ⟨a, cap, rfl, _, _⟩ := hb.shape
  obtain ⟨a', cap', rfl, _, _⟩ := hm.shape
  obtain ⟨n, hn⟩ : ∃ n, bs.length = n := ⟨_, rfl⟩
  obtain ⟨m, hmn⟩ : ∃ n, ms.length = n := ⟨_, rfl⟩
  rw [hn] at h1 HZ ⊢
  rw [hmn] at h2 ⊢
  have hd : decide (66000 < (n : Int)) = false := by simp; omega
  have hd2 : decide (1000 < (m : Int)) = false := by simp; omega
  clear hb hm hn hmn
  go_enter Try.func3, Try.ntmps3
  go_wp2_with (first
    | (go_at_call 13; refine HZ.out.mono ?_; rintro e w2 ⟨rfl, rfl⟩)
    | (go_at_call 12; refine (lives3 _).mono ?_; rintro e w' ⟨rfl, hl⟩))
  go_ret
  exact ⟨rfl, hl⟩
theorem fwraps_long (k : Nat) (v u : Value) (bs ms : List Nat) (w : World) (hb : RB w v bs) (hm : RB w u ms) (hk : k ≠ 0) (h0 : 65536 < bs.length) (h1 : bs.length ≤ 66000) (h2 : ms.length ≤ 1000) :
    Calls Try.prog 3 #[.int .u8 (k : Int), v, u] w fun e w' => e = .returned (.bool true) ∧ Below w.heap.size w w' := by
  have HZ := Lib.hid (wrap_long k v bs w hb hk h0)
  have hx : ((k : Int) == 0) = false := by simp; omega
  obtain ⟨a, cap, rfl, _, _⟩ := hb.shape
  obtain ⟨a', cap', rfl, _, _⟩ := hm.shape
  obtain ⟨n, hn⟩ : ∃ n, bs.length = n := ⟨_, rfl⟩
  obtain ⟨m, hmn⟩ : ∃ n, ms.length = n := ⟨_, rfl⟩
  rw [hn] at h0 h1 HZ ⊢
  rw [hmn] at h2 ⊢
  have hd : decide (66000 < (n : Int)) = false := by simp; omega
  have hd2 : decide (1000 < (m : Int)) = false := by simp; omega
  clear hb hm hn hmn
  go_enter Try.func3, Try.ntmps3
  go_wp2_with (first
    | (go_at_call 13; refine HZ.out.mono ?_; rintro e w2 ⟨rfl, rfl⟩)
    | (go_at_call 12; refine (lives3 _).mono ?_; rintro e w' ⟨rfl, hl⟩))
  go_ret
  exact ⟨rfl, hl⟩
set_option maxHeartbeats 4000000 in
theorem fwraps_ok (k : Nat) (v u : Value) (bs ms : List Nat) (w : World) (hb : RB w v bs) (hm : RB w u ms) (hk : k ≠ 0) (hk2 : k < 256) (h1 : bs.length ≤ 65536) (h2 : ms.length ≤ 1000) :
    Calls Try.prog 3 #[.int .u8 (k : Int), v, u] w fun e w' => e = .returned (.bool true) ∧ Below w.heap.size w w' := by
  have HW := Lib.hid (wrap_ok k v bs w hb hk hk2 h1)
  have HFL := Lib.hid (frm_lt k bs hk2 h1 hb.1)
  have HFN := Lib.hid (frm_len k bs)
  have HTK := Lib.hid (take_frm k bs ms hk h1 hb.1)
  have hx : ((k : Int) == 0) = false := by simp; omega
  have HB := Lib.hid hb
  have HM := Lib.hid hm
  obtain ⟨a, cap, rfl, _, _⟩ := hb.shape
  obtain ⟨a', cap', rfl, _, _⟩ := hm.shape
  obtain ⟨n, hn⟩ : ∃ n, bs.length = n := ⟨_, rfl⟩
  obtain ⟨m, hmn⟩ : ∃ n, ms.length = n := ⟨_, rfl⟩
  have HN := Lib.hid hn
  have HMN := Lib.hid hmn
  rw [hn] at h1 HW HFN HB HTK ⊢
  rw [hmn] at h2 HM ⊢
  have hd : decide (66000 < (n : Int)) = false := by simp; omega
  have hd2 : decide (1000 < (m : Int)) = false := by simp; omega
  clear hb hm hn hmn
  go_enter Try.func3, Try.ntmps3
  go_wp2_with (go_at_call 13; refine HW.out.mono ?_; rintro e w1 ⟨v1, rfl, ho1, hb1⟩; have hr1 := ho1.rb HFL.out (by have := HFN.out; omega); obtain ⟨sa, sc, rfl⟩ := hr1.shapeN HFN.out)
  have HW1 := Lib.hid hb1.drew
  have HR1 := Lib.hid hr1.drew
  have HB1 := Lib.hid (HB.out.kept hb1).drew
  have HC := Lib.hid (refbytes_any k _ bs w1.drew HB1.out hk2 (by have := HN.out; omega))
  have es := rb_string (P := Try.prog) HR1.out 22 9 5 Try.underlying22 Try.underlying5 Try.underlying9
  clear hb1 hr1 ho1
  go_region_with (go_at_call 14; refine HC.out.mono ?_; rintro e w2 ⟨v2, rfl, ho2, hb2⟩; have es2 := rb_string (P := Try.prog) (HR1.out.kept hb2) 22 9 5 Try.underlying22 Try.underlying5 Try.underlying9; have et2 := rb_string (P := Try.prog) (ho2.rb HFL.out (by have := HFN.out; omega)) 22 9 5 Try.underlying22 Try.underlying5 Try.underlying9; have HW2 := Lib.hid (HW1.out.trans (hb2.mono HW1.out.size)); have HR2 := Lib.hid (HR1.out.kept hb2); have HB2 := Lib.hid (HB1.out.kept hb2); clear hb2 ho2)
  all_goals
    have HM2 := Lib.hid (HM.out.kept HW2.out)
    clear es2 et2 es
    go_wp2_with (first
      | (at_builtin; refine append_rb rfl (.tmp 65) (.tmp 66) rfl w2.heap.size _ _ [] (frm k bs) rfl rfl (ob_empty _ _ rfl) (by have := HR2.out.kept ((Below.refl _ _).alloc (Nat.le_refl _) (.cells #[] 5)); exact this) (by have := HFN.out; simp; omega) (by simp) ?_; intro v3 w3 ho3 hg3; have hb3 := (ob_empty w2 _ rfl).below hg3 ((Below.refl w2.heap.size w2).alloc (Nat.le_refl _) _) (by simp); clear hg3; simp only [List.nil_append] at ho3; have hm3 := HM2.out.kept hb3)
      | (at_builtin; refine append_rb rfl (.tmp 67) (.tmp 68) rfl w2.heap.size _ _ (frm k bs) ms rfl rfl ho3 hm3 (by have := HFN.out; have := HMN.out; omega) hb3.size ?_; intro v4 w4 ho4 hg4; have hb4 := ho3.below hg4 hb3 hb3.size; clear hg4; have hr4 := ho4.rb (fun c hc => (List.mem_append.1 hc).elim (HFL.out c) (HM.out.1 c)) (by have := HFN.out; have := HMN.out; rw [List.length_append]; omega))
      | (go_at_call 15; have ht4 := take_any _ _ _ hr4; rw [HTK.out] at ht4; refine ht4.mono ?_; clear ht4; rintro e w5 ⟨v5, rfl, hr5, hb5⟩; have hb5' := hb4.trans (hb5.mono hb4.size); have e5 := rb_string (P := Try.prog) hr5 22 9 5 Try.underlying22 Try.underlying5 Try.underlying9; have f5 := rb_string (P := Try.prog) (HB2.out.kept hb5') 22 9 5 Try.underlying22 Try.underlying5 Try.underlying9; obtain ⟨a5, c5, rfl⟩ := hr5.shapeN HN.out; clear hr5 hb4 hb5)
      | (go_at_call 12; refine (lives3 _).mono ?_; rintro e w' ⟨rfl, hl⟩))
    go_ret
    exact ⟨rfl, (HW2.out.trans (hb5'.mono HW2.out.size)).trans (hl.mono (Nat.le_trans HW2.out.size hb5'.size))⟩
end Go.Proofs.Yteehglaadofidaa

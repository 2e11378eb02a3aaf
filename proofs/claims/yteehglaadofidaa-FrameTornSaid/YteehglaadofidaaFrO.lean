/- The walk of FrameTorn. -/
import Derived.Test.YteehglaadofidaaFrN
import Derived.Test.YteehglaadofidaaLawsB
namespace Go.Proofs.Yteehglaadofidaa
open Go.RowKit

theorem torn_take (k : Nat) (fs bs : List Nat) (m : Nat) (hlt : ∀ c ∈ fs, c < 256) (hf : fs.length ≤ 65536) : takeOf (frm 1 fs ++ (frm k bs).take m) = ⟨1, fs, fs.length + 8, 0⟩ := take_frm 1 fs _ (by omega) hf hlt
theorem torn_rows (k : Nat) (fs bs : List Nat) (m : Nat) (hlt : ∀ c ∈ fs, c < 256) (hf : fs.length ≤ 65536) (hk : k ≠ 0) (hb : bs.length ≤ 65536) (hm : m < bs.length + 8) :
    endAt (frm 1 fs ++ (frm k bs).take m) = fs.length + 8 ∧ whyEnd (frm 1 fs ++ (frm k bs).take m) = if m = 0 then 0 else 23 := by
  have h1 := torn_take k fs bs m hlt hf
  have hd : (frm 1 fs ++ (frm k bs).take m).drop (fs.length + 8) = (frm k bs).take m := by
    rw [← frm_len 1 fs, List.drop_left']; rfl
  have h2 := take_cut k bs m hk hb hm
  have he : endAt (frm 1 fs ++ (frm k bs).take m) = fs.length + 8 := by
    unfold endAt
    rw [rows_yes (by rw [h1]), h1]
    dsimp only
    rw [hd, rows_no (by rw [h2]; simp), sizeR_cons]
    rfl
  refine ⟨he, ?_⟩
  unfold whyEnd
  rw [he, hd, h2, List.length_append, frm_len, List.length_take, frm_len]
  by_cases h0 : m = 0
  · rw [if_pos h0, if_pos (by omega)]
  · rw [if_neg h0, if_neg (by omega)]

theorem ftorn_big (k : Int) (a0 b0 : Option Addr) (n1 n2 c1 c2 : Nat) (cut : Int) (w : World) (h1 : n1 ≤ 9223372036854775807) (h2 : n2 ≤ 9223372036854775807) (h : 1000 < n1 ∨ 1000 < n2) :
    Calls Try.prog 6 #[.int .u8 k, .slice a0 n1 c1, .slice b0 n2 c2, .int .u16 cut] w fun e w' => e = .returned (.bool true) ∧ Below w.heap.size w w' := by
  by_cases h3 : 1000 < n2
  · have hd : decide (1000 < (n2 : Int)) = true := by simp; omega
    go_enter Try.func6, Try.ntmps6
    go_wp2_with (go_at_call 12; refine (lives3 _).mono ?_; rintro e w' ⟨rfl, hb⟩)
    go_ret
    exact ⟨rfl, hb⟩
  · have hd : decide (1000 < (n2 : Int)) = false := by simp; omega
    have hd2 : decide (1000 < (n1 : Int)) = true := by simp; omega
    go_enter Try.func6, Try.ntmps6
    go_wp2_with (go_at_call 12; refine (lives3 _).mono ?_; rintro e w' ⟨rfl, hb⟩)
    go_ret
    exact ⟨rfl, hb⟩
set_option maxHeartbeats 1000000 in
theorem ftorn_zero (u v : Value) (fs bs : List Nat) (cut : Int) (w : World) (hf : RB w u fs) (hb : RB w v bs) (h1 : fs.length ≤ 1000) (h2 : bs.length ≤ 1000) :
    Calls Try.prog 6 #[.int .u8 0, u, v, .int .u16 cut] w fun e w' => e = .returned (.bool true) ∧ Below w.heap.size w w' := by
  have HW := Lib.hid (wrap_ok 1 u fs w hf (by omega) (by omega) (by omega))
  have HFL := Lib.hid (frm_lt 1 fs (by omega) (by omega) hf.1)
  have HFN := Lib.hid (frm_len 1 fs)
  have HB := Lib.hid hb
  obtain ⟨a, cap, rfl, _, _⟩ := hf.shape
  obtain ⟨a', cap', rfl, _, _⟩ := hb.shape
  obtain ⟨n1, hn1⟩ : ∃ n, fs.length = n := ⟨_, rfl⟩
  obtain ⟨n2, hn2⟩ : ∃ n, bs.length = n := ⟨_, rfl⟩
  rw [hn1] at h1 HW HFN ⊢
  rw [hn2] at h2 HB ⊢
  have hd : decide (1000 < (n2 : Int)) = false := by simp; omega
  have hd2 : decide (1000 < (n1 : Int)) = false := by simp; omega
  clear hf hb hn1 hn2
  go_enter Try.func6, Try.ntmps6
  go_wp2_with fail
  refine HW.out.mono ?_
  rintro e w1 ⟨v1, rfl, ho1, hb1⟩
  obtain ⟨sa, sc, rfl⟩ := (ho1.rb HFL.out (by have := HFN.out; omega)).shapeN HFN.out
  go_wp2_with fail
  refine (wrap_zero _ _ _ (HB.out.kept hb1)).mono ?_
  rintro e w2 ⟨rfl, rfl⟩
  go_wp2_with (go_at_call 12; refine (lives3 _).mono ?_; rintro e w' ⟨rfl, hl⟩)
  go_ret
  exact ⟨rfl, hb1.trans (hl.mono hb1.size)⟩
set_option maxHeartbeats 4000000 in
theorem ftorn_ok (k : Nat) (u v : Value) (fs bs : List Nat) (c : Nat) (w : World) (hf : RB w u fs) (hb : RB w v bs) (h1 : fs.length ≤ 1000) (h2 : bs.length ≤ 1000) (hk : k ≠ 0) (hk2 : k < 256) (hc : c < 65536) :
    Calls Try.prog 6 #[.int .u8 (k : Int), u, v, .int .u16 (c : Int)] w fun e w' => e = .returned (.bool true) ∧ Below w.heap.size w w' := by
  have hx : ((k : Int) == 0) = false := by simp; omega
  have HW := Lib.hid (wrap_ok 1 u fs w hf (by omega) (by omega) (by omega))
  have HFL := Lib.hid (frm_lt 1 fs (by omega) (by omega) hf.1)
  have HFN := Lib.hid (frm_len 1 fs)
  have HW2 := Lib.hid fun W (h : RB W v bs) => wrap_ok k v bs W h hk hk2 (by omega)
  have HGL := Lib.hid (frm_lt k bs hk2 (by omega) hb.1)
  have HGN := Lib.hid (frm_len k bs)
  have HB := Lib.hid hb
  obtain ⟨m, hm⟩ : ∃ m, c % (bs.length + 8) = m := ⟨_, rfl⟩
  have hml : m < bs.length + 8 := by rw [← hm]; exact Nat.mod_lt _ (by omega)
  have hmi : (c : Int) % ((bs.length + 8 : Nat) : Int) = (m : Int) := by rw [← hm, Int.natCast_emod]
  have HTC := Lib.hid (take_cut k bs m hk (by omega) hml)
  have htr := torn_rows k fs bs m hf.1 (by omega) hk (by omega) hml
  obtain ⟨why, hwy⟩ : ∃ why : Nat, (if m = 0 then 0 else 23) = why := ⟨_, rfl⟩
  rw [hwy] at htr
  have hcase : (((m : Int) == 0) = true ∧ why = 0) ∨ (((m : Int) == 0) = false ∧ why = 23) := by
    by_cases h0 : m = 0
    · rw [if_pos h0] at hwy; exact .inl ⟨by simp [h0], hwy.symm⟩
    · rw [if_neg h0] at hwy; exact .inr ⟨by simp; omega, hwy.symm⟩
  have HTR := Lib.hid htr
  have HTL : Hid (((frm 1 fs ++ (frm k bs).take m).length ≤ 3000)) := Lib.hid (by rw [List.length_append, frm_len, List.length_take, frm_len]; omega)
  have HTT := Lib.hid (fun c (hc : c ∈ frm 1 fs ++ (frm k bs).take m) => (List.mem_append.1 hc).elim (frm_lt 1 fs (by omega) (by omega) hf.1 c) (fun h => frm_lt k bs hk2 (by omega) hb.1 c (List.mem_of_mem_take h)))
  clear htr hwy
  obtain ⟨a, cap, rfl, _, _⟩ := hf.shape
  obtain ⟨a', cap', rfl, _, _⟩ := hb.shape
  obtain ⟨n1, hn1⟩ : ∃ n, fs.length = n := ⟨_, rfl⟩
  obtain ⟨n2, hn2⟩ : ∃ n, bs.length = n := ⟨_, rfl⟩
  rw [hn1] at h1 HW HFN HTR ⊢
  rw [hn2] at h2 HB HW2 HGN hml hmi ⊢
  have hd : decide (1000 < (n2 : Int)) = false := by simp; omega
  have hd2 : decide (1000 < (n1 : Int)) = false := by simp; omega
  obtain ⟨N, hN⟩ : ∃ N, n2 + 8 = N := ⟨_, rfl⟩
  rw [hN] at HGN hml hmi
  have hN8 : 8 ≤ N := by omega
  have hNm : N ≤ 1008 := by omega
  clear hf hb hn1 hn2 hm hN hk
  rcases hcase with ⟨hm0, rfl⟩ | ⟨hm0, rfl⟩
  all_goals
    go_enter Try.func6, Try.ntmps6
    go_wp2_with fail
    refine HW.out.mono ?_
    rintro e w1 ⟨v1, rfl, ho1, hb1⟩
    have hr1 := ho1.rb HFL.out (by have := HFN.out; omega)
    obtain ⟨sa, sc, rfl⟩ := hr1.shapeN HFN.out
    go_wp2_with fail
    refine (HW2.out _ (HB.out.kept hb1)).mono ?_
    rintro e w2 ⟨v2, rfl, ho2, hb2⟩
    have hr2 := ho2.rb HGL.out (by have := HGN.out; omega)
    obtain ⟨g, off, sd, hv2, hcap, hcm, _, _⟩ := hr2.at (by have := HGN.out; omega)
    rw [HGN.out] at hv2 hcap
    subst hv2
    unfold maxLen at hcm
    have HR1 := Lib.hid (hr1.kept hb2)
    have HR2 := Lib.hid (hr2.upto m (by have := HGN.out; omega))
    have HBB := Lib.hid (hb1.trans (hb2.mono hb1.size))
    clear hr1 hr2 ho1 ho2 hb1 hb2
    have HT := Lib.hid (take_any _ _ w2 HR2.out)
    rw [HTC.out] at HT
    go_wp2_with fail
    refine HT.out.mono ?_
    rintro e w3 ⟨v3, rfl, hr3, hb3⟩
    obtain ⟨a3, c3, rfl⟩ := hr3.shapeN (n := 0) rfl
    have HB3 := Lib.hid (HBB.out.trans (hb3.mono HBB.out.size)).drew
    have HR13 := Lib.hid (HR1.out.kept hb3).drew
    have HR23 := Lib.hid (HR2.out.kept hb3).drew
    clear hr3 hb3
    go_wp2_with fail
    have hms : m ≤ sd := by omega
    go_region_law (first
      | (refine step_append_rb rfl (.tmp 70) (.tmp 71) rfl w3.drew.heap.size _ _ [] (frm 1 fs) rfl rfl (ob_empty _ _ rfl) (HR13.out.kept ((Below.refl _ _).alloc (Nat.le_refl _) (.cells #[] 5))) (by have := HFN.out; simp; omega) (by simp) ?_; intro v4 w4 ho4 hg4; have hb4 := (ob_empty w3.drew _ rfl).below hg4 ((Below.refl w3.drew.heap.size w3.drew).alloc (Nat.le_refl _) _) (by simp); simp only [List.nil_append] at ho4; have HR24 := Lib.hid (HR23.out.kept hb4); clear hg4)
      | (refine step_append_rb rfl (.tmp 72) (.tmp 75) rfl w3.drew.heap.size _ _ (frm 1 fs) _ rfl rfl ho4 HR24.out (by have := HTL.out; rw [List.length_append] at this; omega) hb4.size ?_; intro v5 w5 ho5 hg5; have hb5 := ho4.below hg5 hb4 hb4.size; clear hg5; have HB5 := Lib.hid (HB3.out.trans (hb5.mono HB3.out.size)); have hE := end_any _ _ _ (ho5.rb HTT.out (by have := HTL.out; omega)) (by have := HTL.out; omega) (fun b hb => (World.ownsRow.lt ho5 b hb).2); unfold Ended at hE; rw [HTR.out.1, HTR.out.2] at hE; have HEE := Lib.hid hE; clear hE)
      | (go_simp; go_at_call 20; refine HEE.out.mono ?_; rintro e w6 ⟨rfl, hb6⟩; have HB6 := Lib.hid (HB5.out.trans (hb6.mono HB5.out.size)); clear hb6))
    go_wp2_with (go_at_call 12; refine (lives3 _).mono ?_; rintro e w' ⟨rfl, hl⟩)
    go_ret
    exact ⟨rfl, HB6.out.trans (hl.mono HB6.out.size)⟩
end Go.Proofs.Yteehglaadofidaa

/- Segments: the chapter's example. -/
import Derived.Test.YthefnakbpalecaaSgE
import Derived.Test.YthefnakbpalecaaSgH
import Derived.Test.YthefnakbpalecaaSgN
import Derived.Deep.DeepCutAuto
namespace Go.Proofs.Ythefnakbpalecaa
open Go.RowKit
theorem name300 : str (nameB 300) = ⟨#[76, 48, 48, 48, 48, 48, 48, 48, 48, 48, 48, 48, 48, 49, 50, 99]⟩ := by
  have h : dgs 300 15 = [48, 48, 48, 48, 48, 48, 48, 48, 48, 48, 48, 48, 49, 50, 99] := by decide
  unfold nameB
  rw [h]
  rfl
set_option maxRecDepth 100000 in
set_option maxHeartbeats 8000000 in
theorem lives24 (w : World) : Calls Try.prog 14 #[] w fun e w' => e = .returned (.bool true) ∧ Below w.heap.size w w' := by
  obtain ⟨G, hG⟩ : ∃ G, (segB 5 [⟨1, 1, []⟩]).length = G := ⟨_, rfl⟩
  have hG8 : 8 ≤ G := by rw [← hG]; unfold segB; rw [List.length_append]; have := headB_pos 5; omega
  have hsr : sRead (headB 5 ++ slineB 5 1 1 []) = (5, [⟨1, 1, []⟩], G) := by
    have h := sRead_seg 5 [⟨1, 1, []⟩] [] (by omega) (by omega) (by intro e he; simp only [List.mem_singleton] at he; subst he; exact ⟨by decide, by intro c hc; cases hc⟩) (by simp)
    rw [List.append_nil, rowsOf_nil, sRows_nil, hG] at h
    have e : segB 5 [⟨1, 1, []⟩] = headB 5 ++ slineB 5 1 1 [] := by unfold segB linesB linesB; rw [List.append_nil]; rfl
    rw [e] at h
    exact h
  have HSR := Lib.hid hsr
  have HG8 := Lib.hid hG8
  obtain ⟨X, hX⟩ : ∃ X, headB 5 = X := ⟨_, rfl⟩
  obtain ⟨Y, hY⟩ : ∃ Y, slineB 5 1 1 [] = Y := ⟨_, rfl⟩
  have HXL : Hid (X.length ≤ 17) := Lib.hid (by rw [← hX]; exact headB_len 5 (by omega))
  have HYL : Hid (Y.length ≤ 4140) := Lib.hid (by rw [← hY]; exact slineB_len 5 1 1 [] (by omega) (by omega) (by omega) (by simp))
  have HXT : Hid (∀ c ∈ X, c < 256) := Lib.hid (by rw [← hX]; exact headB_lt 5 (by omega))
  have HYT : Hid (∀ c ∈ Y, c < 256) := Lib.hid (by rw [← hY]; exact slineB_lt 5 1 1 [] (by omega) (by omega) (by omega) (by simp) (by intro c hc; cases hc))
  rw [hX, hY] at HSR
  have HLN := Lib.hid (sline_any 5 1 1 (.slice none 0 0) [] w (by omega) (by omega) (RB.nil w))
  have HHD := Lib.hid (fun w => shead_any 5 w (by omega))
  rw [hX] at HHD
  rw [show (1 : Int).toNat = 1 from rfl, hY] at HLN
  clear hG hG8 hsr hX hY
  go_enter Try.func14, Try.ntmps14
  go_wp2_with fail
  refine HLN.out.mono ?_
  rintro e w1 ⟨hb1, v1, ⟨-, rfl, ho1⟩ | ⟨hz, -⟩⟩
  · have HB1 := Lib.hid hb1
    have HR1 := Lib.hid (ho1.rb HYT.out (by have := HYL.out; omega))
    clear hb1 ho1
    go_wp2_with fail
    refine (HHD.out w1).mono ?_
    rintro e w2 ⟨v2, rfl, ho2, hb2⟩
    have HB2 := Lib.hid (HB1.out.trans (hb2.mono HB1.out.size))
    have HO2 := Lib.hid (ho2.mono HB1.out.size)
    have HR2 := Lib.hid (HR1.out.kept hb2)
    clear ho2 hb2
    go_wp2_with (at_builtin; refine append_rb rfl (.tmp 12) (.tmp 13) rfl w.heap.size v2 v1 X Y rfl rfl HO2.out HR2.out (by have := HXL.out; have := HYL.out; omega) HB2.out.size ?_; intro v3 w3 ho3 hg3; have HB3 := Lib.hid (HO2.out.below hg3 HB2.out HB2.out.size); have HR3 := Lib.hid (ho3.rb (fun c hc => by rcases List.mem_append.1 hc with h | h; exact HXT.out c h; exact HYT.out c h) (by rw [List.length_append]; have := HXL.out; have := HYL.out; omega)); clear ho3 hg3)
    refine (sread_any v3 _ w3 HR3.out (by rw [List.length_append]; have := HXL.out; have := HYL.out; omega)).mono ?_
    rintro e w4 ⟨hb4, v4, L4, rfl, heo, hmp⟩
    rw [HSR.out] at hmp ⊢
    dsimp only at hmp ⊢
    have hl4 : L4.length = 1 := by have := congrArg List.length hmp; rw [List.length_map] at this; exact this
    obtain ⟨va, vc, rfl⟩ := heo.shape
    rw [hl4]
    have HB4 := Lib.hid (HB3.out.trans (hb4.mono HB3.out.size))
    have HNM := Lib.hid (fun w => sname_any 300 w (by omega) (by omega))
    rw [name300] at HNM
    clear hb4 heo hmp hl4
    have gg1 : decide ((G : Int) > 0) = true := decide_eq_true (by have := HG8.out; omega)
    have gg2 : decide (0 < (G : Int)) = true := decide_eq_true (by have := HG8.out; omega)
    have gg3 : decide (0 < G) = true := decide_eq_true (by have := HG8.out; omega)
    go_wp2_with fail
    refine (HNM.out _).mono ?_
    rintro e w5 ⟨rfl, hb5⟩
    have HB5 := Lib.hid (HB4.out.trans (hb5.mono HB4.out.size))
    clear hb5
    go_wp2_with fail
    go_ret
    exact ⟨rfl, HB5.out⟩
  · exact absurd hz (by decide)
end Go.Proofs.Ythefnakbpalecaa

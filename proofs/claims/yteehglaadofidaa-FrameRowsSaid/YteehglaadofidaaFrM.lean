/- Walks of frame: the function that enumerates frames; frames; Each; End. -/
import Derived.Test.YteehglaadofidaaRngA
import Derived.Test.YteehglaadofidaaFrL
import Derived.Outline
namespace Go.Proofs.Yteehglaadofidaa
open Go.RowKit Go.Shelf
attribute [local go_sem] Oper.semAt_some

def lenV : Value → Nat
  | .slice _ n _ => n
  | _ => 0
set_option maxHeartbeats 1000000 in
theorem frames1_in (l c : Nat) (X : Nat → Prop) (v : Value) (bs : List Nat) (J : Nat → World → Prop) (hJ : ∀ k V V', J k V → Below V.heap.size V V' → J k V')
    (hX : ∀ b, v.ownBlock = some b → ¬ X b) (hY : Yielding l X (rowsOf bs) J) (W : World) (hbox : W.cell? ⟨c, 0, none⟩ = some v) (hb : RB W v bs) (h0 : J 0 W) :
    CallsIn Fence.wide 2 Try.prog 53 #[.func (.yield l) #[] #[], .pointer (some ⟨c, 0, none⟩)] W fun e W' => (∃ v, e = .returned v) ∧ J (rowsOf bs).length W' := by
  obtain ⟨a0, cap0, rfl, _, _⟩ := hb.shape
  obtain ⟨n0, hn0⟩ : ∃ n, bs.length = n := ⟨_, rfl⟩
  rw [hn0] at hX hbox hb
  have HN := Lib.hid hn0
  have HX := Lib.hid hX
  have HB := Lib.hid hb
  have HJ := Lib.hid hJ
  have HY := Lib.hid hY
  have H0 := Lib.hid h0
  clear hn0 hX hb hJ hY h0
  refine callsIn_of_wp Try.func53 rfl trivial ?_
  simp only [Try.ntmps53, List.size_toArray, List.length_cons, List.length_nil, Nat.reduceAdd, Nat.reduceSub, Array.replicate_succ, Array.replicate_zero, List.push_toArray, List.append_toArray, List.nil_append, List.cons_append]
  gi_wp2
  gi_loopw [3] (fun s wr => ∃ (k : Nat) (v' : Value) (rest : List Nat), s = v' ∧ RB wr v' rest ∧ (∀ b, v'.ownBlock = some b → ¬ X b) ∧ k ≤ (rowsOf bs).length ∧ (rowsOf bs).drop k = rowsOf rest ∧ J k wr) (fun s _ => lenV s)
  case atStart => exact ⟨0, _, bs, rfl, HB.out, HX.out, by omega, List.drop_zero, H0.out⟩
  case round =>
    clear hbox
    obtain ⟨k, v', rest, rfl, hr, hx, hk, hd, hj⟩ := hrel
    have HT := Lib.hid (take_any _ _ wr hr)
    by_cases he : (takeOf rest).e = 0
    · obtain ⟨hn8, hnl, hb6⟩ := take_ok_n he
      have hrow := rows_yes he
      rw [hrow] at hd
      have hget : (rowsOf bs)[k]? = some ((takeOf rest).kind, (takeOf rest).body) := by
        have : ((rowsOf bs).drop k)[0]? = some ((takeOf rest).kind, (takeOf rest).body) := by rw [hd]; rfl
        rwa [List.getElem?_drop, Nat.add_zero] at this
      have hd1 : (rowsOf bs).drop (k + 1) = rowsOf (rest.drop (takeOf rest).n) := by
        rw [← List.drop_drop, hd]; rfl
      have hk1 : k + 1 ≤ (rowsOf bs).length := (List.getElem?_eq_some_iff.1 hget).1
      obtain ⟨b, off, cap, hv, hcap, hcm, _, _⟩ := hr.at (by omega)
      subst hv
      have HR := Lib.hid hr
      have HXX := Lib.hid hx
      have HJK := Lib.hid hj
      have HG := Lib.hid hget
      have HD := Lib.hid hd1
      generalize takeOf rest = t at *
      obtain ⟨kd, body, n, e⟩ := t
      dsimp only at he hn8 hnl hb6 HG HD
      subst he
      obtain ⟨L, hL⟩ : ∃ L, rest.length = L := ⟨_, rfl⟩
      have HL := Lib.hid hL
      rw [hL] at HT HR HXX hcap hnl ⊢
      unfold maxLen at hcm
      clear hr hx hd hj hrow hget hd1 hL
      gi_wp2_with (refine ⟨trivial, ?_⟩; gi_at_call 15; refine (callsIn_wide.2 HT.out).mono ?_; rintro e w1 ⟨u, rfl, hu, hB⟩; obtain ⟨ua, uc, hus, _, _⟩ := hu.shape; subst hus)
      have hBk := hB
      obtain ⟨fn, tmps, assign, body', hy, hRd⟩ := HY.out k kd body _ w1 HG.out (HJ.out _ _ _ HJK.out hB) hu
      clear hu
      gi_wp2
      rw [hy]
      gi_wp2
      refine hRd.mono ?_
      rintro e W3 ⟨rfl, hJ3, hk3⟩
      have hK : Kept X wr W3 := (Kept.below hB).trans hk3
      have HR3 := Lib.hid (HR.out.keptX hK HXX.out)
      clear hy hRd hBk hB hK hk3
      by_cases hq : cap = body.length + 8
      · have hLn : L = body.length + 8 := by omega
        gi_wp2
        go_roundw
        case rel =>
          have hnil : rest.drop n = [] := List.drop_of_length_le (by have := HL.out; omega)
          rw [hnil] at HD
          exact ⟨k + 1, _, [], rfl, ⟨by simp, by simp, .inr ⟨⟨b, off, none⟩, 0, by simp, by simp, by simp, fun i hi => by simp at hi⟩⟩, fun b' hb' => HXX.out b' hb', hk1, HD.out, hJ3⟩
        case measure => simp [lenV]; omega
      · gi_wp2
        go_roundw
        case rel =>
          have hbh := HR3.out.behind n (by have := HL.out; omega)
          rw [hn8] at hbh
          exact ⟨k + 1, _, rest.drop n, rfl, by rw [hn8]; exact hbh, fun b' hb' => HXX.out b' hb', hk1, HD.out, hJ3⟩
        case measure => simp [lenV]; omega
    · have hrow := rows_no he
      rw [hrow] at hd
      have hkl : k = (rowsOf bs).length := by have := List.drop_eq_nil_iff.1 hd; omega
      have HK := Lib.hid hkl
      have HJK := Lib.hid hj
      obtain ⟨ra, rc, hv, _, _⟩ := hr.shape
      subst hv
      generalize takeOf rest = t at *
      obtain ⟨kd, body, n, e⟩ := t
      dsimp only at he
      have hx : ((e : Int) != 0) = true := by simp; omega
      obtain ⟨L, hL⟩ : ∃ L, rest.length = L := ⟨_, rfl⟩
      rw [hL] at HT ⊢
      clear hr hd hj hrow hkl hL he
      gi_wp2_with (refine ⟨trivial, ?_⟩; gi_at_call 15; refine (callsIn_wide.2 HT.out).mono ?_; rintro e w1 ⟨u, rfl, hu, hB⟩; obtain ⟨ua, uc, hus, _, _⟩ := hu.shape; subst hus)
      refine ⟨fun _ h => (by cases h), ?_⟩
      gi_wp2
      refine bodyPost_ret (results_none rfl _ _ _) rfl ?_
      exact ⟨⟨_, rfl⟩, by rw [← HK.out]; exact HJ.out _ _ _ HJK.out hB⟩

/-- What frames hands back: the function, that holds the bytes in a box of its own. -/
theorem frames_any (v : Value) (bs : List Nat) (w : World) (hb : RB w v bs) :
    Calls Try.prog 39 #[v] w fun e w' => e = .returned (.func (.func 53) #[] #[.pointer (some ⟨w.heap.size, 0, none⟩)]) ∧ w.alloc (.cells #[v] 22) = w' := by
  have hmf : ∀ (fn : Fn) (first cap : Array Value) (w : World), (Instr.makeFunc fn first cap).run Try.prog w = .ok (.func fn first cap) w := fun _ _ _ _ => rfl
  obtain ⟨a, cap, rfl, _, _⟩ := hb.shape
  obtain ⟨n, hn⟩ : ∃ n, bs.length = n := ⟨_, rfl⟩
  rw [hn]
  clear hb hn
  go_enter Try.func39, Try.ntmps39
  go_wp2
  go_ret
  exact ⟨rfl, rfl⟩
theorem frames_enters : ∀ args w, (callFunc 53 args).run Try.prog w = .ok (.enter 53 args) w := enters_of Try.func53 (by kernel_rfl) rfl
/-- The enumeration of the frames with which bytes begin, over whatever loop. -/
theorem frames_handing (v : Value) (bs : List Nat) (c : Nat) (X : Nat → Prop) (w : World) (hX : ∀ b, v.ownBlock = some b → ¬ X b ∧ b < w.heap.size) (hbox : w.cell? ⟨c, 0, none⟩ = some v) (hb : RB w v bs) :
    Handing 53 #[.pointer (some ⟨c, 0, none⟩)] (rowsOf bs) X w := by
  intro J hJ l W hl hB hY h0
  refine frames1_in l c (fun b => X b ∨ b = l) v bs J hJ ?_ hY W ((hB.cell (p := ⟨c, 0, none⟩) (cell_spot hbox).2).trans hbox) (hb.kept hB) h0
  intro b hv hx
  obtain ⟨h1, h2⟩ := hX b hv
  rcases hx with hx | hx
  · exact h1 hx
  · omega
end Go.Proofs.Yteehglaadofidaa

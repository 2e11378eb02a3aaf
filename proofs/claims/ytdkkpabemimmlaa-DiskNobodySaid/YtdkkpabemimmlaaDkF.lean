/- The disk: how much is free. -/
import Derived.Test.YtdkkpabemimmlaaDkE
import Derived.Deep.LoopGhost
namespace Go.Proofs.Ytdkkpabemimmlaa
open Go.RowKit Go.Maps
def freeD (D : Dd) : Int := if D.room < (sumF D.fs : Int) then 0 else D.room - (sumF D.fs : Int)
theorem strike_same (left : Lit → Bool) (n : Nm) : (left (.string n) && !(Lit.string n).sameKey (.string n)) = false := by simp [Lit.sameKey]
theorem strike_other (left : Lit → Bool) (x : Nm) (n : Nm) (h : n ≠ x) : (left (.string n) && !(Lit.string n).sameKey (.string x)) = left (.string n) := by simp [Lit.sameKey, h]
theorem strike_le {left : Lit → Bool} {x : Nm} {kl : Lit} (h : (left kl && !kl.sameKey (.string x)) = true) : left kl = true := by
  simp only [Bool.and_eq_true] at h
  exact h.1
section
variable {S : Nat → Prop} {w : World} {B m mt : Nat} {D : Dd} {M : Lit → Option Value} {V : Nm → Value}
/-- What the map of a disk is, for a range over it. -/
theorem DKx.ranged (h : DKx S w B m mt D M V) : ∃ Dm, w.ownsMap Try.prog 9 vR m D.fs.length Dm ∧ Maps.size Dm = D.fs.length ∧ (∀ l v, M l = some v → Maps.has Dm l = true ∧ ∀ z, Dm.atKey l z = .held v) ∧ ∀ l, M l = none → Maps.has Dm l = false := by
  obtain ⟨Dm, h1, h2, h3⟩ := h.df.vm
  exact ⟨Dm, h1, h2, fun l v e => by have := h3 l; rw [e] at this; exact this, fun l e => by have := h3 l; rw [e] at this; exact this⟩
theorem DKx.key_of (h : DKx S w B m mt D M V) {n : Nm} (hn : M (.string n) ≠ none) : ∃ f, getF D.fs n = some f := by
  rw [h.df.spot n] at hn
  cases e : getF D.fs n with
  | none => rw [e] at hn; exact absurd rfl hn
  | some f => exact ⟨f, rfl⟩
set_option maxRecDepth 100000 in
set_option maxHeartbeats 8000000 in
theorem dfree (h : DKx S w B m mt D M V) : Calls Try.prog 18 #[.pointer (some ⟨B, 0, none⟩)] w fun e w' => e = .returned (.int .i64 (freeD D)) ∧ Below w.heap.size w w' := by
  have H := Lib.hid h
  obtain ⟨Dm, hown, hsz, hM, hMN⟩ := h.ranged
  have HOWN := Lib.hid hown
  have HM := Lib.hid hM
  have HMN := Lib.hid hMN
  obtain ⟨c0, c1, -⟩ := h.at
  have HML := Lib.hid h.lt.2.1
  clear hown hM hMN h hsz
  go_enter Try.func18, Try.ntmps18
  go_wp2_with fail
  refine (dcreated_yes H.out).mono ?_
  rintro e w1 ⟨rfl, rfl⟩
  go_wp2_with (at_range; refine wpList_range_own _ rfl _ 62 rfl 9 114 keyedS fm_und _ m _ _ rfl HOWN.out ?_; intro w2 hrg0 hg0 hs0)
  go_frame
  obtain ⟨r, hr⟩ : ∃ r, w.heap.size = r := ⟨_, rfl⟩
  have HR := Lib.hid hr
  rw [hr] at hrg0
  try rw [hr]
  clear hr
  have HRG := Lib.hid hrg0
  have HBW : Hid (Below w.heap.size w w2) := Lib.hid ⟨hg0.os, hg0.tape, hg0.output, hg0.size, fun k hk => hg0.block k hk (by simp)⟩
  have HLF0 : Hid (∀ kl, Maps.has Dm kl = true → M kl ≠ none) := Lib.hid (fun kl hl e => by rw [HMN.out kl e] at hl; cases hl)
  have HSU : Hid (leftF (fun n => Maps.has Dm (.string n)) D.fs = sumF D.fs) := Lib.hid (leftF_all (fun p hp => by
    obtain ⟨a, c, -, e2⟩ := H.out.file (getF_of_mem H.out.df.srt (show (p.1, p.2) ∈ D.fs from hp))
    exact (HM.out _ _ e2).1))
  have HSL := Lib.hid H.out.df.sum
  have HRM := Lib.hid H.out.rm
  clear hrg0 hg0 hs0 c0 c1
  go_loopg [3] (Maps.size Dm) (fun kx s3 wr => ∃ (left : Lit → Bool) (cnt : Nat), cnt ≤ kx ∧ s3 = .int .i64 (D.room - (sumF D.fs : Int) + (leftF (fun n => left (.string n)) D.fs : Int)) ∧ Hid (wr.ranges Try.prog 9 vR m r D.fs.length Dm left cnt) ∧ Hid (∀ kl, left kl = true → M kl ≠ none) ∧ Hid (Below w.heap.size w wr))
  case atStart => exact ⟨_, _, Nat.le_refl _, by rw [HSU.out]; congr 1; omega, HRG, HLF0, HBW⟩
  case round =>
    clear HRG HBW HLF0 HSU
    obtain ⟨left, cnt, hcnt, rfl, HRG, HLF, HB⟩ := hrel
    go_wp2_with (at_next; refine wpList_next_ranges _ rfl _ rfl 9 keyedS vR encStr (fun v : Value => v) (fun key kl hkey => by obtain ⟨x, h1, -⟩ := Maps.keyOf_str Try.underlying9 hkey; exact ⟨x, h1⟩) (fun v y _ => ⟨v, rfl⟩) m r D.fs.length _ _ _ rfl HRG.out ?_ ?_)
    · intro hc0 hl0
      have HL0 : Hid (leftF (fun n => left (.string n)) D.fs = 0) := Lib.hid (leftF_none (fun p hp => hl0 _))
      rw [HL0.out]
      have e0 : D.room - (sumF D.fs : Int) + ((0 : Nat) : Int) = D.room - (sumF D.fs : Int) := by omega
      rw [e0]
      clear hl0 e0 hc0
      by_cases hlt : D.room < (sumF D.fs : Int)
      · have hm : D.room - (sumF D.fs : Int) < 0 := by omega
        have hd1 : decide (D.room - (sumF D.fs : Int) < 0) = true := decide_eq_true hm
        go_wp2_with fail
        go_ret
        refine ⟨?_, HB.out⟩
        unfold freeD
        rw [if_pos (by omega)]
        first | rfl | (congr 2; omega)
      · have hm : ¬ D.room - (sumF D.fs : Int) < 0 := by omega
        have hd1 : decide (D.room - (sumF D.fs : Int) < 0) = false := decide_eq_false hm
        go_wp2_with fail
        go_ret
        refine ⟨?_, HB.out⟩
        unfold freeD
        rw [if_neg (by omega)]
        first | rfl | (congr 2; omega)
    · intro x v kl y ps w3 cnt1 hkey hlx hv hat hrg1 hlt hg1 hs1 hen
      obtain ⟨x', ex, rfl, -⟩ := Maps.keyOf_str Try.underlying9 hkey
      obtain rfl := encStr_inj ex
      obtain ⟨f, hf⟩ := H.out.key_of (HLF.out _ hlx)
      obtain ⟨a, c, -, e2⟩ := H.out.file hf
      have hvy : v = .agg #[.slice a f.all.length c, .int .i64 (f.kept : Int)] := by
        have h1 := (HM.out _ _ e2).2 (.held v)
        have h2 := hat (.held v)
        rw [h1] at h2
        rw [← h2] at hv
        exact vR_inv hv
      subst hvy
      have HST : Hid (leftF (fun n => left (.string n)) D.fs = f.all.length + leftF (fun n => left (.string n) && !(Lit.string n).sameKey (.string x)) D.fs) := Lib.hid (leftF_step H.out.df.srt hf hlx (strike_same left x) (fun k hk => strike_other left x k hk))
      have HRG1 := Lib.hid hrg1
      have HLF1 : Hid (∀ kl, (left kl && !kl.sameKey (.string x)) = true → M kl ≠ none) := Lib.hid (fun kl hk => HLF.out kl (strike_le hk))
      have HB3 : Hid (Below w.heap.size w w3) := Lib.hid (HB.out.trans ⟨hg1.os, hg1.tape, hg1.output, hg1.size, fun k hk => hg1.block k (Nat.lt_of_lt_of_le hk HB.out.size) (fun e => by injection e with e; have := HR.out; omega)⟩)
      have hle := leftF_le (q := fun n => left (.string n)) D.fs
      have hcl : cnt1 ≤ cnt := by omega
      have hsb : D.room - (sumF D.fs : Int) + (leftF (fun n => left (.string n)) D.fs : Int) - (f.all.length : Int) = D.room - (sumF D.fs : Int) + (leftF (fun n => left (.string n) && !(Lit.string n).sameKey (.string x)) D.fs : Int) := by rw [HST.out]; omega
      have hw : wrap64 (D.room - (sumF D.fs : Int) + (leftF (fun n => left (.string n)) D.fs : Int) - (f.all.length : Int)) = D.room - (sumF D.fs : Int) + (leftF (fun n => left (.string n) && !(Lit.string n).sameKey (.string x)) D.fs : Int) := by
        rw [hsb]
        have := leftF_le (q := fun n => left (.string n) && !(Lit.string n).sameKey (.string x)) D.fs
        exact IntWalk.wrap64_in _ (by have := HSL.out; have := HRM.out; omega)
      have HW := Lib.hid hw
      have hm9 : cnt1 < gk := by omega
      clear hw hsb hle hkey hlx hv hat hrg1 hg1 hs1 e2 hf ex
      obtain ⟨B4, s4, -⟩ := box1 w3 #[.slice a f.all.length c, .int .i64 (f.kept : Int)] 114
      have x0 := (two_at s4).1
      have HB4 := Lib.hid (HB3.out.trans (B4.mono HB3.out.size))
      have HRG4 := Lib.hid (HRG1.out.alloc (.cells #[.slice a f.all.length c, .int .i64 (f.kept : Int)] 114))
      have hw := HW.out
      clear B4 s4
      go_wp2_with fail
      go_roundg cnt1
      case measure => exact hm9
      case rel => exact ⟨_, cnt1, Nat.le_refl _, by first | rfl | rw [HW.out], HRG4, HLF1, HB4⟩
end
end Go.Proofs.Ytdkkpabemimmlaa

import Derived.Test.YthefnakbpalecaaVyB
import Derived.Test.YthefnakbpalecaaMaV
import Derived.Deep.DeepCutAuto
namespace Go.Proofs.Ythefnakbpalecaa
open Go.RowKit
/- The vow: Open. -/
open Go.RowKit Go.Maps
theorem sync_st (D : Dd) (n : Nm) : (syncD D n).1.st ≤ D.st + 1 := by
  unfold syncD
  by_cases hd : D.down = true
  · rw [if_pos hd]; exact Nat.le_succ _
  · rw [if_neg hd]
    cases getF D.fs n with
    | none => exact Nat.le_succ _
    | some f =>
      dsimp only
      by_cases hs : (stepD D).down = true
      · rw [if_pos hs]; exact Nat.le_refl _
      · rw [if_neg hs]; exact Nat.le_refl _
theorem remove_st (D : Dd) (n : Nm) : (removeD D n).1.st ≤ D.st + 1 := by
  unfold removeD
  by_cases hd : D.down = true
  · rw [if_pos hd]; exact Nat.le_succ _
  · rw [if_neg hd]
    cases getF D.fs n with
    | none => exact Nat.le_succ _
    | some f =>
      dsimp only
      by_cases hs : (stepD D).down = true
      · rw [if_pos hs]; exact Nat.le_refl _
      · rw [if_neg hs]; exact Nat.le_refl _
theorem cut_st (D : Dd) (n : Nm) (k : Int) : (cutD D n k).1.st ≤ D.st + 1 := by
  unfold cutD
  by_cases hd : D.down = true
  · rw [if_pos hd]; exact Nat.le_succ _
  · rw [if_neg hd]
    cases getF D.fs n with
    | none => exact Nat.le_succ _
    | some f =>
      dsimp only
      by_cases hb : k < 0 ∨ (f.all.length : Int) < k
      · rw [if_pos hb]; exact Nat.le_succ _
      · rw [if_neg hb]
        by_cases hs : (stepD D).down = true
        · rw [if_pos hs]; exact Nat.le_refl _
        · rw [if_neg hs]; exact Nat.le_refl _
theorem move_st (D : Dd) (n b : Nm) : (moveD D n b).1.st ≤ D.st + 1 := by
  unfold moveD
  by_cases hd : D.down = true
  · rw [if_pos hd]; exact Nat.le_succ _
  · rw [if_neg hd]
    cases getF D.fs n with
    | none => exact Nat.le_succ _
    | some f =>
      dsimp only
      by_cases hb : validN b = false
      · rw [if_pos hb]; exact Nat.le_succ _
      · rw [if_neg hb]
        by_cases hs : (stepD D).down = true
        · rw [if_pos hs]; exact Nat.le_refl _
        · rw [if_neg hs]; exact Nat.le_refl _
theorem arm_st (D : Dd) (r : Int) : (armD D r).1.st ≤ D.st + 1 := by
  unfold armD
  by_cases hd : D.down = true
  · rw [if_pos hd]; exact Nat.le_succ _
  · rw [if_neg hd]
    by_cases h0 : r < 0
    · rw [if_pos h0]; exact Nat.le_succ _
    · rw [if_neg h0]; exact Nat.le_succ _
theorem resize_st (D : Dd) (r : Int) : (resizeD D r).1.st ≤ D.st + 1 := by
  unfold resizeD
  by_cases hd : D.down = true
  · rw [if_pos hd]; exact Nat.le_succ _
  · rw [if_neg hd]
    by_cases h0 : r < 0 ∨ 1048576 < r
    · rw [if_pos h0]; exact Nat.le_succ _
    · rw [if_neg h0]; exact Nat.le_succ _
theorem append_st (D : Dd) (n : Nm) (bs : List Nat) : (appendD D n bs).1.st ≤ D.st + 1 := by
  unfold appendD
  by_cases hd : D.down = true
  · rw [if_pos hd]; exact Nat.le_succ _
  · rw [if_neg hd]
    by_cases hv : validN n = false
    · rw [if_pos hv]; exact Nat.le_succ _
    · rw [if_neg hv]
      cases getF D.fs n with
      | none =>
        dsimp only
        by_cases hm : 128 ≤ D.fs.length
        · rw [if_pos hm]; exact Nat.le_succ _
        · rw [if_neg hm]
          by_cases hf : freeD D < (bs.length : Int)
          · rw [if_pos hf]; exact Nat.le_succ _
          · rw [if_neg hf]; exact Nat.le_refl _
      | some f =>
        dsimp only
        by_cases hf : freeD D < (bs.length : Int)
        · rw [if_pos hf]; exact Nat.le_succ _
        · rw [if_neg hf]; exact Nat.le_refl _

theorem disc_st (D : Dd) : (discD D).1.st ≤ D.st + 1 := by
  unfold discD; exact remove_st D _
theorem disc_up {D : Dd} (h : (discD D).2 = 0) : (discD D).1.down = false := by
  unfold discD at h ⊢
  dsimp only at h ⊢
  unfold removeD at h ⊢
  cases hd : D.down with
  | true => rw [hd, if_pos rfl] at h; simp at h
  | false =>
    rw [hd] at h
    simp only [Bool.false_eq_true, if_false] at h ⊢
    cases hf : getF D.fs nNew with
    | none => exact hd
    | some f =>
      rw [hf] at h
      dsimp only at h ⊢
      cases hs : (stepD D).down with
      | true => rw [hs, if_pos rfl] at h; simp at h
      | false => simp only [Bool.false_eq_true, if_false]; exact hs
def loadV (D : Dd) : Dd × Int × Nat × Int := match getF D.fs nVow with
  | none => (D, 0, 0, -1)
  | some f => if (vRead f.all).2.2 < f.all.length then
      (if (cutD D nVow ((vRead f.all).2.2 : Int)).2 = 0 then ((syncD (cutD D nVow ((vRead f.all).2.2 : Int)).1 nVow).1, (syncD (cutD D nVow ((vRead f.all).2.2 : Int)).1 nVow).2, (vRead f.all).1, (vRead f.all).2.1)
        else ((cutD D nVow ((vRead f.all).2.2 : Int)).1, (cutD D nVow ((vRead f.all).2.2 : Int)).2, 0, 0))
      else ((syncD D nVow).1, (syncD D nVow).2, (vRead f.all).1, (vRead f.all).2.1)
def openV (D : Dd) : Dd × Int × Nat × Int := if (discD D).2 = 0 then loadV (discD D).1 else ((discD D).1, (discD D).2, 0, 0)
/-- What Open owes. -/
def OpDid (S : Nat → Prop) (w : World) (B : Nat) (e : Ending) (w' : World) (r : Dd × Int × Nat × Int) : Prop :=
  ∃ S', DK S' w' B r.1 ∧ Fr S w S' w' ∧ ((r.2.1 ≠ 0 ∧ e = .returned (.tuple #[.pointer none, .int .i64 r.2.1])) ∨ (r.2.1 = 0 ∧ ∃ b, e = .returned (.tuple #[.pointer (some ⟨b, 0, none⟩), .int .i64 0]) ∧ BK w' b B r.2.2.1 r.2.2.2 ∧ w.heap.size ≤ b ∧ ¬ S' b))
theorem read_up {D : Dd} (h : D.down = false) (n : Nm) : readD D n = match getF D.fs n with | none => ([], 31) | some f => (f.all, 0) := by
  unfold readD; rw [h]; rfl
section
variable {S : Nat → Prop} {w : World} {B m mt : Nat} {D : Dd} {M : Lit → Option Value} {V : Nm → Value}
set_option maxRecDepth 100000 in
theorem vopen_dis (h : DKx S w B m mt D M V) (hst : D.st < 900000000) (hk : (discD D).2 ≠ 0) : Calls Try.prog 33 #[.pointer (some ⟨B, 0, none⟩)] w fun e w' => OpDid S w B e w' ((discD D).1, (discD D).2, 0, 0) := by
  have HC := Lib.hid (discard_any h (by omega))
  obtain ⟨r, hr⟩ : ∃ r, discD D = r := ⟨_, rfl⟩
  obtain ⟨D1, k⟩ := r
  rw [hr] at HC hk ⊢
  dsimp only at hk ⊢
  have g0 : decide (k = 0) = false := decide_eq_false hk
  have g1 : (k == 0) = false := by simp; omega
  have HK := Lib.hid hk
  clear h hr hk
  go_enter Try.func33, Try.ntmps33
  go_wp2_with fail
  refine HC.out.mono ?_
  rintro e w1 ⟨S1, rfl, hd, hf⟩
  have HD := Lib.hid hd
  have HF := Lib.hid hf
  clear hd hf HC
  go_wp2_with fail
  go_ret2
  exact ⟨S1, HD.out, HF.out, .inl ⟨HK.out, rfl⟩⟩
set_option maxRecDepth 100000 in
theorem vopen_none (h : DKx S w B m mt D M V) (hst : D.st < 900000000) (hk : (discD D).2 = 0) (hn : getF (discD D).1.fs nVow = none) : Calls Try.prog 33 #[.pointer (some ⟨B, 0, none⟩)] w fun e w' => OpDid S w B e w' ((discD D).1, 0, 0, -1) := by
  have HC := Lib.hid (discard_any h (by omega))
  have hup := disc_up hk
  have HR := Lib.hid (read_up hup nVow)
  rw [hn] at HR
  obtain ⟨r, hr⟩ : ∃ r, discD D = r := ⟨_, rfl⟩
  obtain ⟨D1, k⟩ := r
  rw [hr] at HC hk HR ⊢
  dsimp only at hk HR ⊢
  subst hk
  clear h hr hup hn
  go_enter Try.func33, Try.ntmps33
  go_wp2_with fail
  refine HC.out.mono ?_
  rintro e w1 ⟨S1, rfl, ⟨m1, mt1, M1, V1, hd⟩, hf⟩
  have HD := Lib.hid hd
  have HF := Lib.hid hf
  have HRD := Lib.hid (dread_any hd (n := nVow) (by decide))
  rw [HR.out] at HRD
  clear hd hf HC
  go_wp2_with fail
  refine HRD.out.mono ?_
  rintro e w2 ⟨v2, rfl, hrb, hb⟩
  have HD2 := Lib.hid (HD.out.below hb)
  have HF2 := Lib.hid (HF.out.trans (Fr.below hb))
  obtain ⟨va, vc, rfl, _, _⟩ := hrb.shape
  clear hb hrb
  go_wp2_with fail
  refine (vnone_any _).mono ?_
  rintro e w3 ⟨rfl, hb⟩
  have HD3 := Lib.hid (HD2.out.below hb)
  have HF3 := Lib.hid (HF2.out.trans (Fr.below hb))
  clear hb
  go_wp2_with fail
  obtain ⟨b1, s1, -⟩ := box1 w3 #[.pointer (some ⟨B, 0, none⟩), .int .u64 0, .int .i64 (-1)] 73
  go_ret2
  exact ⟨S1, ⟨_, _, _, _, HD3.out.below b1⟩, HF3.out.trans (Fr.below b1), .inr ⟨rfl, w3.heap.size, rfl, s1, HF3.out.1.size, fun hs => Nat.lt_irrefl _ (HD3.out.bd _ hs)⟩⟩
set_option maxRecDepth 100000 in
set_option maxHeartbeats 1000000 in
theorem vopen_some (h : DKx S w B m mt D M V) (hst : D.st < 900000000) (hk : (discD D).2 = 0) {f : Fl} (hn : getF (discD D).1.fs nVow = some f) : Calls Try.prog 33 #[.pointer (some ⟨B, 0, none⟩)] w fun e w' => OpDid S w B e w' (loadV (discD D).1) := by
  have HC := Lib.hid (discard_any h (by omega))
  have hup := disc_up hk
  have hs1 := disc_st D
  have HR := Lib.hid (read_up hup nVow)
  rw [hn] at HR
  obtain ⟨r, hr⟩ : ∃ r, discD D = r := ⟨_, rfl⟩
  obtain ⟨D1, k⟩ := r
  rw [hr] at HC hk HR hs1 hn hup ⊢
  dsimp only at hk HR hs1 hn hup ⊢
  subst hk
  have HUP := Lib.hid hup
  have HN := Lib.hid hn
  have HST := Lib.hid (show D1.st < 900000001 by omega)
  clear h hr hup hn hs1
  obtain ⟨L, hL⟩ : ∃ L, f.all.length = L := ⟨_, rfl⟩
  obtain ⟨⟨rt, rv, rg⟩, hrr⟩ : ∃ r, vRead f.all = r := ⟨_, rfl⟩
  have HRR := Lib.hid hrr
  have HLD : Hid (loadV D1 = if rg < L then (if (cutD D1 nVow (rg : Int)).2 = 0 then ((syncD (cutD D1 nVow (rg : Int)).1 nVow).1, (syncD (cutD D1 nVow (rg : Int)).1 nVow).2, rt, rv) else ((cutD D1 nVow (rg : Int)).1, (cutD D1 nVow (rg : Int)).2, 0, 0)) else ((syncD D1 nVow).1, (syncD D1 nVow).2, rt, rv)) := Lib.hid (by unfold loadV; rw [HN.out]; dsimp only; rw [hrr, hL])
  have HLL := Lib.hid hL
  clear hrr hL
  go_enter Try.func33, Try.ntmps33
  go_wp2_with fail
  refine HC.out.mono ?_
  rintro e w1 ⟨S1, rfl, ⟨m1, mt1, M1, V1, hd⟩, hf⟩
  have hlen : L ≤ 1048576 := by
    have := sum_le (getF_mem HN.out)
    have := hd.df.sum
    have := HLL.out
    simp only at *
    omega
  have HD := Lib.hid hd
  have HF := Lib.hid hf
  have HRD := Lib.hid (dread_any hd (n := nVow) (by decide))
  rw [HR.out] at HRD
  clear hd hf HC
  go_wp2_with fail
  refine HRD.out.mono ?_
  rintro e w2 ⟨v2, rfl, hrb, hb⟩
  have HD2 := Lib.hid (HD.out.below hb)
  have HF2 := Lib.hid (HF.out.trans (Fr.below hb))
  have HRE := Lib.hid hrb
  obtain ⟨va, vc, hv, _, _⟩ := hrb.shape
  try dsimp only at hv
  rw [HLL.out] at hv
  subst hv
  clear hb hrb HRD HR
  go_wp2_with fail
  have HVR := Lib.hid (vread_any (.slice va L vc) f.all w2 HRE.out (by have := HLL.out; omega))
  rw [HRR.out] at HVR
  dsimp only at HVR
  refine HVR.out.mono ?_
  rintro e w3 ⟨rfl, hb⟩
  obtain ⟨b4, s4, -⟩ := box1 w3 #[.int .u64 (rt : Int), .int .i64 rv] 48
  have HD3 := Lib.hid ((HD2.out.below hb).below b4)
  have HF3 := Lib.hid ((HF2.out.trans (Fr.below hb)).trans (Fr.below b4))
  have HS4 := Lib.hid s4
  have HNS : Hid (¬ S1 w3.heap.size) := Lib.hid (fun hs => Nat.lt_irrefl _ ((HD2.out.below hb).bd _ hs))
  have HZ3 : Hid (w.heap.size ≤ w3.heap.size) := Lib.hid (Nat.le_trans HF2.out.1.size hb.size)
  clear hb b4 HVR HRE
  by_cases hg : rg < L
  · have g0 : decide ((rg : Int) < (L : Int)) = true := decide_eq_true (by omega)
    have g0' : decide (rg < L) = true := decide_eq_true hg
    have HLD2 := HLD.out
    rw [if_pos hg] at HLD2
    go_wp2_with fail
    obtain ⟨x3, hx3⟩ : ∃ x, w3.heap.size = x := ⟨_, rfl⟩
    rw [hx3] at HS4 HNS HZ3
    try rw [hx3]
    generalize w3.alloc (.cells #[.int .u64 (rt : Int), .int .i64 rv] 48) = w4 at HD3 HF3 HS4 ⊢
    try rw [hx3]
    clear hx3 s4
    have HCU := Lib.hid (dcut_any HD3.out (n := nVow) (by decide) (by have := HST.out; omega) (rg : Int))
    have hst2 := cut_st D1 nVow (rg : Int)
    obtain ⟨⟨D2, k2⟩, hr2⟩ : ∃ r, cutD D1 nVow (rg : Int) = r := ⟨_, rfl⟩
    rw [hr2] at HCU hst2 HLD2
    dsimp only at hst2 HLD2
    have HST2 := Lib.hid (show D2.st < 900000002 by have := HST.out; omega)
    clear hst2 hr2
    refine HCU.out.mono ?_
    rintro e w5 ⟨S5, rfl, ⟨m5, mt5, M5, V5, hd⟩, hf⟩
    have HD5 := Lib.hid hd
    have HF5 := Lib.hid (HF3.out.trans hf)
    obtain ⟨k51, k52, k53⟩ := hf.out (ex_lt HS4.out) HNS.out
    have HS5 := Lib.hid (k51.trans HS4.out)
    have HNS5 := Lib.hid k52
    clear hd hf HCU k51 k52 k53
    by_cases hk2 : k2 = 0
    · subst hk2
      rw [if_pos rfl] at HLD2
      have HL3 := Lib.hid HLD2
      clear HLD2
      go_wp2_with fail
      have HSY := Lib.hid (dsync_any HD5.out (n := nVow) (by decide) (by have := HST2.out; omega))
      obtain ⟨⟨D6, k6⟩, hr6⟩ : ∃ r, syncD D2 nVow = r := ⟨_, rfl⟩
      have HL4 := HL3.out
      rw [hr6] at HSY HL4
      dsimp only at HL4
      have HL5 := Lib.hid HL4
      clear HL4 hr6 HL3
      refine HSY.out.mono ?_
      rintro e w6 ⟨S6, rfl, ⟨m6, mt6, M6, V6, hd⟩, hf⟩
      have HD6 := Lib.hid hd
      have HF6 := Lib.hid (HF5.out.trans hf)
      obtain ⟨k61, k62, k63⟩ := hf.out (ex_lt HS5.out) HNS5.out
      have HS6 := Lib.hid (k61.trans HS5.out)
      have HNS6 := Lib.hid k62
      clear hd hf HSY k61 k62 k63
      obtain ⟨p0, p1, pf⟩ := two_at HS6.out
      by_cases hk6 : k6 = 0
      · subst hk6
        go_wp2_with fail
        obtain ⟨b1, s1, -⟩ := box1 w6 #[.pointer (some ⟨B, 0, none⟩), .int .u64 (rt : Int), .int .i64 rv] 73
        go_ret2
        rw [HL5.out]
        exact ⟨S6, ⟨_, _, _, _, HD6.out.below b1⟩, HF6.out.trans (Fr.below b1), .inr ⟨rfl, w6.heap.size, rfl, s1, HF6.out.1.size, fun hs => Nat.lt_irrefl _ (HD6.out.bd _ hs)⟩⟩
      · have g3 : decide (k6 = 0) = false := decide_eq_false hk6
        have g4 : (k6 == 0) = false := by simp; omega
        have HK6 := Lib.hid hk6
        clear hk6
        go_wp2_with fail
        go_ret2
        rw [HL5.out]
        exact ⟨S6, ⟨_, _, _, _, HD6.out⟩, HF6.out, .inl ⟨HK6.out, rfl⟩⟩
    · have g1 : decide (k2 = 0) = false := decide_eq_false hk2
      have g2 : (k2 == 0) = false := by simp; omega
      rw [if_neg hk2] at HLD2
      have HL3 := Lib.hid HLD2
      have HK2 := Lib.hid hk2
      clear HLD2 hk2
      go_wp2_with fail
      go_ret2
      rw [HL3.out]
      exact ⟨S5, ⟨_, _, _, _, HD5.out⟩, HF5.out, .inl ⟨HK2.out, rfl⟩⟩
  · have g0 : decide ((rg : Int) < (L : Int)) = false := decide_eq_false (by omega)
    have g0' : decide (rg < L) = false := decide_eq_false hg
    have HLD2 := HLD.out
    rw [if_neg hg] at HLD2
    have HL3 := Lib.hid HLD2
    clear HLD2
    go_wp2_with fail
    obtain ⟨x3, hx3⟩ : ∃ x, w3.heap.size = x := ⟨_, rfl⟩
    rw [hx3] at HS4 HNS HZ3
    try rw [hx3]
    generalize w3.alloc (.cells #[.int .u64 (rt : Int), .int .i64 rv] 48) = w5 at HD3 HF3 HS4 ⊢
    try rw [hx3]
    clear hx3 s4
    have HD5 := Lib.hid HD3.out
    have HF5 := Lib.hid HF3.out
    have HS5 := Lib.hid HS4.out
    have HNS5 := Lib.hid HNS.out
    have HST2 := Lib.hid (show D1.st < 900000002 by have := HST.out; omega)
    clear HD3 HF3 HS4 HNS
    have HSY := Lib.hid (dsync_any HD5.out (n := nVow) (by decide) (by have := HST2.out; omega))
    obtain ⟨⟨D6, k6⟩, hr6⟩ : ∃ r, syncD D1 nVow = r := ⟨_, rfl⟩
    have HL4 := HL3.out
    rw [hr6] at HSY HL4
    dsimp only at HL4
    have HL5 := Lib.hid HL4
    clear HL4 hr6 HL3
    refine HSY.out.mono ?_
    rintro e w6 ⟨S6, rfl, ⟨m6, mt6, M6, V6, hd⟩, hf⟩
    have HD6 := Lib.hid hd
    have HF6 := Lib.hid (HF5.out.trans hf)
    obtain ⟨k61, k62, k63⟩ := hf.out (ex_lt HS5.out) HNS5.out
    have HS6 := Lib.hid (k61.trans HS5.out)
    have HNS6 := Lib.hid k62
    clear hd hf HSY k61 k62 k63
    obtain ⟨p0, p1, pf⟩ := two_at HS6.out
    by_cases hk6 : k6 = 0
    · subst hk6
      go_wp2_with fail
      obtain ⟨b1, s1, -⟩ := box1 w6 #[.pointer (some ⟨B, 0, none⟩), .int .u64 (rt : Int), .int .i64 rv] 73
      go_ret2
      rw [HL5.out]
      exact ⟨S6, ⟨_, _, _, _, HD6.out.below b1⟩, HF6.out.trans (Fr.below b1), .inr ⟨rfl, w6.heap.size, rfl, s1, HF6.out.1.size, fun hs => Nat.lt_irrefl _ (HD6.out.bd _ hs)⟩⟩
    · have g3 : decide (k6 = 0) = false := decide_eq_false hk6
      have g4 : (k6 == 0) = false := by simp; omega
      have HK6 := Lib.hid hk6
      clear hk6
      go_wp2_with fail
      go_ret2
      rw [HL5.out]
      exact ⟨S6, ⟨_, _, _, _, HD6.out⟩, HF6.out, .inl ⟨HK6.out, rfl⟩⟩
theorem vopen_any (h : DKx S w B m mt D M V) (hst : D.st < 900000000) : Calls Try.prog 33 #[.pointer (some ⟨B, 0, none⟩)] w fun e w' => OpDid S w B e w' (openV D) := by
  unfold openV
  by_cases hk : (discD D).2 = 0
  · rw [if_pos hk]
    cases hn : getF (discD D).1.fs nVow with
    | none =>
      have e : loadV (discD D).1 = ((discD D).1, 0, 0, -1) := by unfold loadV; rw [hn]
      rw [e]
      exact vopen_none h hst hk hn
    | some f => exact vopen_some h hst hk hn
  · rw [if_neg hk]
    exact vopen_dis h hst hk
end
/- The vow: write and store. -/
open Go.RowKit Go.Maps
def writeD (D : Dd) (n : Nm) (bs : List Nat) : Dd × Int := if (appendD D n bs).2 = 0 then syncD (appendD D n bs).1 n else ((appendD D n bs).1, (appendD D n bs).2)
def storeD (D : Dd) (bs : List Nat) : Dd × Int :=
  if (readD D nVow).2 ≠ 0 ∧ (readD D nVow).2 ≠ 31 then (D, (readD D nVow).2)
  else if (readD D nVow).1.length < 256 then writeD D nVow bs
  else if (discD D).2 = 0 then (if (writeD (discD D).1 nNew bs).2 = 0 then moveD (writeD (discD D).1 nNew bs).1 nNew nVow else ((writeD (discD D).1 nNew bs).1, (writeD (discD D).1 nNew bs).2))
    else ((discD D).1, (discD D).2)
theorem write_st (D : Dd) (n : Nm) (bs : List Nat) : (writeD D n bs).1.st ≤ D.st + 2 := by
  unfold writeD
  have h1 := append_st D n bs
  split
  · have h2 := sync_st (appendD D n bs).1 n; omega
  · dsimp only; omega
section
variable {S : Nat → Prop} {w : World} {B m mt : Nat} {D : Dd} {M : Lit → Option Value} {V : Nm → Value}
set_option maxRecDepth 100000 in
theorem vwrite_any (h : DKx S w B m mt D M V) (hst : D.st < 900000000) (n : Nm) (hn : n.length ≤ 100000) (a : Option Addr) (c : Nat) (bs : List Nat) (hrb : RB w (.slice a bs.length c) bs) :
    Calls Try.prog 121 #[.pointer (some ⟨B, 0, none⟩), encStr n, .slice a bs.length c] w fun e w' => Did S w B e w' (writeD D n bs) := by
  have HC := Lib.hid (dappend_any h n (by omega) a c bs hrb)
  have hs := append_st D n bs
  obtain ⟨⟨D1, k⟩, hr⟩ : ∃ r, appendD D n bs = r := ⟨_, rfl⟩
  have HWR : Hid (writeD D n bs = if k = 0 then syncD D1 n else (D1, k)) := Lib.hid (by unfold writeD; rw [hr])
  rw [hr] at HC hs
  dsimp only at hs
  have HST := Lib.hid (show D1.st < 900000002 by omega)
  obtain ⟨L, hL⟩ : ∃ L, bs.length = L := ⟨_, rfl⟩
  rw [hL] at HC ⊢
  obtain ⟨z, hz⟩ : ∃ z, encStr n = z := ⟨_, rfl⟩
  have HZ := Lib.hid hz
  rw [hz] at HC ⊢
  have HNN := Lib.hid hn
  clear h hs hr hrb hL hst hz hn
  unfold encStr at HZ
  obtain ⟨zs, rfl⟩ : ∃ s, z = .string s := ⟨_, HZ.out.symm⟩
  go_enter Try.func121, Try.ntmps121
  go_wp2_with fail
  refine HC.out.mono ?_
  rintro e w1 ⟨S1, rfl, ⟨m1, mt1, M1, V1, hd⟩, hf⟩
  have HD := Lib.hid hd
  have HF := Lib.hid hf
  have hsy := dsync_any hd (n := n) HNN.out (Nat.lt_trans HST.out (by omega))
  unfold encStr at hsy
  rw [HZ.out] at hsy
  have HSY := Lib.hid hsy
  clear hd hf hsy HC
  by_cases hk : k = 0
  · subst hk
    have HW2 := HWR.out
    rw [if_pos rfl] at HW2
    have HW3 := Lib.hid HW2
    clear HW2
    go_wp2_with fail
    refine HSY.out.mono ?_
    rintro e w2 ⟨S2, rfl, hd2, hf2⟩
    have HD2 := Lib.hid hd2
    have HF2 := Lib.hid (HF.out.trans hf2)
    clear hd2 hf2
    go_wp2_with fail
    go_ret
    rw [HW3.out]
    exact ⟨S2, rfl, HD2.out, HF2.out⟩
  · have HW2 := HWR.out
    rw [if_neg hk] at HW2
    have HW3 := Lib.hid HW2
    have g0 : decide (k = 0) = false := decide_eq_false hk
    have g1 : (k == 0) = false := by simp; omega
    clear HW2 hk
    go_wp2_with fail
    go_ret
    rw [HW3.out]
    exact ⟨S1, rfl, ⟨_, _, _, _, HD.out⟩, HF.out⟩
theorem bk_out {S S' : Nat → Prop} {w w' : World} {b B : Nat} {t v : Int} (h : BK w b B t v) (hf : Fr S w S' w') (hs : ¬ S b) : BK w' b B t v ∧ ¬ S' b := by
  obtain ⟨h1, h2, -⟩ := hf.out (ex_lt h) hs
  exact ⟨h1.trans h, h2⟩
set_option maxRecDepth 100000 in
theorem vstore_down (h : DKx S w B m mt D M V) (hd : D.down = true) {b : Nat} {t v : Int} (hb : BK w b B t v) (x : Value) (hx : ∃ a n c, x = .slice a n c) (bs : List Nat) :
    Calls Try.prog 87 #[.pointer (some ⟨b, 0, none⟩), x] w fun e w' => Did S w B e w' (storeD D bs) := by
  have hr : readD D nVow = ([], 50) := by unfold readD; rw [hd]; rfl
  have hw : storeD D bs = (D, 50) := by unfold storeD; rw [hr]; rfl
  have HRD := Lib.hid (dread_any h (n := nVow) (by decide))
  have HD := Lib.hid h
  rw [hr] at HRD
  rw [hw]
  dsimp only at HRD
  obtain ⟨a, n, c, rfl⟩ := hx
  obtain ⟨c0, c1, c2⟩ := three_rd hb
  clear h hd hb hr hw
  go_enter Try.func87, Try.ntmps87
  go_wp2_with fail
  refine HRD.out.mono ?_
  rintro e w2 ⟨v2, rfl, hrb, hb⟩
  obtain ⟨va, vc, rfl, _, _⟩ := hrb.shape
  have HD2 := Lib.hid (HD.out.below hb)
  have HF2 := Lib.hid (Fr.below (S := S) hb)
  clear hb hrb c0 c1 c2
  go_wp2_with fail
  go_ret
  exact ⟨S, rfl, ⟨_, _, _, _, HD2.out⟩, HF2.out⟩
set_option maxRecDepth 100000 in
theorem vstore_few (h : DKx S w B m mt D M V) (hst : D.st < 800000000) {all : List Nat} {k : Int} (hr : readD D nVow = (all, k)) (hk : k = 0 ∨ k = 31) (hl : all.length < 256) {b : Nat} {t v : Int} (hb : BK w b B t v) (a : Option Addr) (c : Nat) (bs : List Nat) (hrb : RB w (.slice a bs.length c) bs) :
    Calls Try.prog 87 #[.pointer (some ⟨b, 0, none⟩), .slice a bs.length c] w fun e w' => Did S w B e w' (storeD D bs) := by
  have hw : storeD D bs = writeD D nVow bs := by
    unfold storeD; rw [hr]
    rw [if_neg (by rcases hk with rfl | rfl <;> simp), if_pos hl]
  have HRD := Lib.hid (dread_any h (n := nVow) (by decide))
  have HD := Lib.hid h
  have HB := Lib.hid hb
  have HRB := Lib.hid hrb
  rw [hr] at HRD
  rw [hw]
  dsimp only at HRD
  obtain ⟨c0, c1, c2⟩ := three_rd hb
  obtain ⟨L, hL⟩ : ∃ L, bs.length = L := ⟨_, rfl⟩
  have HL := Lib.hid hL
  obtain ⟨q, hq⟩ : ∃ q, all.length = q := ⟨_, rfl⟩
  have HQ := Lib.hid hq
  rw [hL]
  rw [hq] at hl
  have g5 : decide ((q : Int) < 256) = true := decide_eq_true (by omega)
  clear h hb hr hw hrb hL hq
  go_enter Try.func87, Try.ntmps87
  go_wp2_with fail
  refine HRD.out.mono ?_
  rintro e w2 ⟨v2, rfl, hrb2, hb2⟩
  obtain ⟨va, vc, rfl, _, _⟩ := hrb2.shape
  rw [HQ.out]
  have HD2 := Lib.hid (HD.out.below hb2)
  have HF2 := Lib.hid (Fr.below (S := S) hb2)
  have hrb3 := HRB.out.kept hb2
  obtain ⟨d0, d1, d2⟩ := three_rd (ex_below HB.out hb2)
  have hvw := vwrite_any HD2.out (by omega) nVow (by decide) a c bs hrb3
  rw [HL.out] at hvw
  have HVW := Lib.hid hvw
  clear hb2 hrb2 hrb3 hvw c0 c1 c2 HRD
  rcases hk with rfl | rfl
  · go_wp2_with fail
    refine HVW.out.mono ?_
    rintro e w3 ⟨S3, rfl, hd3, hf3⟩
    have HD3 := Lib.hid hd3
    have HF3 := Lib.hid (HF2.out.trans hf3)
    clear hd3 hf3
    go_wp2_with fail
    go_ret
    exact ⟨S3, rfl, HD3.out, HF3.out⟩
  · go_wp2_with fail
    refine HVW.out.mono ?_
    rintro e w3 ⟨S3, rfl, hd3, hf3⟩
    have HD3 := Lib.hid hd3
    have HF3 := Lib.hid (HF2.out.trans hf3)
    clear hd3 hf3
    go_wp2_with fail
    go_ret
    exact ⟨S3, rfl, HD3.out, HF3.out⟩
set_option maxRecDepth 100000 in
theorem vstore_many (h : DKx S w B m mt D M V) (hst : D.st < 800000000) {all : List Nat} (hr : readD D nVow = (all, 0)) (hl : 256 ≤ all.length) {b : Nat} {t v : Int} (hb : BK w b B t v) (hnb : ¬ S b) (a : Option Addr) (c : Nat) (bs : List Nat) (hrb : RB w (.slice a bs.length c) bs) (hso : ∀ g, (Value.slice a bs.length c).ownBlock = some g → ¬ S g) :
    Calls Try.prog 87 #[.pointer (some ⟨b, 0, none⟩), .slice a bs.length c] w fun e w' => Did S w B e w' (storeD D bs) := by
  have hw : storeD D bs = if (discD D).2 = 0 then (if (writeD (discD D).1 nNew bs).2 = 0 then moveD (writeD (discD D).1 nNew bs).1 nNew nVow else ((writeD (discD D).1 nNew bs).1, (writeD (discD D).1 nNew bs).2)) else ((discD D).1, (discD D).2) := by
    unfold storeD; rw [hr]
    rw [if_neg (by simp), if_neg (show ¬ all.length < 256 by omega)]
  have HRD := Lib.hid (dread_any h (n := nVow) (by decide))
  have HD := Lib.hid h
  have HB := Lib.hid hb
  have HRB := Lib.hid hrb
  rw [hr] at HRD
  have HNB := Lib.hid hnb
  dsimp only at HRD
  obtain ⟨c0, c1, c2⟩ := three_rd hb
  obtain ⟨L, hL⟩ : ∃ L, bs.length = L := ⟨_, rfl⟩
  have HL := Lib.hid hL
  obtain ⟨q, hq⟩ : ∃ q, all.length = q := ⟨_, rfl⟩
  have HQ := Lib.hid hq
  rw [hL] at hso ⊢
  rw [hq] at hl
  have HSO := Lib.hid hso
  have g5 : decide ((q : Int) < 256) = false := decide_eq_false (by omega)
  have g5' : decide (q < 256) = false := decide_eq_false (by omega)
  have hs1 := disc_st D
  obtain ⟨⟨D3, k3⟩, hr3⟩ : ∃ r, discD D = r := ⟨_, rfl⟩
  have HDI : Hid (discD D = (D3, k3)) := Lib.hid hr3
  rw [hr3] at hw hs1
  dsimp only at hw hs1
  have HW := Lib.hid hw
  have HS3 := Lib.hid (show D3.st < 800000001 by omega)
  clear h hb hr hw hrb hL hq hnb hso hs1 hr3
  go_enter Try.func87, Try.ntmps87
  go_wp2_with fail
  refine HRD.out.mono ?_
  rintro e w2 ⟨v2, rfl, hrb2, hb2⟩
  obtain ⟨va, vc, rfl, _, _⟩ := hrb2.shape
  rw [HQ.out]
  have HD2 := Lib.hid (HD.out.below hb2)
  have HF2 := Lib.hid (Fr.below (S := S) hb2)
  have HRB2 := Lib.hid (HRB.out.kept hb2)
  have HB2 := Lib.hid (show BK w2 b B t v from ex_below HB.out hb2)
  obtain ⟨d0, d1, d2⟩ := three_rd HB2.out
  have HDC := Lib.hid (discard_any HD2.out (by omega))
  rw [HDI.out] at HDC
  clear hb2 hrb2 c0 c1 c2 HRD
  go_wp2_with fail
  refine HDC.out.mono ?_
  rintro e w3 ⟨S3, rfl, ⟨m3, mt3, M3, V3, hd3⟩, hf3⟩
  have HD3 := Lib.hid hd3
  have HF3 := Lib.hid (HF2.out.trans hf3)
  have hk3 := RB.keptX HRB2.out (Kept.only hf3.1) (by rw [HL.out]; exact HSO.out)
  have HB3 := Lib.hid (bk_out HB2.out hf3 HNB.out)
  obtain ⟨e0, e1, e2⟩ := three_rd HB3.out.1
  have hvw := vwrite_any HD3.out (Nat.lt_trans HS3.out (by omega)) nNew (by decide) a c bs hk3
  have hs4 := write_st D3 nNew bs
  obtain ⟨⟨D4, k4⟩, hr4⟩ : ∃ r, writeD D3 nNew bs = r := ⟨_, rfl⟩
  rw [hr4, HL.out] at hvw
  rw [hr4] at hs4
  have HVW := Lib.hid hvw
  have HW4 : Hid (storeD D bs = if k3 = 0 then (if k4 = 0 then moveD D4 nNew nVow else (D4, k4)) else (D3, k3)) := Lib.hid (by rw [HW.out, hr4])
  dsimp only at hs4
  have HS4 := Lib.hid (show D4.st < 800000003 by have := HS3.out; omega)
  clear hd3 hf3 hk3 hvw hs4 hr4 HDC d0 d1 d2 HW
  by_cases hz3 : k3 = 0
  · subst hz3
    have hw5 := HW4.out
    rw [if_pos rfl] at hw5
    have HW5 := Lib.hid hw5
    clear hw5 HW4
    go_wp2_with fail
    refine HVW.out.mono ?_
    rintro e w4 ⟨S4, rfl, ⟨m4, mt4, M4, V4, hd4⟩, hf4⟩
    have HD4 := Lib.hid hd4
    have HF4 := Lib.hid (HF3.out.trans hf4)
    have HB4 := Lib.hid (bk_out HB3.out.1 hf4 HB3.out.2)
    obtain ⟨f0, f1, f2⟩ := three_rd HB4.out.1
    have HMV := Lib.hid (dmove_any hd4 (n := nNew) (by decide) (Nat.lt_trans HS4.out (by omega)) nVow)
    clear hd4 hf4 HVW e0 e1 e2
    by_cases hz4 : k4 = 0
    · subst hz4
      have hw6 := HW5.out
      rw [if_pos rfl] at hw6
      have HW6 := Lib.hid hw6
      clear hw6 HW5
      go_wp2_with fail
      refine HMV.out.mono ?_
      rintro e w5 ⟨S5, rfl, hd5, hf5⟩
      have HD5 := Lib.hid hd5
      have HF5 := Lib.hid (HF4.out.trans hf5)
      clear hd5 hf5
      go_wp2_with fail
      go_ret
      rw [HW6.out]
      exact ⟨S5, rfl, HD5.out, HF5.out⟩
    · have g3 : decide (k4 = 0) = false := decide_eq_false hz4
      have g4 : (k4 == 0) = false := by simp; omega
      have hw6 := HW5.out
      rw [if_neg hz4] at hw6
      have HW6 := Lib.hid hw6
      clear hw6 HW5 hz4
      go_wp2_with fail
      go_ret
      rw [HW6.out]
      exact ⟨S4, rfl, ⟨_, _, _, _, HD4.out⟩, HF4.out⟩
  · have g3 : decide (k3 = 0) = false := decide_eq_false hz3
    have g4 : (k3 == 0) = false := by simp; omega
    have hw6 := HW4.out
    rw [if_neg hz3] at hw6
    have HW6 := Lib.hid hw6
    clear hw6 HW4 hz3
    go_wp2_with fail
    go_ret
    rw [HW6.out]
    exact ⟨S3, rfl, ⟨_, _, _, _, HD3.out⟩, HF3.out⟩
end
/- The vow: Keep. -/
open Go.RowKit Go.Maps
/-- Keep: the disk, the error, the state that the book has then. -/
def keepV (D : Dd) (t : Nat) (v : Int) (t1 : Nat) (v1 : Int) : Dd × Int × Nat × Int :=
  if sdB t1 v1 = false then (D, 2, t, v) else if mayB t v t1 v1 = false then (D, 34, t, v) else if t1 = t ∧ v1 = v then (D, 0, t, v)
  else if (storeD D (lineB t1 (v1 + 1).toNat)).2 = 0 then ((storeD D (lineB t1 (v1 + 1).toNat)).1, 0, t1, v1) else ((storeD D (lineB t1 (v1 + 1).toNat)).1, (storeD D (lineB t1 (v1 + 1).toNat)).2, t, v)
/-- What Keep owes. -/
def KpDid (S : Nat → Prop) (w : World) (b B : Nat) (e : Ending) (w' : World) (r : Dd × Int × Nat × Int) : Prop :=
  ∃ S', e = .returned (.int .i64 r.2.1) ∧ DK S' w' B r.1 ∧ BK w' b B r.2.2.1 r.2.2.2 ∧ ¬ S' b ∧ (∀ k, S' k → S k ∨ w.heap.size ≤ k) ∧ Only (fun k => S k ∨ k = b) w w'
section
variable {S : Nat → Prop} {w : World} {B m mt : Nat} {D : Dd} {M : Lit → Option Value} {V : Nm → Value}
theorem vstore_any (h : DKx S w B m mt D M V) (hst : D.st < 800000000) {b : Nat} {t v : Int} (hb : BK w b B t v) (hnb : ¬ S b) (a : Option Addr) (c : Nat) (bs : List Nat) (hrb : RB w (.slice a bs.length c) bs) (hso : ∀ g, (Value.slice a bs.length c).ownBlock = some g → ¬ S g) :
    Calls Try.prog 87 #[.pointer (some ⟨b, 0, none⟩), .slice a bs.length c] w fun e w' => Did S w B e w' (storeD D bs) := by
  cases hd : D.down with
  | true => exact vstore_down h hd hb _ ⟨_, _, _, rfl⟩ bs
  | false =>
    have hr := read_up hd nVow
    cases hf : getF D.fs nVow with
    | none =>
      rw [hf] at hr
      exact vstore_few h hst hr (.inr rfl) (by simp) hb a c bs hrb
    | some f =>
      rw [hf] at hr
      by_cases hl : f.all.length < 256
      · exact vstore_few h hst hr (.inl rfl) hl hb a c bs hrb
      · exact vstore_many h hst hr (by omega) hb hnb a c bs hrb hso
set_option maxRecDepth 100000 in
theorem vkeep_any (h : DKx S w B m mt D M V) (hst : D.st < 800000000) {b : Nat} {t : Nat} {v : Int} (hb : BK w b B t v) (hnb : ¬ S b) (t1 : Nat) (v1 : Int) :
    Calls Try.prog 36 #[.pointer (some ⟨b, 0, none⟩), .agg #[.int .u64 (t1 : Int), .int .i64 v1]] w fun e w' => KpDid S w b B e w' (keepV D t v t1 v1) := by
  obtain ⟨B1, s0, -⟩ := box1 w #[.int .u64 (t1 : Int), .int .i64 v1] 48
  have HN1 : Hid (¬ S w.heap.size) := Lib.hid (fun hs => Nat.lt_irrefl _ (h.bd _ hs))
  have HBW : Hid (b < w.heap.size) := Lib.hid (ex_lt hb)
  have HD := Lib.hid (h.below B1)
  have HK := Lib.hid (show BK _ b B t v from ex_below hb B1)
  have HS := Lib.hid s0
  have HB := Lib.hid B1
  have HNB := Lib.hid hnb
  clear B1 s0 hb h hnb
  go_enter Try.func36, Try.ntmps36
  go_wp2_with fail
  obtain ⟨N, hN⟩ : ∃ N, w.heap.size = N := ⟨_, rfl⟩
  have HN := Lib.hid hN
  rw [hN] at HS HN1 HBW
  try rw [hN]
  generalize w.alloc (.cells #[.int .u64 (t1 : Int), .int .i64 v1] 48) = w1 at HD HK HS HB ⊢
  try rw [hN]
  clear hN
  refine (vopened_yes HK.out).mono ?_
  rintro e w1' ⟨rfl, rfl⟩
  obtain ⟨c0, c1⟩ := two_rd HS.out
  have hfr : ∀ o, w1.frozen? ⟨N, o, none⟩ = false := fun o => by simp [World.frozen?, HS.out]
  go_wp2_with fail
  refine (vsound_any _ _ _).mono ?_
  rintro e w2 ⟨rfl, hb2⟩
  have HD2 := Lib.hid (HD.out.below hb2)
  have HK2 := Lib.hid (show BK w2 b B t v from ex_below HK.out hb2)
  have HS2 := Lib.hid (ex_below HS.out hb2)
  have HB2 := Lib.hid (HB.out.trans (hb2.mono HB.out.size))
  clear hb2 c0 c1 hfr
  obtain ⟨c0, c1⟩ := two_rd HS2.out
  obtain ⟨k0, k1, k2⟩ := three_rd HK2.out
  cases hsd : sdB t1 v1 with
  | false =>
    go_wp2_with fail
    go_ret
    have e0 : keepV D t v t1 v1 = (D, 2, t, v) := by unfold keepV; rw [if_pos hsd]
    rw [e0]
    exact ⟨S, rfl, ⟨_, _, _, _, HD2.out⟩, HK2.out, HNB.out, fun k hk => .inl hk, Only.below HB2.out⟩
  | true =>
    have HX2 := Lib.hid hsd
    have HMY : Hid (∀ w', (w'.cell? ⟨N, 0, none⟩ = some (.int .u64 (t1 : Int)) ∧ w'.cell? ⟨N, 1, none⟩ = some (.int .i64 v1) ∧ w'.cell? ⟨b, 1, none⟩ = some (.int .u64 (t : Int)) ∧ w'.cell? ⟨b, 2, none⟩ = some (.int .i64 v) ∧ Below w2.heap.size w2 w') → Calls Try.prog 29 #[.agg #[.int .u64 (t : Int), .int .i64 v], .agg #[.int .u64 (t1 : Int), .int .i64 v1]] w' fun e w'' => e = .returned (.bool (mayB t v t1 v1)) ∧ (w''.cell? ⟨N, 0, none⟩ = some (.int .u64 (t1 : Int)) ∧ w''.cell? ⟨N, 1, none⟩ = some (.int .i64 v1) ∧ w''.cell? ⟨b, 1, none⟩ = some (.int .u64 (t : Int)) ∧ w''.cell? ⟨b, 2, none⟩ = some (.int .i64 v) ∧ Below w2.heap.size w2 w'')) := Lib.hid (fun w' ⟨_, _, _, _, hb⟩ => by
      refine (vmay_any _ _ _ _ w').mono ?_
      rintro e w'' ⟨rfl, hb'⟩
      have hbb := hb.trans (hb'.mono hb.size)
      obtain ⟨x0, x1⟩ := two_rd (ex_below HS2.out hbb)
      obtain ⟨-, y1, y2⟩ := three_rd (show BK w'' b B t v from ex_below HK2.out hbb)
      exact ⟨rfl, x0, x1, y1, y2, hbb⟩)
    have h0 := And.intro c0 (And.intro c1 (And.intro k1 (And.intro k2 (Below.refl w2.heap.size w2))))
    go_upto_region 5 with fail
    go_region_held3 (fun w' => w'.cell? ⟨N, 0, none⟩ = some (.int .u64 (t1 : Int)) ∧ w'.cell? ⟨N, 1, none⟩ = some (.int .i64 v1) ∧ w'.cell? ⟨b, 1, none⟩ = some (.int .u64 (t : Int)) ∧ w'.cell? ⟨b, 2, none⟩ = some (.int .i64 v) ∧ Below w2.heap.size w2 w')
      (first | exact h0 | exact ⟨c0, c1, k1, k2, (Below.refl _ _).drew⟩ | assumption)
      (first | (go_at_call 29; refine (HMY.out _ (by assumption)).mono ?_; rintro e w3 ⟨rfl, hS3⟩))
    obtain ⟨-, -, -, -, hb3⟩ := hS3
    have HD3 := Lib.hid (HD2.out.below hb3)
    have HK3 := Lib.hid (show BK w3 b B t v from ex_below HK2.out hb3)
    have HS3 := Lib.hid (ex_below HS2.out hb3)
    have HB3 := Lib.hid (HB2.out.trans (hb3.mono HB2.out.size))
    clear h0
    clear hb3 c0 c1 k0 k1 k2
    obtain ⟨c0, c1⟩ := two_rd HS3.out
    obtain ⟨k0, k1, k2⟩ := three_rd HK3.out
    cases hmy : mayB t v t1 v1 with
    | false =>
      go_wp2_with fail
      go_ret
      have e0 : keepV D t v t1 v1 = (D, 34, t, v) := by unfold keepV; rw [if_neg (by rw [hsd]; simp), if_pos hmy]
      rw [e0]
      exact ⟨S, rfl, ⟨_, _, _, _, HD3.out⟩, HK3.out, HNB.out, fun k hk => .inl hk, Only.below HB3.out⟩
    | true =>
      have hsd' := hsd
      unfold sdB at hsd'
      simp only [Bool.and_eq_true, decide_eq_true_eq] at hsd'
      by_cases heq : t1 = t ∧ v1 = v
      · obtain ⟨rfl, rfl⟩ := heq
        go_wp2_with fail
        go_region
        go_wp2_with fail
        go_ret
        have e0 : keepV D t1 v1 t1 v1 = (D, 0, t1, v1) := by unfold keepV; rw [if_neg (by rw [hsd]; simp), if_neg (by rw [hmy]; simp), if_pos ⟨rfl, rfl⟩]
        rw [e0]
        have hdw : Below w3.heap.size w3 w3.drew := (Below.refl _ _).drew
        exact ⟨S, rfl, ⟨_, _, _, _, HD3.out.below hdw⟩, HK3.out, HNB.out, fun k hk => .inl hk, Only.below (HB3.out.trans (hdw.mono HB3.out.size))⟩
      · by_cases htt : t1 = t
        · subst htt
          have hne : ¬ v1 = v := fun h => heq ⟨rfl, h⟩
          go_wp2_with fail
          go_region
          obtain ⟨u, hu⟩ : ∃ u, (v1 + 1).toNat = u := ⟨_, rfl⟩
          have hvu : v1 + 1 = (u : Int) := by omega
          have hu7 : u ≤ 7 := by omega
          have ht1 : t1 ≤ 1152921504606846976 := by omega
          have HKV : Hid (keepV D t1 v t1 v1 = if (storeD D (lineB t1 u)).2 = 0 then ((storeD D (lineB t1 u)).1, 0, t1, v1) else ((storeD D (lineB t1 u)).1, (storeD D (lineB t1 u)).2, t1, v)) := Lib.hid (by unfold keepV; rw [if_neg (by rw [hsd]; simp), if_neg (by rw [hmy]; simp), if_neg (show ¬ (t1 = t1 ∧ v1 = v) from fun h => hne h.2), hu])
          have hdw : Below w3.heap.size w3 w3.drew := (Below.refl _ _).drew
          have HD4 := Lib.hid (HD3.out.below hdw)
          have HK4 := Lib.hid (show BK w3.drew b B t1 v from ex_below HK3.out hdw)
          have HS4 := Lib.hid (ex_below HS3.out hdw)
          have HB4 := Lib.hid (HB3.out.trans (hdw.mono HB3.out.size))
          have HLN := Lib.hid (vline_any t1 u v1 w3.drew ht1 hu7 hvu)
          have HLL := Lib.hid (lineB_len t1 u (by omega) (by omega))
          have HLT := Lib.hid (lineB_lt t1 u (by omega) (by omega))
          have HMS := Lib.hid hmy
          clear hdw c0 c1 k0 k1 k2 HD3 HK3 HS3 HB3 hvu hu7 ht1 hu hsd' hsd hmy
          generalize w3.drew = w4 at HD4 HK4 HS4 HB4 HLN ⊢
          obtain ⟨c0, c1⟩ := two_rd HS4.out
          clear hne heq
          go_wp2_with fail
          refine HLN.out.mono ?_
          rintro e w5 ⟨v5, rfl, ho5, hb5⟩
          have hr5 := ho5.rb HLT.out (by have := HLL.out; omega)
          obtain ⟨la, lc, rfl, -, -⟩ := hr5.shape
          have hso : ∀ g, (Value.slice la (lineB t1 u).length lc).ownBlock = some g → ¬ S g := fun g hg hs => by
            have h1 := (World.ownsRow.lt ho5 g hg).1
            have h2 := HD4.out.bd g hs
            omega
          have HD5 := Lib.hid (HD4.out.below hb5)
          have HK5 := Lib.hid (show BK w5 b B t1 v from ex_below HK4.out hb5)
          have HS5 := Lib.hid (ex_below HS4.out hb5)
          have HB5 := Lib.hid (HB4.out.trans (hb5.mono HB4.out.size))
          have HST := Lib.hid (vstore_any HD5.out hst HK5.out HNB.out la lc _ hr5 hso)
          obtain ⟨⟨D6, k6⟩, hr6⟩ : ∃ r, storeD D (lineB t1 u) = r := ⟨_, rfl⟩
          rw [hr6] at HST HKV
          obtain ⟨ln, hln⟩ : ∃ ln, (lineB t1 u).length = ln := ⟨_, rfl⟩
          rw [hln] at HST ⊢
          clear ho5 hr5 hso hb5 hr6 hln c0 c1
          go_wp2_with fail
          refine HST.out.mono ?_
          rintro e w6 ⟨S6, rfl, ⟨m6, mt6, M6, V6, hd⟩, hf⟩
          have HD6 := Lib.hid hd
          have HFR := Lib.hid hf
          have HK6 := Lib.hid (bk_out HK5.out hf HNB.out)
          obtain ⟨n1, n2, -⟩ := hf.out (ex_lt HS5.out) HN1.out
          have HS6 := Lib.hid (n1.trans HS5.out)
          obtain ⟨c0, c1⟩ := two_rd HS6.out
          obtain ⟨k0, k1, k2⟩ := three_rd HK6.out.1
          have HON : Hid (Only (fun k => S k ∨ k = b) w w6) := Lib.hid ((Only.below HB5.out).trans (hf.1.more fun k hk => .inl hk))
          have HSS : Hid (∀ k, S6 k → S k ∨ w.heap.size ≤ k) := Lib.hid (fun k hk => (hf.2.2 k hk).imp id (Nat.le_trans HB5.out.size))
          clear hd hf n1 n2 HST HLN
          by_cases hk6 : k6 = 0
          · subst hk6
            have hkv := HKV.out
            rw [if_pos rfl] at hkv
            have HKV2 := Lib.hid hkv
            clear hkv HKV
            have hfb : ∀ o, w6.frozen? ⟨b, o, none⟩ = false := fun o => by
              have h3 := HK6.out.1
              unfold BK at h3
              simp [World.frozen?, h3]
            go_wp2_with fail
            go_ret
            rw [HKV2.out]
            have hon : Only (· = b) w6 ((w6.setCell ⟨b, 1, none⟩ (.int .u64 (t1 : Int))).setCell ⟨b, 2, none⟩ (.int .i64 v1)) := Only.setCell (X := fun k => k = b) (Only.setCell (X := fun k => k = b) (Only.refl _ _) ⟨b, 1, none⟩ _ (by rfl)) ⟨b, 2, none⟩ _ (by rfl)
            refine ⟨S6, rfl, ⟨_, _, _, _, HD6.out.only hon (fun k hk e => HK6.out.2 (e ▸ hk))⟩, ?_, HK6.out.2, HSS.out, HON.out.trans (hon.more fun k hk => .inr hk)⟩
            exact (heap_set (heap_set HK6.out.1 1 _) 2 _)
          · have hkv := HKV.out
            rw [if_neg hk6] at hkv
            have HKV2 := Lib.hid hkv
            have g3 : decide (k6 = 0) = false := decide_eq_false hk6
            have g4 : (k6 == 0) = false := by simp; omega
            clear hkv HKV hk6
            go_wp2_with fail
            go_ret
            rw [HKV2.out]
            exact ⟨S6, rfl, ⟨_, _, _, _, HD6.out⟩, HK6.out.1, HK6.out.2, HSS.out, HON.out⟩
        · have hne : ¬ ((t1 : Int) = (t : Int)) := by omega
          go_wp2_with fail
          go_region
          obtain ⟨u, hu⟩ : ∃ u, (v1 + 1).toNat = u := ⟨_, rfl⟩
          have hvu : v1 + 1 = (u : Int) := by omega
          have hu7 : u ≤ 7 := by omega
          have ht1 : t1 ≤ 1152921504606846976 := by omega
          have HKV : Hid (keepV D t v t1 v1 = if (storeD D (lineB t1 u)).2 = 0 then ((storeD D (lineB t1 u)).1, 0, t1, v1) else ((storeD D (lineB t1 u)).1, (storeD D (lineB t1 u)).2, t, v)) := Lib.hid (by unfold keepV; rw [if_neg (by rw [hsd]; simp), if_neg (by rw [hmy]; simp), if_neg heq, hu])
          have hdw : Below w3.heap.size w3 w3.drew := (Below.refl _ _).drew
          have HD4 := Lib.hid (HD3.out.below hdw)
          have HK4 := Lib.hid (show BK w3.drew b B t v from ex_below HK3.out hdw)
          have HS4 := Lib.hid (ex_below HS3.out hdw)
          have HB4 := Lib.hid (HB3.out.trans (hdw.mono HB3.out.size))
          have HLN := Lib.hid (vline_any t1 u v1 w3.drew ht1 hu7 hvu)
          have HLL := Lib.hid (lineB_len t1 u (by omega) (by omega))
          have HLT := Lib.hid (lineB_lt t1 u (by omega) (by omega))
          have HMS := Lib.hid hmy
          clear hdw c0 c1 k0 k1 k2 HD3 HK3 HS3 HB3 hvu hu7 ht1 hu hsd' hsd hmy
          generalize w3.drew = w4 at HD4 HK4 HS4 HB4 HLN ⊢
          obtain ⟨c0, c1⟩ := two_rd HS4.out
          clear hne heq htt
          go_wp2_with fail
          refine HLN.out.mono ?_
          rintro e w5 ⟨v5, rfl, ho5, hb5⟩
          have hr5 := ho5.rb HLT.out (by have := HLL.out; omega)
          obtain ⟨la, lc, rfl, -, -⟩ := hr5.shape
          have hso : ∀ g, (Value.slice la (lineB t1 u).length lc).ownBlock = some g → ¬ S g := fun g hg hs => by
            have h1 := (World.ownsRow.lt ho5 g hg).1
            have h2 := HD4.out.bd g hs
            omega
          have HD5 := Lib.hid (HD4.out.below hb5)
          have HK5 := Lib.hid (show BK w5 b B t v from ex_below HK4.out hb5)
          have HS5 := Lib.hid (ex_below HS4.out hb5)
          have HB5 := Lib.hid (HB4.out.trans (hb5.mono HB4.out.size))
          have HST := Lib.hid (vstore_any HD5.out hst HK5.out HNB.out la lc _ hr5 hso)
          obtain ⟨⟨D6, k6⟩, hr6⟩ : ∃ r, storeD D (lineB t1 u) = r := ⟨_, rfl⟩
          rw [hr6] at HST HKV
          obtain ⟨ln, hln⟩ : ∃ ln, (lineB t1 u).length = ln := ⟨_, rfl⟩
          rw [hln] at HST ⊢
          clear ho5 hr5 hso hb5 hr6 hln c0 c1
          go_wp2_with fail
          refine HST.out.mono ?_
          rintro e w6 ⟨S6, rfl, ⟨m6, mt6, M6, V6, hd⟩, hf⟩
          have HD6 := Lib.hid hd
          have HFR := Lib.hid hf
          have HK6 := Lib.hid (bk_out HK5.out hf HNB.out)
          obtain ⟨n1, n2, -⟩ := hf.out (ex_lt HS5.out) HN1.out
          have HS6 := Lib.hid (n1.trans HS5.out)
          obtain ⟨c0, c1⟩ := two_rd HS6.out
          obtain ⟨k0, k1, k2⟩ := three_rd HK6.out.1
          have HON : Hid (Only (fun k => S k ∨ k = b) w w6) := Lib.hid ((Only.below HB5.out).trans (hf.1.more fun k hk => .inl hk))
          have HSS : Hid (∀ k, S6 k → S k ∨ w.heap.size ≤ k) := Lib.hid (fun k hk => (hf.2.2 k hk).imp id (Nat.le_trans HB5.out.size))
          clear hd hf n1 n2 HST HLN
          by_cases hk6 : k6 = 0
          · subst hk6
            have hkv := HKV.out
            rw [if_pos rfl] at hkv
            have HKV2 := Lib.hid hkv
            clear hkv HKV
            have hfb : ∀ o, w6.frozen? ⟨b, o, none⟩ = false := fun o => by
              have h3 := HK6.out.1
              unfold BK at h3
              simp [World.frozen?, h3]
            go_wp2_with fail
            go_ret
            rw [HKV2.out]
            have hon : Only (· = b) w6 ((w6.setCell ⟨b, 1, none⟩ (.int .u64 (t1 : Int))).setCell ⟨b, 2, none⟩ (.int .i64 v1)) := Only.setCell (X := fun k => k = b) (Only.setCell (X := fun k => k = b) (Only.refl _ _) ⟨b, 1, none⟩ _ (by rfl)) ⟨b, 2, none⟩ _ (by rfl)
            refine ⟨S6, rfl, ⟨_, _, _, _, HD6.out.only hon (fun k hk e => HK6.out.2 (e ▸ hk))⟩, ?_, HK6.out.2, HSS.out, HON.out.trans (hon.more fun k hk => .inr hk)⟩
            exact (heap_set (heap_set HK6.out.1 1 _) 2 _)
          · have hkv := HKV.out
            rw [if_neg hk6] at hkv
            have HKV2 := Lib.hid hkv
            have g3 : decide (k6 = 0) = false := decide_eq_false hk6
            have g4 : (k6 == 0) = false := by simp; omega
            clear hkv HKV hk6
            go_wp2_with fail
            go_ret
            rw [HKV2.out]
            exact ⟨S6, rfl, ⟨_, _, _, _, HD6.out⟩, HK6.out.1, HK6.out.2, HSS.out, HON.out⟩
end
end Go.Proofs.Ythefnakbpalecaa

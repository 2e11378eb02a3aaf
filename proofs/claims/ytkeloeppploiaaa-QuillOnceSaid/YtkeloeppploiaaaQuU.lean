/- The walk of QuillOnce. -/
import Derived.Test.YtkeloeppploiaaaQuT
import Derived.Deep.RegionWith
import Derived.Deep.DeepCutAuto
import Derived.StillTailTactics
namespace Go.Proofs.Ytkeloeppploiaaa
open Go.RowKit

theorem once_big (a0 : Option Addr) (len0 cap0 : Nat) (w : World) (hl : 3000 < len0) (hm : len0 ≤ 9223372036854775807) :
    Calls Try.prog 6 #[.slice a0 len0 cap0] w fun e w' => e = .returned (.bool true) ∧ Below w.heap.size w w' := by
  go_enter Try.func6, Try.ntmps6
  go_wp2_with (go_at_call 13; refine (lives1 _).mono ?_; rintro e w' ⟨rfl, hb⟩)
  go_ret
  exact ⟨rfl, hb⟩

theorem bad_quiet (b n : Nat) (ds : List Nat) (bad : Bool) (w : World) (hr : RR w b ds bad) : Calls Try.prog 24 #[.pointer (some ⟨b, 0, none⟩)] (w.drewN n) fun e w' => e = .returned (.bool bad) ∧ w' = w.drewN n :=
  (bad_rd b ds bad (w.drewN n) (hr.kept (below_drewN (Below.refl _ _) n))).mono fun _ _ h => ⟨h.1, h.2.symm⟩
theorem str_refl (l : List Nat) : ((str l).toList == (str l).toList) = true := by simp

theorem wr_two (w : World) (b c : Nat) (hb : b = w.heap.size) (hc : c = b + 1) :
    WR ((w.alloc (.cells #[.slice none 0 0] 29)).alloc (.cells #[.slice none 0 0] 29)) b (b + 2) (.slice none 0 0) [] ∧ WR ((w.alloc (.cells #[.slice none 0 0] 29)).alloc (.cells #[.slice none 0 0] 29)) c (b + 2) (.slice none 0 0) [] := by
  subst hb
  subst hc
  have h1 := heap_alloc_new w (.cells #[.slice none 0 0] 29)
  have h2 := heap_alloc_new (w.alloc (.cells #[.slice none 0 0] 29)) (.cells #[.slice none 0 0] 29)
  rw [World.size_alloc] at h2
  refine ⟨⟨?_, by omega, by simp, World.ownsRow_nil _ _ _ _, by simp⟩, ⟨h2, by omega, by simp, World.ownsRow_nil _ _ _ _, by simp⟩⟩
  rw [Below.heap_alloc _ _ _ (by simp)]
  exact h1
/-- Where a part of the bytes that came in is read. -/
theorem part_read {w : World} {a : Option Addr} {n cap : Nat} {ds xs rest : List Nat} (h : RB w (.slice a n cap) ds) (hn : ds.length = n) (he : ds = xs ++ rest) (h1 : 0 < xs.length) :
    ∃ x, a = some x ∧ xs.length ≤ cap ∧ cap ≤ maxLen ∧ RB w (.slice (some x) xs.length cap) xs := by
  have hl : xs.length ≤ ds.length := by rw [he]; simp
  obtain ⟨b, off, c, hv, hc, hm, _, _⟩ := h.at (by omega)
  simp only [Value.slice.injEq] at hv
  obtain ⟨rfl, _, rfl⟩ := hv
  refine ⟨_, rfl, by omega, hm, ?_⟩
  have := rb_take h xs.length hl
  rwa [show ds.take xs.length = xs by rw [he]; simp] at this

theorem still_wanted {P : Program} {ops : Array Oper} {w : World} {Q : Act → Prop} {o : Oper} {rest : List Oper} {a : Act} (hw : Region.wanted o (yielded ops a.tmps) = true)
    (h : ∀ K : Act → Prop, (∀ a, wpStill P ops w Q rest a → K a) → o.still P a w K) : wpStill P ops w Q (o :: rest) a :=
  wpStill_step fun K hK => by rw [if_pos hw]; exact h K hK
theorem still_skip {P : Program} {ops : Array Oper} {w : World} {Q : Act → Prop} {o : Oper} {rest : List Oper} {a : Act} (hw : Region.wanted o (yielded ops a.tmps) = false)
    (h : wpStill P ops w Q rest (a.put o.dst undef)) : wpStill P ops w Q (o :: rest) a :=
  wpStill_step fun K hK => by rw [if_neg (by rw [hw]; exact Bool.false_ne_true)]; exact hK _ h
theorem k_wanted {P : Program} {ops : Array Oper} {w : World} {Q : Act → Prop} {o : Oper} {rest : List Oper} {K : Act → Prop} (HK : Hid (∀ a, wpStill P ops w Q (o :: rest) a → K a)) {a : Act} (hw : Region.wanted o (yielded ops a.tmps) = true)
    (h : ∀ K' : Act → Prop, Hid (∀ a, wpStill P ops w Q rest a → K' a) → o.still P a w K') : K a :=
  HK.out _ (still_wanted hw fun K' hK => h K' (Lib.hid hK))
theorem k_skip {P : Program} {ops : Array Oper} {w : World} {Q : Act → Prop} {o : Oper} {rest : List Oper} {K : Act → Prop} (HK : Hid (∀ a, wpStill P ops w Q (o :: rest) a → K a)) {a : Act} (hw : Region.wanted o (yielded ops a.tmps) = false)
    (h : ∀ K' : Act → Prop, Hid (∀ a, wpStill P ops w Q rest a → K' a) → K' (a.put o.dst undef)) : K a :=
  HK.out _ (still_skip hw (h _ (Lib.hid fun _ h => h)))

set_option maxHeartbeats 10000000 in
theorem once_small (v : Value) (ds : List Nat) (w : World) (hv : RB w v ds) (hl : ds.length ≤ 3000) :
    Calls Try.prog 6 #[v] w fun e w' => e = .returned (.bool true) ∧ Below w.heap.size w w' := by
  have HV := Lib.hid hv
  obtain ⟨n, hn⟩ : ∃ n, ds.length = n := ⟨_, rfl⟩
  obtain ⟨a, cap, rfl⟩ := hv.shapeN' hn
  have HN := Lib.hid hn
  rw [hn] at hl
  have HO1 := Lib.hid (open_any _ _ _ hv (by omega))
  clear hv hn
  go_enter Try.func6, Try.ntmps6
  go_wp2_with fail
  refine HO1.out.mono ?_
  rintro e w1 ⟨b1, rfl, hb1, hr1, hB1⟩
  have HO2 := Lib.hid (open_any _ _ _ (HV.out.kept hB1) (by have := HN.out; omega))
  clear HO1
  go_wp2_with fail
  refine HO2.out.mono ?_
  rintro e w2 ⟨b2, rfl, hb2, hr2, hB2⟩
  have hlt1 : b1 < w1.heap.size := by obtain ⟨_, h, _⟩ := hr1; exact lt_of_block h
  have hne : b2 ≠ b1 := by omega
  have hr1' := hr1.kept hB2
  have HQ := Lib.hid (num_once b1 ds w2 hr1')
  have hBW2 := hB1.trans (hB2.mono hB1.size)
  have hs2 : w.heap.size ≤ b2 := Nat.le_trans hB1.size hb2
  clear HO2 hB1 hr1
  go_wp2_with fail
  refine HQ.out.mono ?_
  rintro e w3 ⟨m, rest1, bad1, rfl, hr13, ht3, hm, henc1⟩
  have hr23 := hr2.other hr1' ht3 hne
  have hBW3 := ht3.outside hBW2 hBW2.size hb1
  have HQ2 := Lib.hid (int_once b2 ds w3 hr23)
  clear HQ hr2 hr1' hB2
  go_wp2_with fail
  refine HQ2.out.mono ?_
  rintro e w4 ⟨z, rest2, bad2, rfl, hr24, ht4, hz0, hz1, henc2⟩
  have hr14 := hr13.other hr23 ht4 (fun e => hne e.symm)
  have hBW4 := ht4.outside hBW3 hBW3.size hs2
  have HM := Lib.hid hm
  have HZ := Lib.hid (And.intro hz0 hz1)
  have HE1 := Lib.hid henc1
  have HE2 := Lib.hid henc2
  clear HQ2 hr23 hr13 ht3 ht4 hBW2 hBW3 hm hz0 hz1 henc1 henc2 hlt1 hb1 hb2 hs2 hne
  obtain ⟨g, hg⟩ : ∃ g, w4.heap.size = g := ⟨_, rfl⟩
  obtain ⟨hw5, hw5'⟩ := wr_two w4 g (g + 1) hg.symm rfl
  have hs5 : ((w4.alloc (.cells #[.slice none 0 0] 29)).alloc (.cells #[.slice none 0 0] 29)).heap.size = g + 1 + 1 := by simp [hg]
  have h17 := num_one g (g + 2) _ m [] _ hw5 (by simp) HM.out
  rw [hs5] at h17
  have H17 := Lib.hid h17
  have hB5 : Below g w4 ((w4.alloc (.cells #[.slice none 0 0] 29)).alloc (.cells #[.slice none 0 0] 29)) := ((Below.refl _ _).alloc (by omega) _).alloc (by simp; omega) _
  have HG := Lib.hid hg
  clear h17 hs5
  go_wp2_with fail
  refine H17.out.mono ?_
  rintro e w6 ⟨rfl, v1, hw6, ht6, hm6⟩
  have hw6' := hw5'.other ht6 (by omega) (by simp [Value.ownBlock]) (by simp [Value.ownBlock]) (by simp [Value.ownBlock])
  have hB6 := ht6.outside hB5 (by have := hB5.size; omega) (Nat.le_refl _) (by simp [Value.ownBlock])
  have H18 := Lib.hid (int_one (g + 1) (g + 2) _ z [] w6 hw6' (by simp) HZ.out.1 HZ.out.2)
  clear H17 hw5 hw5' ht6 hm6 hB5
  go_wp2_with fail
  refine H18.out.mono ?_
  rintro e w7 ⟨rfl, v2, hw7', ht7, hm7⟩
  have hw7 := hw6.other ht7 (by omega) (fun e => by have := hw6.base_le _ e; omega) (by simp [Value.ownBlock]) (fun k _ => by simp [Value.ownBlock])
  have hB7 := ht7.outside hB6 (by have := hB6.size; omega) (by omega) (by simp [Value.ownBlock])
  rw [hg.symm] at hB7
  have hr17 := hr14.kept hB7
  have hr27 := hr24.kept hB7
  have hBW7 := hBW4.trans (hB7.mono hBW4.size)
  have hv7 := HV.out.kept hBW7
  have HR1 := Lib.hid hr17
  have HR2 := Lib.hid hr27
  have HW1 := Lib.hid hw7
  have HW2 := Lib.hid hw7'
  have HV7 := Lib.hid hv7
  clear H18 hw6 hw6' ht7 hm7 hB6 hB7 hr14 hr24 hg HG hr17 hr27 hw7 hw7' hv7 hBW4 HV
  simp only [List.nil_append] at HW1 HW2
  have HBW := Lib.hid hBW7
  clear hBW7
  have hlen1 : 0 < (num 0 m).length := by rw [num_len]; omega
  have hlen2 : 0 < (intB z).length := by unfold intB; split <;> (rw [num_len]; omega)
  have hnl1 : (num 0 m).length ≤ 9 := num_len9 0 m HM.out
  have hnl2 : (intB z).length ≤ 9 := intB_len9 z HZ.out.1 HZ.out.2
  have HLT1 := Lib.hid (num_lt' 0 m (by omega) HM.out)
  have HLT2 := Lib.hid (intB_lt z HZ.out.1 HZ.out.2)
  go_wp2_with fail
  cases bad1 with
  | true =>
    have HBAD := Lib.hid (fun n => bad_quiet b1 n rest1 true w7 HR1.out)
    go_quiet ((go_at_call 24; exact Calls.quiet_of_same (HBAD.out _)))
    have hbx : Below w7.heap.size w7 (w7.drewN nq) := below_drewN (Below.refl _ _) _
    clear HBAD
    generalize w7.drewN nq = w9 at *
    have HBX := Lib.hid (HBW.out.trans (hbx.mono HBW.out.size))
    go_wp2_with fail
    cases bad2 with
    | true =>
      have hbd : Below w9.heap.size w9 w9.drew := (Below.refl _ _).drew
      have hbad : Calls Try.prog 24 #[.pointer (some ⟨b2, 0, none⟩)] w9.drew fun e w' => e = .returned (.bool true) ∧ w' = w9.drew :=
        (bad_rd b2 rest2 true w9.drew ((HR2.out.kept hbx).kept hbd)).mono fun _ _ h => ⟨h.1, h.2.symm⟩
      have HBAD := Lib.hid hbad
      clear hbad
      go_still_tail 16, (by kernel_rfl)
      refine wpStill_step (fun K hK => ?_)
      go_simp
      have HK := Lib.hid hK
      clear hK
      refine ⟨Value.bool true, HBAD.out, ?_⟩
      refine k_wanted HK (Eq.refl _) ?_; clear HK K; intro K HK; go_simp
      refine k_skip HK (Eq.refl _) ?_; clear HK K; intro K HK; simp only [Act.put]; go_simp
      refine k_skip HK (Eq.refl _) ?_; clear HK K; intro K HK; simp only [Act.put]; go_simp
      refine k_skip HK (Eq.refl _) ?_; clear HK K; intro K HK; simp only [Act.put]; go_simp
      refine k_skip HK (Eq.refl _) ?_; clear HK K; intro K HK; simp only [Act.put]; go_simp
      refine k_skip HK (Eq.refl _) ?_; clear HK K; intro K HK; simp only [Act.put]; go_simp
      refine k_skip HK (Eq.refl _) ?_; clear HK K; intro K HK; simp only [Act.put]; go_simp
      refine k_skip HK (Eq.refl _) ?_; clear HK K; intro K HK; simp only [Act.put]; go_simp
      refine k_skip HK (Eq.refl _) ?_; clear HK K; intro K HK; simp only [Act.put]; go_simp
      refine k_skip HK (Eq.refl _) ?_; clear HK K; intro K HK; simp only [Act.put]; go_simp
      refine k_skip HK (Eq.refl _) ?_; clear HK K; intro K HK; simp only [Act.put]; go_simp
      refine k_skip HK (Eq.refl _) ?_; clear HK K; intro K HK; simp only [Act.put]; go_simp
      refine k_wanted HK (Eq.refl _) ?_; clear HK K; intro K HK; go_simp
      refine k_wanted HK (Eq.refl _) ?_; clear HK K; intro K HK; go_simp
      refine HK.out _ ?_
      clear HK K
      refine wpStill_nil ?_
      change wpList _ _ _ _ _ w9.drew
      have hB9 : Below w.heap.size w w9.drew := HBX.out.drew
      generalize w9.drew = w10 at *
      go_wp2_with (go_at_call 13; refine (lives1 _).mono ?_; rintro e w' ⟨rfl, hb⟩)
      go_ret
      exact ⟨rfl, hB9.trans (hb.mono hB9.size)⟩
    | false =>
      have hbd : Below w7.heap.size w7 w9.drew := hbx.drew
      have hBX : Below w.heap.size w w9.drew := HBX.out.drew
      have hds := HE2.out rfl
      obtain ⟨x, hax, hcap, hcm, hpr⟩ := part_read HV7.out HN.out hds hlen2
      have hnn : n = (intB z).length + rest2.length := by rw [← HN.out, hds, List.length_append]
      have HL0 : ∀ W, Below w7.heap.size w7 W → Calls Try.prog 23 #[.pointer (some ⟨b2, 0, none⟩)] W fun e w' => e = .returned (.int .i64 ((rest2.length : Nat) : Int)) ∧ W = w' := fun W hB => left_rd b2 rest2 false W (HR2.out.kept hB)
      have HY0 : ∀ W, Below w7.heap.size w7 W → Calls Try.prog 15 #[.pointer (some ⟨g + 1, 0, none⟩)] W (Owned W (intB z)) := fun W hB => bytes_wr (g + 1) (g + 2) v2 (intB z) W (HW2.out.kept hB) (by omega)
      have HC0 : ∀ W, Below w7.heap.size w7 W → (convert 27 9 (.slice (some x) (intB z).length cap)).run Try.prog W = .ok (.string (str (intB z))) W := fun W hB => rb_string (P := Try.prog) (hpr.kept hB) 27 9 5 Try.underlying27 Try.underlying5 Try.underlying9
      obtain ⟨A, hA⟩ : ∃ A, (intB z).length = A := ⟨_, rfl⟩
      obtain ⟨R, hR⟩ : ∃ R, rest2.length = R := ⟨_, rfl⟩
      rw [hA] at hcap HC0 hnn hnl2
      rw [hR] at HL0 hnn
      have HBAD := Lib.hid (bad_rd b2 _ false w9.drew (HR2.out.kept hbd))
      have HL := Lib.hid HL0
      have HY := Lib.hid HY0
      have HC := Lib.hid HC0
      have hsub : (n : Int) - (R : Int) = (A : Int) := by omega
      have hwA : IntKind.i64.wrap (A : Int) = (A : Int) := IntWalk.i64_in _ ⟨by omega, by omega⟩
      have hc0 := HC0 _ hbd
      have HAL := Lib.hid hA
      have hAn : A ≤ n := by omega
      subst hax
      clear hds hcm hpr HL0 HY0 HC0 hA hR hnn
      go_region_with (first
        | (go_at_call 24; refine HBAD.out.mono ?_; rintro e wa ⟨rfl, rfl⟩)
        | (go_at_call 23; refine (HL.out _ (by assumption)).mono ?_; rintro e wa ⟨rfl, rfl⟩)
        | (go_at_call 15; refine (HY.out _ (by assumption)).mono ?_; rintro e wb ⟨v9, rfl, ho9, hb9⟩; have hbb9 := hbd.trans (hb9.mono hbd.size); have hBX9 := hBX.trans (hb9.mono hBX.size); have hc9 := HC.out _ hbb9; have hv9 := rb_string (P := Try.prog) (ho9.rb HLT2.out (by have := HAL.out; omega)) 27 9 5 Try.underlying27 Try.underlying5 Try.underlying9)
        | (go_at_call 13; refine (lives1 _).mono ?_; rintro e wd ⟨rfl, hb10⟩))
      all_goals (go_wp2; go_ret; exact ⟨rfl, hBX9.trans (hb10.mono hBX9.size)⟩)
  | false =>
    have hbd : Below w7.heap.size w7 w7.drew := (Below.refl _ _).drew
    have hds := HE1.out rfl
    obtain ⟨x, hax, hcap, hcm, hpr⟩ := part_read HV7.out HN.out hds hlen1
    have hnn : n = (num 0 m).length + rest1.length := by rw [← HN.out, hds, List.length_append]
    have HL0 : ∀ W, Below w7.heap.size w7 W → Calls Try.prog 23 #[.pointer (some ⟨b1, 0, none⟩)] W fun e w' => e = .returned (.int .i64 ((rest1.length : Nat) : Int)) ∧ W = w' := fun W hB => left_rd b1 rest1 false W (HR1.out.kept hB)
    have HY0 : ∀ W, Below w7.heap.size w7 W → Calls Try.prog 15 #[.pointer (some ⟨g, 0, none⟩)] W (Owned W (num 0 m)) := fun W hB => bytes_wr g (g + 2) v1 (num 0 m) W (HW1.out.kept hB) (by omega)
    have HC0 : ∀ W, Below w7.heap.size w7 W → (convert 27 9 (.slice (some x) (num 0 m).length cap)).run Try.prog W = .ok (.string (str (num 0 m))) W := fun W hB => rb_string (P := Try.prog) (hpr.kept hB) 27 9 5 Try.underlying27 Try.underlying5 Try.underlying9
    obtain ⟨A, hA⟩ : ∃ A, (num 0 m).length = A := ⟨_, rfl⟩
    obtain ⟨R, hR⟩ : ∃ R, rest1.length = R := ⟨_, rfl⟩
    rw [hA] at hcap HC0 hnn hnl1
    rw [hR] at HL0 hnn
    have HBAD := Lib.hid (bad_rd b1 _ false w7.drew (HR1.out.kept hbd))
    have HL := Lib.hid HL0
    have HY := Lib.hid HY0
    have HC := Lib.hid HC0
    have hsub : (n : Int) - (R : Int) = (A : Int) := by omega
    have hwA : IntKind.i64.wrap (A : Int) = (A : Int) := IntWalk.i64_in _ ⟨by omega, by omega⟩
    have hc0 := HC0 _ hbd
    have HAL := Lib.hid hA
    have hAn : A ≤ n := by omega
    subst hax
    clear hds hcm hpr HL0 HY0 HC0 hA hR hnn
    go_region_with (first
      | (go_at_call 24; refine HBAD.out.mono ?_; rintro e w8 ⟨rfl, rfl⟩)
      | (go_at_call 23; refine (HL.out _ (by assumption)).mono ?_; rintro e w8 ⟨rfl, rfl⟩)
      | (go_at_call 15; refine (HY.out _ (by assumption)).mono ?_; rintro e w8 ⟨v8, rfl, ho8, hb8⟩; have hbb8 := hbd.trans (hb8.mono hbd.size); have hc8 := HC.out _ hbb8; have hv8 := rb_string (P := Try.prog) (ho8.rb HLT1.out (by have := HAL.out; omega)) 27 9 5 Try.underlying27 Try.underlying5 Try.underlying9))
    all_goals
      have hbx := hbb8
      generalize w8 = w9 at *
      clear hbb8 hc8 hv8 hb8 ho8 HAL HL HY HC hc0 hsub hwA hAn HBAD hbd
      have HBX := Lib.hid (HBW.out.trans (hbx.mono HBW.out.size))
      go_wp2_with fail
      cases bad2 with
      | true =>
        have hbd : Below w9.heap.size w9 w9.drew := (Below.refl _ _).drew
        have hbad : Calls Try.prog 24 #[.pointer (some ⟨b2, 0, none⟩)] w9.drew fun e w' => e = .returned (.bool true) ∧ w' = w9.drew :=
          (bad_rd b2 rest2 true w9.drew ((HR2.out.kept hbx).kept hbd)).mono fun _ _ h => ⟨h.1, h.2.symm⟩
        have HBAD := Lib.hid hbad
        clear hbad
        go_still_tail 16, (by kernel_rfl)
        refine wpStill_step (fun K hK => ?_)
        go_simp
        have HK := Lib.hid hK
        clear hK
        refine ⟨Value.bool true, HBAD.out, ?_⟩
        refine k_wanted HK (Eq.refl _) ?_; clear HK K; intro K HK; go_simp
        refine k_skip HK (Eq.refl _) ?_; clear HK K; intro K HK; simp only [Act.put]; go_simp
        refine k_skip HK (Eq.refl _) ?_; clear HK K; intro K HK; simp only [Act.put]; go_simp
        refine k_skip HK (Eq.refl _) ?_; clear HK K; intro K HK; simp only [Act.put]; go_simp
        refine k_skip HK (Eq.refl _) ?_; clear HK K; intro K HK; simp only [Act.put]; go_simp
        refine k_skip HK (Eq.refl _) ?_; clear HK K; intro K HK; simp only [Act.put]; go_simp
        refine k_skip HK (Eq.refl _) ?_; clear HK K; intro K HK; simp only [Act.put]; go_simp
        refine k_skip HK (Eq.refl _) ?_; clear HK K; intro K HK; simp only [Act.put]; go_simp
        refine k_skip HK (Eq.refl _) ?_; clear HK K; intro K HK; simp only [Act.put]; go_simp
        refine k_skip HK (Eq.refl _) ?_; clear HK K; intro K HK; simp only [Act.put]; go_simp
        refine k_skip HK (Eq.refl _) ?_; clear HK K; intro K HK; simp only [Act.put]; go_simp
        refine k_skip HK (Eq.refl _) ?_; clear HK K; intro K HK; simp only [Act.put]; go_simp
        refine k_wanted HK (Eq.refl _) ?_; clear HK K; intro K HK; go_simp
        refine k_wanted HK (Eq.refl _) ?_; clear HK K; intro K HK; go_simp
        refine HK.out _ ?_
        clear HK K
        refine wpStill_nil ?_
        change wpList _ _ _ _ _ w9.drew
        have hB9 : Below w.heap.size w w9.drew := HBX.out.drew
        generalize w9.drew = w10 at *
        go_wp2_with (go_at_call 13; refine (lives1 _).mono ?_; rintro e w' ⟨rfl, hb⟩)
        go_ret
        exact ⟨rfl, hB9.trans (hb.mono hB9.size)⟩
      | false =>
        have hbd : Below w7.heap.size w7 w9.drew := hbx.drew
        have hBX : Below w.heap.size w w9.drew := HBX.out.drew
        have hds := HE2.out rfl
        obtain ⟨x, hax, hcap, hcm, hpr⟩ := part_read HV7.out HN.out hds hlen2
        have hnn : n = (intB z).length + rest2.length := by rw [← HN.out, hds, List.length_append]
        have HL0 : ∀ W, Below w7.heap.size w7 W → Calls Try.prog 23 #[.pointer (some ⟨b2, 0, none⟩)] W fun e w' => e = .returned (.int .i64 ((rest2.length : Nat) : Int)) ∧ W = w' := fun W hB => left_rd b2 rest2 false W (HR2.out.kept hB)
        have HY0 : ∀ W, Below w7.heap.size w7 W → Calls Try.prog 15 #[.pointer (some ⟨g + 1, 0, none⟩)] W (Owned W (intB z)) := fun W hB => bytes_wr (g + 1) (g + 2) v2 (intB z) W (HW2.out.kept hB) (by omega)
        have HC0 : ∀ W, Below w7.heap.size w7 W → (convert 27 9 (.slice (some x) (intB z).length cap)).run Try.prog W = .ok (.string (str (intB z))) W := fun W hB => rb_string (P := Try.prog) (hpr.kept hB) 27 9 5 Try.underlying27 Try.underlying5 Try.underlying9
        obtain ⟨A, hA⟩ : ∃ A, (intB z).length = A := ⟨_, rfl⟩
        obtain ⟨R, hR⟩ : ∃ R, rest2.length = R := ⟨_, rfl⟩
        rw [hA] at hcap HC0 hnn hnl2
        rw [hR] at HL0 hnn
        have HBAD := Lib.hid (bad_rd b2 _ false w9.drew (HR2.out.kept hbd))
        have HL := Lib.hid HL0
        have HY := Lib.hid HY0
        have HC := Lib.hid HC0
        have hsub : (n : Int) - (R : Int) = (A : Int) := by omega
        have hwA : IntKind.i64.wrap (A : Int) = (A : Int) := IntWalk.i64_in _ ⟨by omega, by omega⟩
        have hc0 := HC0 _ hbd
        have HAL := Lib.hid hA
        have hAn : A ≤ n := by omega
        obtain rfl := Option.some.inj hax
        clear hds hcm hpr HL0 HY0 HC0 hA hR hnn
        go_region_with (first
          | (go_at_call 24; refine HBAD.out.mono ?_; rintro e wa ⟨rfl, rfl⟩)
          | (go_at_call 23; refine (HL.out _ (by assumption)).mono ?_; rintro e wa ⟨rfl, rfl⟩)
          | (go_at_call 15; refine (HY.out _ (by assumption)).mono ?_; rintro e wb ⟨v9, rfl, ho9, hb9⟩; have hbb9 := hbd.trans (hb9.mono hbd.size); have hBX9 := hBX.trans (hb9.mono hBX.size); have hc9 := HC.out _ hbb9; have hv9 := rb_string (P := Try.prog) (ho9.rb HLT2.out (by have := HAL.out; omega)) 27 9 5 Try.underlying27 Try.underlying5 Try.underlying9)
          | (go_at_call 13; refine (lives1 _).mono ?_; rintro e wd ⟨rfl, hb10⟩))
        all_goals (go_wp2; go_ret; exact ⟨rfl, hBX9.trans (hb10.mono hBX9.size)⟩)
end Go.Proofs.Ytkeloeppploiaaa

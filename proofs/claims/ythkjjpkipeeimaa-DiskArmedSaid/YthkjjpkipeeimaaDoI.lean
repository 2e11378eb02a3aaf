/- DiskPlays: the law's walk. -/
import Derived.Test.YthkjjpkipeeimaaDoH
import Derived.Test.YthkjjpkipeeimaaDkZ
namespace Go.Proofs.Ythkjjpkipeeimaa
open Go.RowKit Go.Maps
/-- A row of files does not lie in a box that has no string. -/
theorem RA.box5 {P : Nat → Prop} {w W : World} {D : Dd} {a : Option Addr} {ar : Int} {N : Nat} {x0 x3 x4 : Int} {a1 : Option Addr} {n1 c1 : Nat} {b2 : Bool} {k4 : IntKind} {t : TypeId} (h : RA P w D a ar) (hN : w.heap[N]? = some (.cells #[.int .i64 x0, .slice a1 n1 c1, .bool b2, .int .i64 x3, .int k4 x4] t (0, 0))) (hk : ∀ k, k ≠ N → W.heap[k]? = w.heap[k]?) (hz : w.heap.size ≤ W.heap.size) : RA P W D a ar := by
  refine ⟨fun i hi => ?_, fun x e => ⟨(h.out x e).1, Nat.lt_of_lt_of_le (h.out x e).2 hz⟩, h.lt, h.arm⟩
  obtain ⟨b, o, e, h1, h2, h3, h4⟩ := h.row i hi
  have hne : b ≠ N := fun e2 => by
    subst e2
    simp only [World.cell?, hN] at h2
    rcases Nat.lt_or_ge (o + i * 3) 5 with h5 | h5
    · generalize o + i * 3 = q at h2 h5
      match q, h5 with
      | 0, _ => cases h2
      | 1, _ => cases h2
      | 2, _ => cases h2
      | 3, _ => cases h2
      | 4, _ => cases h2
    · rw [Array.getElem?_eq_none (by simpa using h5)] at h2
      cases h2
  exact ⟨b, o, e, Nat.lt_of_lt_of_le h1 hz, (World.cell?_of_block (a := ⟨b, _, none⟩) (hk b hne)).trans h2, (World.cell?_of_block (a := ⟨b, _, none⟩) (hk b hne)).trans h3, (World.cell?_of_block (a := ⟨b, _, none⟩) (hk b hne)).trans h4⟩
theorem step_st (D : Dd) : (stepD D).st = D.st + 1 := rfl
theorem sync_st (D : Dd) (n : Nm) : (syncD D n).1.st ≤ D.st + 1 := by
  unfold syncD
  by_cases hd : D.down = true
  · rw [if_pos hd]; exact Nat.le_succ _
  · rw [if_neg hd]
    cases getF D.fs n with
    | none => exact Nat.le_succ _
    | some f =>
      dsimp only
      by_cases hs : (stepD D).down = true
      · rw [if_pos hs]; exact Nat.le_refl _
      · rw [if_neg hs]; exact Nat.le_refl _
theorem remove_st (D : Dd) (n : Nm) : (removeD D n).1.st ≤ D.st + 1 := by
  unfold removeD
  by_cases hd : D.down = true
  · rw [if_pos hd]; exact Nat.le_succ _
  · rw [if_neg hd]
    cases getF D.fs n with
    | none => exact Nat.le_succ _
    | some f =>
      dsimp only
      by_cases hs : (stepD D).down = true
      · rw [if_pos hs]; exact Nat.le_refl _
      · rw [if_neg hs]; exact Nat.le_refl _
theorem cut_st (D : Dd) (n : Nm) (k : Int) : (cutD D n k).1.st ≤ D.st + 1 := by
  unfold cutD
  by_cases hd : D.down = true
  · rw [if_pos hd]; exact Nat.le_succ _
  · rw [if_neg hd]
    cases getF D.fs n with
    | none => exact Nat.le_succ _
    | some f =>
      dsimp only
      by_cases hb : k < 0 ∨ (f.all.length : Int) < k
      · rw [if_pos hb]; exact Nat.le_succ _
      · rw [if_neg hb]
        by_cases hs : (stepD D).down = true
        · rw [if_pos hs]; exact Nat.le_refl _
        · rw [if_neg hs]; exact Nat.le_refl _
theorem move_st (D : Dd) (n b : Nm) : (moveD D n b).1.st ≤ D.st + 1 := by
  unfold moveD
  by_cases hd : D.down = true
  · rw [if_pos hd]; exact Nat.le_succ _
  · rw [if_neg hd]
    cases getF D.fs n with
    | none => exact Nat.le_succ _
    | some f =>
      dsimp only
      by_cases hb : validN b = false
      · rw [if_pos hb]; exact Nat.le_succ _
      · rw [if_neg hb]
        by_cases hs : (stepD D).down = true
        · rw [if_pos hs]; exact Nat.le_refl _
        · rw [if_neg hs]; exact Nat.le_refl _
theorem arm_st (D : Dd) (r : Int) : (armD D r).1.st ≤ D.st + 1 := by
  unfold armD
  by_cases hd : D.down = true
  · rw [if_pos hd]; exact Nat.le_succ _
  · rw [if_neg hd]
    by_cases h0 : r < 0
    · rw [if_pos h0]; exact Nat.le_succ _
    · rw [if_neg h0]; exact Nat.le_succ _
theorem resize_st (D : Dd) (r : Int) : (resizeD D r).1.st ≤ D.st + 1 := by
  unfold resizeD
  by_cases hd : D.down = true
  · rw [if_pos hd]; exact Nat.le_succ _
  · rw [if_neg hd]
    by_cases h0 : r < 0 ∨ 1048576 < r
    · rw [if_pos h0]; exact Nat.le_succ _
    · rw [if_neg h0]; exact Nat.le_succ _
theorem append_st (D : Dd) (n : Nm) (bs : List Nat) : (appendD D n bs).1.st ≤ D.st + 1 := by
  unfold appendD
  by_cases hd : D.down = true
  · rw [if_pos hd]; exact Nat.le_succ _
  · rw [if_neg hd]
    by_cases hv : validN n = false
    · rw [if_pos hv]; exact Nat.le_succ _
    · rw [if_neg hv]
      cases getF D.fs n with
      | none =>
        dsimp only
        by_cases hm : 128 ≤ D.fs.length
        · rw [if_pos hm]; exact Nat.le_succ _
        · rw [if_neg hm]
          by_cases hf : freeD D < (bs.length : Int)
          · rw [if_pos hf]; exact Nat.le_succ _
          · rw [if_neg hf]; exact Nat.le_refl _
      | some f =>
        dsimp only
        by_cases hf : freeD D < (bs.length : Int)
        · rw [if_pos hf]; exact Nat.le_succ _
        · rw [if_neg hf]; exact Nat.le_refl _
theorem op_st (D : Dd) (y : Oq) : (opD D y).st ≤ D.st + 1 := by
  unfold opD
  by_cases h1 : y.kd = 1
  · rw [if_pos h1]; exact sync_st D _
  rw [if_neg h1]
  by_cases h2 : y.kd = 2
  · rw [if_pos h2]; exact cut_st D _ _
  rw [if_neg h2]
  by_cases h3 : y.kd = 3
  · rw [if_pos h3]; exact remove_st D _
  rw [if_neg h3]
  by_cases h4 : y.kd = 4
  · rw [if_pos h4]; exact move_st D _ _
  rw [if_neg h4]
  by_cases h5 : y.kd = 5
  · rw [if_pos h5]; exact Nat.le_succ _
  rw [if_neg h5]
  by_cases h6 : y.kd = 6
  · rw [if_pos h6]; exact arm_st D _
  rw [if_neg h6]
  by_cases h7 : y.kd = 7
  · rw [if_pos h7]; exact Nat.le_succ _
  rw [if_neg h7]
  by_cases h8 : y.kd = 8
  · rw [if_pos h8]; exact Nat.le_succ _
  rw [if_neg h8]
  by_cases h9 : y.kd = 9
  · rw [if_pos h9]; exact resize_st D _
  rw [if_neg h9]
  exact append_st D _ _
theorem neq_same (q : List UInt8) (w : World) : (binOp .neq 9 (encStr q) (encStr q)).run Try.prog w = .ok (.bool false) w := by
  show (binOp .neq 9 (.string ⟨q.toArray⟩) (.string ⟨q.toArray⟩)).run Try.prog w = _
  have h : Try.prog.underlying 9 = some .string := Try.underlying9
  go_simp
set_option maxRecDepth 100000 in
set_option maxHeartbeats 8000000 in
theorem plays_lo (room : Int) (a0 : Option Addr) (n c0 : Nat) (O : Nat → Oq) (w : World) (h : OpsD w a0 n O) (hr : room < 0) : Calls Try.prog 3 #[.int .i64 room, .slice a0 n c0] w fun e w' => e = .returned (.bool true) ∧ Below w.heap.size w w' := by
  have d0 : decide (room < 0) = true := decide_eq_true hr
  have HW : Hid (Below w.heap.size w w) := Lib.hid (Below.refl _ _)
  clear h
  go_enter Try.func3, Try.ntmps3
  go_wp2_with fail
  refine (new_none23 (-1) w (.inl (by decide))).mono ?_
  rintro e wa ⟨rfl, rfl⟩
  go_wp2_with fail
  refine (new_none23 1048577 w (.inr (by decide))).mono ?_
  rintro e wa ⟨rfl, rfl⟩
  go_wp2_with fail
  refine (lives23 w).mono ?_
  rintro e wb ⟨rfl, hb⟩
  have HBB := Lib.hid (HW.out.trans (hb.mono HW.out.size))
  clear hb
  go_wp2_with fail
  go_ret
  exact ⟨rfl, HBB.out⟩
set_option maxRecDepth 100000 in
set_option maxHeartbeats 8000000 in
theorem plays_hi (room : Int) (a0 : Option Addr) (n c0 : Nat) (O : Nat → Oq) (w : World) (h : OpsD w a0 n O) (hr : 1048576 < room) : Calls Try.prog 3 #[.int .i64 room, .slice a0 n c0] w fun e w' => e = .returned (.bool true) ∧ Below w.heap.size w w' := by
  have d0 : decide (room < 0) = false := decide_eq_false (by omega)
  have d1 : decide (room > 1048576) = true := decide_eq_true (by omega)
  have d2 : decide (1048576 < room) = true := decide_eq_true (by omega)
  have HW : Hid (Below w.heap.size w w) := Lib.hid (Below.refl _ _)
  clear h
  go_enter Try.func3, Try.ntmps3
  go_wp2_with fail
  refine (new_none23 (-1) w (.inl (by decide))).mono ?_
  rintro e wa ⟨rfl, rfl⟩
  go_wp2_with fail
  refine (new_none23 1048577 w (.inr (by decide))).mono ?_
  rintro e wa ⟨rfl, rfl⟩
  go_wp2_with fail
  refine (lives23 w).mono ?_
  rintro e wb ⟨rfl, hb⟩
  have HBB := Lib.hid (HW.out.trans (hb.mono HW.out.size))
  clear hb
  go_wp2_with fail
  go_ret
  exact ⟨rfl, HBB.out⟩
set_option maxRecDepth 100000 in
set_option maxHeartbeats 8000000 in
theorem plays_main (room : Int) (a0 : Option Addr) (n c0 : Nat) (O : Nat → Oq) (w : World) (h : OpsD w a0 n O) (hr : 0 ≤ room ∧ room ≤ 1048576) : Calls Try.prog 3 #[.int .i64 room, .slice a0 n c0] w fun e w' => e = .returned (.bool true) ∧ Below w.heap.size w w' := by
  have HO := Lib.hid h.2
  have HNM := Lib.hid h.1
  have HRM := Lib.hid hr
  have d0 : decide (room < 0) = false := decide_eq_false (by omega)
  have d1 : decide (room > 1048576) = false := decide_eq_false (by omega)
  have d2 : decide (1048576 < room) = false := decide_eq_false (by omega)
  clear h hr
  go_enter Try.func3, Try.ntmps3
  go_wp2_with fail
  refine (light_any w.heap.size a0 n c0 O w HO.out (Nat.le_refl _) HNM.out).mono ?_
  rintro e w1 ⟨b, rfl, hli, hb1⟩
  have HW := Lib.hid hb1
  have HLI := Lib.hid hli
  clear hb1 hli
  cases b with
  | false =>
    go_wp2_with fail
    refine (new_none23 (-1) w1 (.inl (by decide))).mono ?_
    rintro e wa ⟨rfl, rfl⟩
    go_wp2_with fail
    refine (new_none23 1048577 w1 (.inr (by decide))).mono ?_
    rintro e wa ⟨rfl, rfl⟩
    go_wp2_with fail
    refine (lives23 w1).mono ?_
    rintro e wb ⟨rfl, hb⟩
    have HBB := Lib.hid (HW.out.trans (hb.mono HW.out.size))
    clear hb
    go_wp2_with fail
    go_ret
    exact ⟨rfl, HBB.out⟩
  | true =>
    have HLT := Lib.hid (HLI.out rfl)
    clear HLI d0 d1 d2
    go_wp2_with fail
    refine (new_dk room w1 HRM.out).mono ?_
    rintro e w2 ⟨B, rfl, hB, hdk, hb⟩
    have HDK := Lib.hid hdk
    have HBN := Lib.hid hB
    have HB2 := Lib.hid (HW.out.trans (hb.mono HW.out.size))
    have HW12 : Hid (w.heap.size ≤ w1.heap.size) := Lib.hid HW.out.size
    clear hdk hB hb HW
    go_wp2_with fail
    refine (rnew_any (fun k => w1.heap.size ≤ k ∧ k < w2.heap.size) room w2).mono ?_
    rintro e w3 ⟨rfl, hra, hb⟩
    obtain ⟨m, mt, M, V, hk⟩ := HDK.out
    have H3 := Lib.hid (hk.below hb)
    have HA3 := Lib.hid hra
    have HB3 := Lib.hid (HB2.out.trans (hb.mono HB2.out.size))
    have HZ23 : Hid (w2.heap.size ≤ w3.heap.size) := Lib.hid hb.size
    clear hk hra hb HDK HB2
    obtain ⟨D, hD⟩ : ∃ D, d0 room = D := ⟨_, rfl⟩
    have HD0 : Hid (D.st ≤ 0) := Lib.hid (by rw [← hD]; exact Nat.le_refl _)
    rw [hD] at H3 HA3
    unfold RVal
    try rw [hD]
    clear hD
    dsimp only
    obtain ⟨hbx, hsx, -⟩ := box1 w3 #[.int .i64 D.room, .slice none D.fs.length 0, .bool D.down, .int .i64 (-1), .int .u64 (D.st : Int)] 30
    obtain ⟨N, hN⟩ : ∃ N, w3.heap.size = N := ⟨_, rfl⟩
    rw [hN] at hsx
    have H4 := Lib.hid (H3.out.below hbx)
    have HA4 := Lib.hid (HA3.out.below hbx)
    have HN4 := Lib.hid hsx
    have HB4 := Lib.hid (HB3.out.trans (hbx.mono HB3.out.size))
    have HNB : Hid (w.heap.size ≤ N) := Lib.hid (by have := HB3.out.size; omega)
    have HSN : Hid (∀ k, (fun k => w1.heap.size ≤ k ∧ k < w2.heap.size) k → w.heap.size ≤ k ∧ k ≠ N) := Lib.hid (fun k hk => by have := hk.1; have := hk.2; have := HZ23.out; have := HW12.out; omega)
    clear hbx hsx H3 HA3 HB3 HZ23
    go_upto_region 4 with fail
    try rw [hN]
    clear hN
    generalize w3.alloc (.cells #[.int .i64 D.room, .slice none D.fs.length 0, .bool D.down, .int .i64 (-1), .int .u64 (D.st : Int)] 30) = w4 at H4 HA4 HN4 HB4 ⊢
    go_wp2_with fail
    go_loopg [39] n (fun kx s39 wr => ∃ (i : Nat) (S : Nat → Prop) (D : Dd) (a : Option Addr) (c : Nat) (ar : Int), s39 = .int .i64 (i : Int) ∧ i ≤ n ∧ n - i ≤ kx ∧ Hid (DK S wr B D) ∧ Hid (RA S wr D a ar) ∧ Hid (wr.heap[N]? = some (.cells #[.int .i64 D.room, .slice a D.fs.length c, .bool D.down, .int .i64 ar, .int .u64 (D.st : Int)] 30 (0, 0))) ∧ Hid (Below w.heap.size w wr) ∧ Hid (∀ k, S k → w.heap.size ≤ k ∧ k ≠ N) ∧ Hid (D.st ≤ i))
    case atStart => exact ⟨0, _, D, none, 0, -1, rfl, by omega, by omega, Lib.hid ⟨m, mt, M, V, H4.out⟩, HA4, HN4, HB4, HSN, HD0⟩
    case round =>
      clear H4 HA4 HN4 HB4 HSN HD0
      obtain ⟨i, S, D, a, c, ar, rfl, hi, hix, HDK, HA, HN, HB, HSN, HST⟩ := hrel
      obtain ⟨w4, rfl⟩ : ∃ W, W = wr := ⟨_, rfl⟩
      by_cases hlt : i < n
      · have hltz : (i : Int) < (n : Int) := by omega
        have hi0 : (0 : Int) ≤ (i : Int) := by omega
        have HWI : Hid (wrap64 ((i : Int) + 1) = (i : Int) + 1) := Lib.hid (IntWalk.wrap64_in _ (by have := HLT.out.1; omega))
        obtain ⟨hok, htr, b, o, rfl, hbb, hbw, k0, k1, k2, k3, k4, k5⟩ := (HO.out.below HB.out) i hlt
        obtain ⟨y, hy⟩ : ∃ y, O i = y := ⟨_, rfl⟩
        have HLY := Lib.hid (HLT.out.2 i hlt)
        rw [hy] at hok htr k0 k1 k2 k3 k4 k5 HLY
        have HOK := Lib.hid hok
        have HTR := Lib.hid htr
        obtain ⟨m, mt, M, V, hk⟩ := HDK.out
        obtain ⟨hb5, hs5, hz5⟩ := box1 w4 #[.int .i64 y.kd, .int .i64 y.n, encStr y.nm, encStr y.tt, encStr y.tx, .slice y.a y.ts.length y.c] 34
        have H5 := Lib.hid (hk.below hb5)
        have HA5 := Lib.hid (HA.out.below hb5)
        have HN5 := Lib.hid (ex_below HN.out hb5)
        have HB5 := Lib.hid (HB.out.trans (hb5.mono HB.out.size))
        have HTR5 := Lib.hid (HTR.out.blb (hb5.mono HB.out.size))
        obtain ⟨NO, hNO⟩ : ∃ NO, w4.heap.size = NO := ⟨_, rfl⟩
        rw [hNO] at hs5
        have HO5 := Lib.hid hs5
        clear hy hok htr hbb hbw hk hb5 hs5 hz5 HDK HA HN HB HTR hlt
        go_upto_region 7 with fail
        try rw [hNO]
        clear hNO k0 k1 k2 k3 k4 k5
        generalize w4.alloc (.cells #[.int .i64 y.kd, .int .i64 y.n, encStr y.nm, encStr y.tt, encStr y.tx, .slice y.a y.ts.length y.c] 34) = w5 at H5 HA5 HN5 HB5 HTR5 HO5 ⊢
        obtain ⟨c0', c1, c2, c3, c4⟩ := five_rd HN5.out
        obtain ⟨q0, q1, q2, q3, q4, q5⟩ := six_rd HO5.out
        have HC := Lib.hid (do_any (B0 := w.heap.size) c H5.out HA5.out (by have := HST.out; have := HLT.out.1; omega) (fun k hk => (HSN.out k hk).1) HB5.out.size y HOK.out HTR5.out HLY.out)
        unfold OqV RVal at HC
        go_wp2_with fail
        refine HC.out.mono ?_
        rintro e w6 ⟨S1, ra1, rc1, rr1, rfl, hdk, hfr, hra⟩
        clear HC c0' c1 c2 c3 c4 q0 q1 q2 q3 q4 q5
        obtain ⟨D1, hD1⟩ : ∃ D1, opD D y = D1 := ⟨_, rfl⟩
        have HST1 : Hid (D1.st ≤ i + 1) := Lib.hid (by have h1 := op_st D y; rw [hD1] at h1; have := HST.out; omega)
        rw [hD1] at hdk hra
        unfold RVal
        try rw [hD1]
        clear hD1
        dsimp only
        have hNs : ¬ S N := fun hs => (HSN.out N hs).2 rfl
        have hNo := hfr.out (ex_lt HN5.out) hNs
        have HN6 := Lib.hid (hNo.1.trans HN5.out)
        have HSN1 : Hid (∀ k, S1 k → w.heap.size ≤ k ∧ k ≠ N) := Lib.hid (fun k hk => by
          rcases hfr.2.2 k hk with h1 | h1
          · exact HSN.out k h1
          · have := HB5.out.size
            have := ex_lt HN5.out
            exact ⟨by omega, by omega⟩)
        have HB6 := Lib.hid (HB5.out.trans (hfr.1.toBelow HB5.out.size (fun k hk => (HSN.out k hk).1)))
        have HDK6 := Lib.hid hdk
        have HA6 := Lib.hid hra
        clear hdk hfr hra hNs hNo H5 HA5 HN5 HB5 HTR5 HO5 HOK HLY
        obtain ⟨hbx, hsx, -⟩ := box1 w6 #[.int .i64 D1.room, .slice ra1 D1.fs.length rc1, .bool D1.down, .int .i64 rr1, .int .u64 (D1.st : Int)] 30
        obtain ⟨NX, hNX⟩ : ∃ NX, w6.heap.size = NX := ⟨_, rfl⟩
        rw [hNX] at hsx
        have HX6 := Lib.hid hsx
        have HDK7 := Lib.hid (HDK6.out.below hbx)
        have HA7 := Lib.hid (HA6.out.below hbx)
        have HN7 := Lib.hid (ex_below HN6.out hbx)
        have HB7 := Lib.hid (HB6.out.trans (hbx.mono HB6.out.size))
        clear hbx hsx HDK6 HA6 HN6 HB6
        go_upto_region 8 with fail
        try rw [hNX]
        clear hNX
        generalize w6.alloc (.cells #[.int .i64 D1.room, .slice ra1 D1.fs.length rc1, .bool D1.down, .int .i64 rr1, .int .u64 (D1.st : Int)] 30) = w6' at HX6 HDK7 HA7 HN7 HB7 ⊢
        obtain ⟨x0, x1, x2, x3, x4⟩ := five_rd HX6.out
        obtain ⟨c0', c1, c2, c3, c4⟩ := five_rd HN7.out
        have fz : ∀ o, w6'.frozen? ⟨N, o, none⟩ = false := fun o => by simp [World.frozen?, HN7.out]
        have HN7' := Lib.hid (set5 HN7.out (.int .i64 D1.room) (.slice ra1 D1.fs.length rc1) (.bool D1.down) (.int .i64 rr1) (.int .u64 (D1.st : Int)))
        have hoff : ∀ k, k ≠ N → (((((w6'.setCell ⟨N, 0, none⟩ (.int .i64 D1.room)).setCell ⟨N, 1, none⟩ (.slice ra1 D1.fs.length rc1)).setCell ⟨N, 2, none⟩ (.bool D1.down)).setCell ⟨N, 3, none⟩ (.int .i64 rr1)).setCell ⟨N, 4, none⟩ (.int .u64 (D1.st : Int))).heap[k]? = w6'.heap[k]? := fun k hk => set5_out hk _ _ _ _ _
        have HA7' := Lib.hid (HA7.out.box5 (W := (((((w6'.setCell ⟨N, 0, none⟩ (.int .i64 D1.room)).setCell ⟨N, 1, none⟩ (.slice ra1 D1.fs.length rc1)).setCell ⟨N, 2, none⟩ (.bool D1.down)).setCell ⟨N, 3, none⟩ (.int .i64 rr1)).setCell ⟨N, 4, none⟩ (.int .u64 (D1.st : Int)))) HN7.out hoff (by simp))
        have HDK7' : Hid (DK S1 (((((w6'.setCell ⟨N, 0, none⟩ (.int .i64 D1.room)).setCell ⟨N, 1, none⟩ (.slice ra1 D1.fs.length rc1)).setCell ⟨N, 2, none⟩ (.bool D1.down)).setCell ⟨N, 3, none⟩ (.int .i64 rr1)).setCell ⟨N, 4, none⟩ (.int .u64 (D1.st : Int))) B D1) := Lib.hid (by
          obtain ⟨m, mt, M, V, hk⟩ := HDK7.out
          exact ⟨m, mt, M, V, hk.move (by simp) (fun k _ hs => hoff k (HSN1.out k hs).2)⟩)
        have HB7' := Lib.hid (below_two (below_two (below_two (below_two (below_two (HB7.out) (show w.heap.size ≤ N from HNB.out) 0 (.int .i64 D1.room)) (show w.heap.size ≤ N from HNB.out) 1 (.slice ra1 D1.fs.length rc1)) (show w.heap.size ≤ N from HNB.out) 2 (.bool D1.down)) (show w.heap.size ≤ N from HNB.out) 3 (.int .i64 rr1)) (show w.heap.size ≤ N from HNB.out) 4 (.int .u64 (D1.st : Int)))
        clear hoff HX6 HN7 HA7 HDK7 HB7
        go_upto_region 9 with fail
        generalize (((((w6'.setCell ⟨N, 0, none⟩ (.int .i64 D1.room)).setCell ⟨N, 1, none⟩ (.slice ra1 D1.fs.length rc1)).setCell ⟨N, 2, none⟩ (.bool D1.down)).setCell ⟨N, 3, none⟩ (.int .i64 rr1)).setCell ⟨N, 4, none⟩ (.int .u64 (D1.st : Int))) = w7 at HN7' HA7' HDK7' HB7' ⊢
        clear x0 x1 x2 x3 x4 c0' c1 c2 c3 c4 fz
        obtain ⟨m1, mt1, M1, V1, hk7⟩ := HDK7'.out
        have H7 := Lib.hid hk7
        have HFT1 := Lib.hid hk7.fit
        clear hk7 HDK7'
        go_wp2_with fail
        refine (dnames H7.out).mono ?_
        rintro e w8 ⟨nv, rfl, hoz, hb⟩
        have H8 := Lib.hid (H7.out.below hb)
        have HA8 := Lib.hid (HA7'.out.below hb)
        have HN8 := Lib.hid (ex_below HN7'.out hb)
        have HB8 := Lib.hid (HB7'.out.trans (hb.mono HB7'.out.size))
        have HZ8 := Lib.hid hoz
        obtain ⟨na, nc, hnv, -⟩ := hoz.cells
        obtain ⟨ln, hln⟩ : ∃ ln, D1.fs.length = ln := ⟨_, rfl⟩
        have hkl : (keysF D1.fs).length = ln := by unfold keysF; rw [List.length_map, hln]
        rw [hkl] at hnv
        subst hnv
        have HLN1 := Lib.hid hln
        rw [hln] at HN8
        clear hoz hb hkl hln H7 HA7' HN7' HB7'
        go_upto_region 10 with fail
        have HN_u1 : Hid (w8.drew.heap[N]? = some (.cells #[.int .i64 D1.room, .slice ra1 ln rc1, .bool D1.down, .int .i64 rr1, .int .u64 (D1.st : Int)] 30 (0, 0))) := Lib.hid HN8.out
        have H_u1 : Hid (DKx S1 w8.drew B m1 mt1 D1 M1 V1) := Lib.hid (H8.out.move (Nat.le_refl _) (fun _ _ _ => rfl))
        have HA_u1 : Hid (RA S1 w8.drew D1 ra1 rr1) := Lib.hid (HA8.out.below ((Below.refl _ w8).drew))
        have HZ_u1 : Hid (OZ w8.drew w7.heap.size (.slice na ln nc) (keysF D1.fs)) := Lib.hid (HZ8.out.below ((Below.refl _ w8).drew))
        have HB_u1 : Hid (Below w.heap.size w w8.drew) := Lib.hid HB8.out.drew
        have HS0 : Hid ((fun W : World => W.heap[N]? = some (.cells #[.int .i64 D1.room, .slice ra1 ln rc1, .bool D1.down, .int .i64 rr1, .int .u64 (D1.st : Int)] 30 (0, 0))) w8.drew) := Lib.hid HN_u1.out
        refine wp_region_held_drew (S := (fun W : World => W.heap[N]? = some (.cells #[.int .i64 D1.room, .slice ra1 ln rc1, .bool D1.down, .int .i64 rr1, .int .u64 (D1.st : Int)] 30 (0, 0)))) (by kernel_rfl) HS0.out (fun hHeld => ?_)
        clear hHeld HN8 H8 HA8 HZ8 HB8
        generalize w8.drew = u1 at HN_u1 H_u1 HA_u1 HZ_u1 HB_u1 HS0 ⊢
        refine wpAnyH_take (i := 0) (oi := { dst := some 53, op := Go.Op.move (Go.Operand.tmp 10), type := 4, pos := "law.go:107", after := #[], guard := none }) (v := ?_) rfl (by kernel_rfl) (by kernel_rfl) (by kernel_rfl) (fun _ _ _ h => h) (Or.inl ⟨by rfl, ?_⟩) HS0.out ?_
        case refine_2 => (intro w1 hS1; clear hS1; go_simp; try with_reducible rfl)
        try simp only [Act.put, List.setIfInBounds_toArray, List.set_cons_zero, List.set_cons_succ]
        refine wpAnyH_take (i := 1) (oi := { dst := some 54, op := Go.Op.unOp Go.UnOp.not 4 (Go.Operand.tmp 53), type := 4, pos := "law.go:107", after := #[{ on := 0, ground := Go.Ground.data }], guard := none }) (v := .bool false) rfl (by kernel_rfl) (by kernel_rfl) (by kernel_rfl) (fun _ _ _ h => h) (Or.inl ⟨by rfl, ?_⟩) HS0.out ?_
        case refine_1 => (intro w1 hS1; clear hS1; go_simp; try with_reducible rfl)
        try simp only [Act.put, List.setIfInBounds_toArray, List.set_cons_zero, List.set_cons_succ]
        refine wpAnyH_take (i := 2) (oi := { dst := some 55, op := Go.Op.move (Go.Operand.tmp 54), type := 4, pos := "law.go:107", after := #[{ on := 1, ground := Go.Ground.data }], guard := none }) (v := ?_) rfl (by kernel_rfl) (by kernel_rfl) (by kernel_rfl) (fun _ _ _ h => h) (Or.inl ⟨by rfl, ?_⟩) HS0.out ?_
        case refine_2 => (intro w1 hS1; clear hS1; go_simp; try with_reducible rfl)
        try simp only [Act.put, List.setIfInBounds_toArray, List.set_cons_zero, List.set_cons_succ]
        refine wpAnyH_take (i := 3) (oi := { dst := some 56, op := Go.Op.move (Go.Operand.tmp 5), type := 24, pos := "law.go:107", after := #[{ on := 2, ground := Go.Ground.guard }], guard := some (2, false) }) (v := ?_) rfl (by kernel_rfl) (by kernel_rfl) (by kernel_rfl) (fun _ _ _ h => h) (Or.inl ⟨by rfl, ?_⟩) HS0.out ?_
        case refine_2 => (intro w1 hS1; clear hS1; go_simp; try with_reducible rfl)
        try simp only [Act.put, List.setIfInBounds_toArray, List.set_cons_zero, List.set_cons_succ]
        refine wpAnyH_take (i := 5) (oi := { dst := some 58, op := Go.Op.fieldAddr 30 (Go.Operand.tmp 6) 2, type := 0, pos := "law.go:107", after := #[{ on := 2, ground := Go.Ground.guard }], guard := some (2, false) }) (v := ?_) rfl (by kernel_rfl) (by kernel_rfl) (by kernel_rfl) (fun _ _ _ h => h) (Or.inl ⟨by rfl, ?_⟩) HS0.out ?_
        case refine_2 => (intro w1 hS1; clear hS1; go_simp; try with_reducible rfl)
        try simp only [Act.put, List.setIfInBounds_toArray, List.set_cons_zero, List.set_cons_succ]
        refine wpAnyH_take (i := 6) (oi := { dst := some 59, op := Go.Op.load 4 (Go.Operand.tmp 58), type := 4, pos := "law.go:107", after := #[{ on := 5, ground := Go.Ground.data }, { on := 2, ground := Go.Ground.guard }], guard := some (2, false) }) (v := .bool D1.down) rfl (by kernel_rfl) (by kernel_rfl) (by kernel_rfl) (fun _ _ _ h => h) (Or.inl ⟨by rfl, ?_⟩) HS0.out ?_
        case refine_1 => (intro w1 hS1; obtain ⟨x0, x1, x2, x3, x4⟩ := five_rd hS1; clear hS1; go_simp; try with_reducible rfl)
        try simp only [Act.put, List.setIfInBounds_toArray, List.set_cons_zero, List.set_cons_succ]
        refine wpAnyH_ready (rs := [4]) (by kernel_rfl) (by simp) ?_
        refine AllReadyH.cons (o := { dst := some 57, op := Go.Op.call { callee := Go.Callee.value (Go.Operand.func 18), args := #[Go.Operand.tmp 56], argTypes := #[24] }, type := 4, pos := "law.go:107", after := #[{ on := 3, ground := Go.Ground.data }, { on := 2, ground := Go.Ground.chain }, { on := 2, ground := Go.Ground.guard }], guard := some (2, false) }) rfl (fun K hK => ?_) AllReadyH.nil
        go_simp
        refine (ddown_any H_u1.out).mono ?_
        rintro e u2 ⟨rfl, rfl⟩
        refine hK.out _ _ HS0.out (fun hHeld => ?_)
        clear hK K hHeld
        try simp only [Act.put, List.setIfInBounds_toArray, List.set_cons_zero, List.set_cons_succ]
        refine wpAnyH_take (i := 7) (oi := { dst := some 60, op := Go.Op.binOp Go.BinOp.neq 4 (Go.Operand.tmp 57) (Go.Operand.tmp 59) 4, type := 4, pos := "law.go:107", after := #[{ on := 4, ground := Go.Ground.data }, { on := 6, ground := Go.Ground.data }, { on := 2, ground := Go.Ground.guard }], guard := some (2, false) }) (v := .bool false) rfl (by kernel_rfl) (by kernel_rfl) (by kernel_rfl) (fun _ _ _ h => h) (Or.inl ⟨by rfl, ?_⟩) HS0.out ?_
        case refine_1 => (intro w1 hS1; clear hS1; go_simp; try with_reducible rfl)
        try simp only [Act.put, List.setIfInBounds_toArray, List.set_cons_zero, List.set_cons_succ]
        refine wpAnyH_take (i := 8) (oi := { dst := some 61, op := Go.Op.pick (Go.Operand.tmp 55) (Go.Operand.const (Go.Value.bool true)) (Go.Operand.tmp 60), type := 4, pos := "law.go:107", after := #[{ on := 2, ground := Go.Ground.data }, { on := 7, ground := Go.Ground.data }], guard := none }) (v := .bool false) rfl (by kernel_rfl) (by kernel_rfl) (by kernel_rfl) (fun _ _ _ h => h) (Or.inl ⟨by rfl, ?_⟩) HS0.out ?_
        case refine_1 => (intro w1 hS1; clear hS1; go_simp; try with_reducible rfl)
        try simp only [Act.put, List.setIfInBounds_toArray, List.set_cons_zero, List.set_cons_succ]
        refine wpAnyH_take (i := 9) (oi := { dst := some 62, op := Go.Op.move (Go.Operand.tmp 61), type := 4, pos := "law.go:107", after := #[{ on := 8, ground := Go.Ground.data }, { on := 4, ground := Go.Ground.chain }], guard := none }) (v := ?_) rfl (by kernel_rfl) (by kernel_rfl) (by kernel_rfl) (fun _ _ _ h => h) (Or.inl ⟨by rfl, ?_⟩) HS0.out ?_
        case refine_2 => (intro w1 hS1; clear hS1; go_simp; try with_reducible rfl)
        try simp only [Act.put, List.setIfInBounds_toArray, List.set_cons_zero, List.set_cons_succ]
        refine wpAnyH_take (i := 10) (oi := { dst := some 63, op := Go.Op.move (Go.Operand.tmp 5), type := 24, pos := "law.go:107", after := #[{ on := 9, ground := Go.Ground.guard }], guard := some (9, false) }) (v := ?_) rfl (by kernel_rfl) (by kernel_rfl) (by kernel_rfl) (fun _ _ _ h => h) (Or.inl ⟨by rfl, ?_⟩) HS0.out ?_
        case refine_2 => (intro w1 hS1; clear hS1; go_simp; try with_reducible rfl)
        try simp only [Act.put, List.setIfInBounds_toArray, List.set_cons_zero, List.set_cons_succ]
        refine wpAnyH_take (i := 12) (oi := { dst := some 65, op := Go.Op.load 30 (Go.Operand.tmp 6), type := 30, pos := "law.go:107", after := #[{ on := 9, ground := Go.Ground.guard }], guard := some (9, false) }) (v := .agg #[.int .i64 D1.room, .slice ra1 ln rc1, .bool D1.down, .int .i64 rr1, .int .u64 (D1.st : Int)]) rfl (by kernel_rfl) (by kernel_rfl) (by kernel_rfl) (fun _ _ _ h => h) (Or.inl ⟨by rfl, ?_⟩) HS0.out ?_
        case refine_1 => (intro w1 hS1; obtain ⟨x0, x1, x2, x3, x4⟩ := five_rd hS1; clear hS1; go_simp; try with_reducible rfl)
        try simp only [Act.put, List.setIfInBounds_toArray, List.set_cons_zero, List.set_cons_succ]
        refine wpAnyH_ready (rs := [11]) (by kernel_rfl) (by simp) ?_
        refine AllReadyH.cons (o := { dst := some 64, op := Go.Op.call { callee := Go.Callee.value (Go.Operand.func 19), args := #[Go.Operand.tmp 63], argTypes := #[24] }, type := 3, pos := "law.go:107", after := #[{ on := 10, ground := Go.Ground.data }, { on := 9, ground := Go.Ground.chain }, { on := 9, ground := Go.Ground.guard }], guard := some (9, false) }) rfl (fun K hK => ?_) AllReadyH.nil
        go_simp
        refine (dfree H_u1.out).mono ?_
        rintro e u2 ⟨rfl, hb⟩
        have H_u2 := Lib.hid (H_u1.out.below hb)
        have HA_u2 := Lib.hid (HA_u1.out.below hb)
        have HN_u2 := Lib.hid (ex_below HN_u1.out hb)
        have HZ_u2 := Lib.hid (HZ_u1.out.below hb)
        have HB_u2 := Lib.hid (HB_u1.out.trans (hb.mono HB_u1.out.size))
        have HS0' : Hid ((fun W : World => W.heap[N]? = some (.cells #[.int .i64 D1.room, .slice ra1 ln rc1, .bool D1.down, .int .i64 rr1, .int .u64 (D1.st : Int)] 30 (0, 0))) u2) := Lib.hid HN_u2.out
        clear hb HS0 H_u1 HA_u1 HN_u1 HZ_u1 HB_u1
        have HS0 := HS0'
        clear HS0'
        refine hK.out _ _ HS0.out (fun hHeld => ?_)
        clear hK K hHeld
        try simp only [Act.put, List.setIfInBounds_toArray, List.set_cons_zero, List.set_cons_succ]
        refine wpAnyH_ready (rs := [13]) (by kernel_rfl) (by simp) ?_
        refine AllReadyH.cons (o := { dst := some 66, op := Go.Op.call { callee := Go.Callee.value (Go.Operand.func 20), args := #[Go.Operand.tmp 65], argTypes := #[30] }, type := 3, pos := "law.go:107", after := #[{ on := 12, ground := Go.Ground.data }, { on := 11, ground := Go.Ground.chain }, { on := 9, ground := Go.Ground.guard }], guard := some (9, false) }) rfl (fun K hK => ?_) AllReadyH.nil
        go_simp
        have HC := Lib.hid (rfree_any (c := rc1) HA_u2.out HFT1.out (fun k hk => H_u2.out.bd k hk))
        unfold RVal at HC
        rw [HLN1.out] at HC
        refine HC.out.mono ?_
        rintro e u3 ⟨rfl, hb⟩
        clear HC
        have H_u3 := Lib.hid (H_u2.out.below hb)
        have HA_u3 := Lib.hid (HA_u2.out.below hb)
        have HN_u3 := Lib.hid (ex_below HN_u2.out hb)
        have HZ_u3 := Lib.hid (HZ_u2.out.below hb)
        have HB_u3 := Lib.hid (HB_u2.out.trans (hb.mono HB_u2.out.size))
        have HS0' : Hid ((fun W : World => W.heap[N]? = some (.cells #[.int .i64 D1.room, .slice ra1 ln rc1, .bool D1.down, .int .i64 rr1, .int .u64 (D1.st : Int)] 30 (0, 0))) u3) := Lib.hid HN_u3.out
        clear hb HS0 H_u2 HA_u2 HN_u2 HZ_u2 HB_u2
        have HS0 := HS0'
        clear HS0'
        refine hK.out _ _ HS0.out (fun hHeld => ?_)
        clear hK K hHeld
        try simp only [Act.put, List.setIfInBounds_toArray, List.set_cons_zero, List.set_cons_succ]
        refine wpAnyH_take (i := 14) (oi := { dst := some 67, op := Go.Op.binOp Go.BinOp.neq 3 (Go.Operand.tmp 64) (Go.Operand.tmp 66) 3, type := 4, pos := "law.go:107", after := #[{ on := 11, ground := Go.Ground.data }, { on := 13, ground := Go.Ground.data }, { on := 9, ground := Go.Ground.guard }], guard := some (9, false) }) (v := .bool false) rfl (by kernel_rfl) (by kernel_rfl) (by kernel_rfl) (fun _ _ _ h => h) (Or.inl ⟨by rfl, ?_⟩) HS0.out ?_
        case refine_1 => (intro w1 hS1; clear hS1; go_simp; try with_reducible rfl)
        try simp only [Act.put, List.setIfInBounds_toArray, List.set_cons_zero, List.set_cons_succ]
        refine wpAnyH_take (i := 15) (oi := { dst := some 68, op := Go.Op.pick (Go.Operand.tmp 62) (Go.Operand.const (Go.Value.bool true)) (Go.Operand.tmp 67), type := 4, pos := "law.go:107", after := #[{ on := 9, ground := Go.Ground.data }, { on := 14, ground := Go.Ground.data }], guard := none }) (v := .bool false) rfl (by kernel_rfl) (by kernel_rfl) (by kernel_rfl) (fun _ _ _ h => h) (Or.inl ⟨by rfl, ?_⟩) HS0.out ?_
        case refine_1 => (intro w1 hS1; clear hS1; go_simp; try with_reducible rfl)
        try simp only [Act.put, List.setIfInBounds_toArray, List.set_cons_zero, List.set_cons_succ]
        refine wpAnyH_take (i := 16) (oi := { dst := some 69, op := Go.Op.move (Go.Operand.tmp 68), type := 4, pos := "law.go:107", after := #[{ on := 15, ground := Go.Ground.data }, { on := 13, ground := Go.Ground.chain }], guard := none }) (v := ?_) rfl (by kernel_rfl) (by kernel_rfl) (by kernel_rfl) (fun _ _ _ h => h) (Or.inl ⟨by rfl, ?_⟩) HS0.out ?_
        case refine_2 => (intro w1 hS1; clear hS1; go_simp; try with_reducible rfl)
        try simp only [Act.put, List.setIfInBounds_toArray, List.set_cons_zero, List.set_cons_succ]
        refine wpAnyH_take (i := 17) (oi := { dst := some 70, op := Go.Op.move (Go.Operand.tmp 5), type := 24, pos := "law.go:107", after := #[{ on := 16, ground := Go.Ground.guard }], guard := some (16, false) }) (v := ?_) rfl (by kernel_rfl) (by kernel_rfl) (by kernel_rfl) (fun _ _ _ h => h) (Or.inl ⟨by rfl, ?_⟩) HS0.out ?_
        case refine_2 => (intro w1 hS1; clear hS1; go_simp; try with_reducible rfl)
        try simp only [Act.put, List.setIfInBounds_toArray, List.set_cons_zero, List.set_cons_succ]
        refine wpAnyH_take (i := 19) (oi := { dst := some 72, op := Go.Op.fieldAddr 30 (Go.Operand.tmp 6) 4, type := 0, pos := "law.go:107", after := #[{ on := 16, ground := Go.Ground.guard }], guard := some (16, false) }) (v := ?_) rfl (by kernel_rfl) (by kernel_rfl) (by kernel_rfl) (fun _ _ _ h => h) (Or.inl ⟨by rfl, ?_⟩) HS0.out ?_
        case refine_2 => (intro w1 hS1; clear hS1; go_simp; try with_reducible rfl)
        try simp only [Act.put, List.setIfInBounds_toArray, List.set_cons_zero, List.set_cons_succ]
        refine wpAnyH_take (i := 20) (oi := { dst := some 73, op := Go.Op.load 28 (Go.Operand.tmp 72), type := 28, pos := "law.go:107", after := #[{ on := 19, ground := Go.Ground.data }, { on := 16, ground := Go.Ground.guard }], guard := some (16, false) }) (v := .int .u64 (D1.st : Int)) rfl (by kernel_rfl) (by kernel_rfl) (by kernel_rfl) (fun _ _ _ h => h) (Or.inl ⟨by rfl, ?_⟩) HS0.out ?_
        case refine_1 => (intro w1 hS1; obtain ⟨x0, x1, x2, x3, x4⟩ := five_rd hS1; clear hS1; go_simp; try with_reducible rfl)
        try simp only [Act.put, List.setIfInBounds_toArray, List.set_cons_zero, List.set_cons_succ]
        refine wpAnyH_ready (rs := [18]) (by kernel_rfl) (by simp) ?_
        refine AllReadyH.cons (o := { dst := some 71, op := Go.Op.call { callee := Go.Callee.value (Go.Operand.func 21), args := #[Go.Operand.tmp 70], argTypes := #[24] }, type := 28, pos := "law.go:107", after := #[{ on := 17, ground := Go.Ground.data }, { on := 16, ground := Go.Ground.chain }, { on := 16, ground := Go.Ground.guard }], guard := some (16, false) }) rfl (fun K hK => ?_) AllReadyH.nil
        go_simp
        refine (dsteps_any H_u3.out).mono ?_
        rintro e u4 ⟨rfl, rfl⟩
        refine hK.out _ _ HS0.out (fun hHeld => ?_)
        clear hK K hHeld
        try simp only [Act.put, List.setIfInBounds_toArray, List.set_cons_zero, List.set_cons_succ]
        refine wpAnyH_take (i := 21) (oi := { dst := some 74, op := Go.Op.binOp Go.BinOp.neq 28 (Go.Operand.tmp 71) (Go.Operand.tmp 73) 28, type := 4, pos := "law.go:107", after := #[{ on := 18, ground := Go.Ground.data }, { on := 20, ground := Go.Ground.data }, { on := 16, ground := Go.Ground.guard }], guard := some (16, false) }) (v := .bool false) rfl (by kernel_rfl) (by kernel_rfl) (by kernel_rfl) (fun _ _ _ h => h) (Or.inl ⟨by rfl, ?_⟩) HS0.out ?_
        case refine_1 => (intro w1 hS1; clear hS1; go_simp; try with_reducible rfl)
        try simp only [Act.put, List.setIfInBounds_toArray, List.set_cons_zero, List.set_cons_succ]
        refine wpAnyH_take (i := 22) (oi := { dst := some 75, op := Go.Op.pick (Go.Operand.tmp 69) (Go.Operand.const (Go.Value.bool true)) (Go.Operand.tmp 74), type := 4, pos := "law.go:107", after := #[{ on := 16, ground := Go.Ground.data }, { on := 21, ground := Go.Ground.data }], guard := none }) (v := .bool false) rfl (by kernel_rfl) (by kernel_rfl) (by kernel_rfl) (fun _ _ _ h => h) (Or.inl ⟨by rfl, ?_⟩) HS0.out ?_
        case refine_1 => (intro w1 hS1; clear hS1; go_simp; try with_reducible rfl)
        try simp only [Act.put, List.setIfInBounds_toArray, List.set_cons_zero, List.set_cons_succ]
        refine wpAnyH_take (i := 23) (oi := { dst := some 76, op := Go.Op.move (Go.Operand.tmp 75), type := 4, pos := "law.go:107", after := #[{ on := 22, ground := Go.Ground.data }, { on := 18, ground := Go.Ground.chain }], guard := none }) (v := ?_) rfl (by kernel_rfl) (by kernel_rfl) (by kernel_rfl) (fun _ _ _ h => h) (Or.inl ⟨by rfl, ?_⟩) HS0.out ?_
        case refine_2 => (intro w1 hS1; clear hS1; go_simp; try with_reducible rfl)
        try simp only [Act.put, List.setIfInBounds_toArray, List.set_cons_zero, List.set_cons_succ]
        refine wpAnyH_take (i := 24) (oi := { dst := some 77, op := Go.Op.move (Go.Operand.tmp 5), type := 24, pos := "law.go:107", after := #[{ on := 23, ground := Go.Ground.guard }], guard := some (23, false) }) (v := ?_) rfl (by kernel_rfl) (by kernel_rfl) (by kernel_rfl) (fun _ _ _ h => h) (Or.inl ⟨by rfl, ?_⟩) HS0.out ?_
        case refine_2 => (intro w1 hS1; clear hS1; go_simp; try with_reducible rfl)
        try simp only [Act.put, List.setIfInBounds_toArray, List.set_cons_zero, List.set_cons_succ]
        refine wpAnyH_take (i := 26) (oi := { dst := some 79, op := Go.Op.fieldAddr 30 (Go.Operand.tmp 6) 1, type := 0, pos := "law.go:107", after := #[{ on := 23, ground := Go.Ground.guard }], guard := some (23, false) }) (v := ?_) rfl (by kernel_rfl) (by kernel_rfl) (by kernel_rfl) (fun _ _ _ h => h) (Or.inl ⟨by rfl, ?_⟩) HS0.out ?_
        case refine_2 => (intro w1 hS1; clear hS1; go_simp; try with_reducible rfl)
        try simp only [Act.put, List.setIfInBounds_toArray, List.set_cons_zero, List.set_cons_succ]
        refine wpAnyH_take (i := 27) (oi := { dst := some 80, op := Go.Op.load 27 (Go.Operand.tmp 79), type := 27, pos := "law.go:107", after := #[{ on := 26, ground := Go.Ground.data }, { on := 23, ground := Go.Ground.guard }], guard := some (23, false) }) (v := .slice ra1 ln rc1) rfl (by kernel_rfl) (by kernel_rfl) (by kernel_rfl) (fun _ _ _ h => h) (Or.inl ⟨by rfl, ?_⟩) HS0.out ?_
        case refine_1 => (intro w1 hS1; obtain ⟨x0, x1, x2, x3, x4⟩ := five_rd hS1; clear hS1; go_simp; try with_reducible rfl)
        try simp only [Act.put, List.setIfInBounds_toArray, List.set_cons_zero, List.set_cons_succ]
        refine wpAnyH_ready (rs := [25]) (by kernel_rfl) (by simp) ?_
        refine AllReadyH.cons (o := { dst := some 78, op := Go.Op.call { callee := Go.Callee.value (Go.Operand.func 23), args := #[Go.Operand.tmp 77], argTypes := #[24] }, type := 27, pos := "law.go:107", after := #[{ on := 24, ground := Go.Ground.data }, { on := 23, ground := Go.Ground.chain }, { on := 23, ground := Go.Ground.guard }], guard := some (23, false) }) rfl (fun K hK => ?_) AllReadyH.nil
        go_simp
        refine (lfiles H_u3.out).mono ?_
        rintro e u4 ⟨fv, rfl, hof, hb⟩
        obtain ⟨fa, fc, hfv, hfr⟩ := hof.row
        rw [HLN1.out] at hfv
        subst hfv
        have HFR := Lib.hid hfr
        clear hof hfr
        have H_u4 := Lib.hid (H_u3.out.below hb)
        have HA_u4 := Lib.hid (HA_u3.out.below hb)
        have HN_u4 := Lib.hid (ex_below HN_u3.out hb)
        have HZ_u4 := Lib.hid (HZ_u3.out.below hb)
        have HB_u4 := Lib.hid (HB_u3.out.trans (hb.mono HB_u3.out.size))
        have HS0' : Hid ((fun W : World => W.heap[N]? = some (.cells #[.int .i64 D1.room, .slice ra1 ln rc1, .bool D1.down, .int .i64 rr1, .int .u64 (D1.st : Int)] 30 (0, 0))) u4) := Lib.hid HN_u4.out
        clear hb HS0 H_u3 HA_u3 HN_u3 HZ_u3 HB_u3
        have HS0 := HS0'
        clear HS0'
        refine hK.out _ _ HS0.out (fun hHeld => ?_)
        clear hK K hHeld
        try simp only [Act.put, List.setIfInBounds_toArray, List.set_cons_zero, List.set_cons_succ]
        refine wpAnyH_ready (rs := [28]) (by kernel_rfl) (by simp) ?_
        refine AllReadyH.cons (o := { dst := some 81, op := Go.Op.call { callee := Go.Callee.value (Go.Operand.func 22), args := #[Go.Operand.tmp 78, Go.Operand.tmp 80], argTypes := #[27, 27] }, type := 4, pos := "law.go:107", after := #[{ on := 25, ground := Go.Ground.data }, { on := 27, ground := Go.Ground.data }, { on := 25, ground := Go.Ground.chain }, { on := 23, ground := Go.Ground.guard }], guard := some (23, false) }) rfl (fun K hK => ?_) AllReadyH.nil
        go_simp
        have HC := Lib.hid (rsame_yes fa ra1 fc rc1 D1.fs u4 HFR.out HA_u4.out.row (by have := HFT1.out.few; omega))
        rw [HLN1.out] at HC
        refine HC.out.mono ?_
        rintro e u5 ⟨rfl, hb⟩
        clear HC HFR
        have H_u5 := Lib.hid (H_u4.out.below hb)
        have HA_u5 := Lib.hid (HA_u4.out.below hb)
        have HN_u5 := Lib.hid (ex_below HN_u4.out hb)
        have HZ_u5 := Lib.hid (HZ_u4.out.below hb)
        have HB_u5 := Lib.hid (HB_u4.out.trans (hb.mono HB_u4.out.size))
        have HS0' : Hid ((fun W : World => W.heap[N]? = some (.cells #[.int .i64 D1.room, .slice ra1 ln rc1, .bool D1.down, .int .i64 rr1, .int .u64 (D1.st : Int)] 30 (0, 0))) u5) := Lib.hid HN_u5.out
        clear hb HS0 H_u4 HA_u4 HN_u4 HZ_u4 HB_u4
        have HS0 := HS0'
        clear HS0'
        refine hK.out _ _ HS0.out (fun hHeld => ?_)
        clear hK K hHeld
        try simp only [Act.put, List.setIfInBounds_toArray, List.set_cons_zero, List.set_cons_succ]
        refine wpAnyH_take (i := 29) (oi := { dst := some 82, op := Go.Op.unOp Go.UnOp.not 4 (Go.Operand.tmp 81), type := 4, pos := "law.go:107", after := #[{ on := 28, ground := Go.Ground.data }, { on := 23, ground := Go.Ground.guard }], guard := some (23, false) }) (v := .bool false) rfl (by kernel_rfl) (by kernel_rfl) (by kernel_rfl) (fun _ _ _ h => h) (Or.inl ⟨by rfl, ?_⟩) HS0.out ?_
        case refine_1 => (intro w1 hS1; clear hS1; go_simp; try with_reducible rfl)
        try simp only [Act.put, List.setIfInBounds_toArray, List.set_cons_zero, List.set_cons_succ]
        refine wpAnyH_take (i := 30) (oi := { dst := some 83, op := Go.Op.pick (Go.Operand.tmp 76) (Go.Operand.const (Go.Value.bool true)) (Go.Operand.tmp 82), type := 4, pos := "law.go:107", after := #[{ on := 23, ground := Go.Ground.data }, { on := 29, ground := Go.Ground.data }], guard := none }) (v := .bool false) rfl (by kernel_rfl) (by kernel_rfl) (by kernel_rfl) (fun _ _ _ h => h) (Or.inl ⟨by rfl, ?_⟩) HS0.out ?_
        case refine_1 => (intro w1 hS1; clear hS1; go_simp; try with_reducible rfl)
        try simp only [Act.put, List.setIfInBounds_toArray, List.set_cons_zero, List.set_cons_succ]
        refine wpAnyH_take (i := 31) (oi := { dst := some 84, op := Go.Op.move (Go.Operand.tmp 83), type := 4, pos := "law.go:107", after := #[{ on := 30, ground := Go.Ground.data }, { on := 28, ground := Go.Ground.chain }], guard := none }) (v := ?_) rfl (by kernel_rfl) (by kernel_rfl) (by kernel_rfl) (fun _ _ _ h => h) (Or.inl ⟨by rfl, ?_⟩) HS0.out ?_
        case refine_2 => (intro w1 hS1; clear hS1; go_simp; try with_reducible rfl)
        try simp only [Act.put, List.setIfInBounds_toArray, List.set_cons_zero, List.set_cons_succ]
        refine wpAnyH_take (i := 32) (oi := { dst := some 85, op := Go.Op.move (Go.Operand.tmp 11), type := 37, pos := "law.go:107", after := #[{ on := 31, ground := Go.Ground.guard }], guard := some (31, false) }) (v := ?_) rfl (by kernel_rfl) (by kernel_rfl) (by kernel_rfl) (fun _ _ _ h => h) (Or.inl ⟨by rfl, ?_⟩) HS0.out ?_
        case refine_2 => (intro w1 hS1; clear hS1; go_simp; try with_reducible rfl)
        try simp only [Act.put, List.setIfInBounds_toArray, List.set_cons_zero, List.set_cons_succ]
        refine wpAnyH_take (i := 33) (oi := { dst := some 86, op := Go.Op.call { callee := Go.Callee.builtin Go.Builtin.len, args := #[Go.Operand.tmp 85], argTypes := #[37] }, type := 3, pos := "law.go:107", after := #[{ on := 32, ground := Go.Ground.data }, { on := 31, ground := Go.Ground.guard }], guard := some (31, false) }) (v := .int .i64 (ln : Int)) rfl (by kernel_rfl) (by kernel_rfl) (by kernel_rfl) (fun _ _ _ h => h) (Or.inl ⟨by rfl, ?_⟩) HS0.out ?_
        case refine_1 => (intro w1 hS1; clear hS1; go_simp; try with_reducible rfl)
        try simp only [Act.put, List.setIfInBounds_toArray, List.set_cons_zero, List.set_cons_succ]
        refine wpAnyH_take (i := 34) (oi := { dst := some 87, op := Go.Op.fieldAddr 30 (Go.Operand.tmp 6) 1, type := 0, pos := "law.go:107", after := #[{ on := 31, ground := Go.Ground.guard }], guard := some (31, false) }) (v := ?_) rfl (by kernel_rfl) (by kernel_rfl) (by kernel_rfl) (fun _ _ _ h => h) (Or.inl ⟨by rfl, ?_⟩) HS0.out ?_
        case refine_2 => (intro w1 hS1; clear hS1; go_simp; try with_reducible rfl)
        try simp only [Act.put, List.setIfInBounds_toArray, List.set_cons_zero, List.set_cons_succ]
        refine wpAnyH_take (i := 35) (oi := { dst := some 88, op := Go.Op.load 27 (Go.Operand.tmp 87), type := 27, pos := "law.go:107", after := #[{ on := 34, ground := Go.Ground.data }, { on := 31, ground := Go.Ground.guard }], guard := some (31, false) }) (v := .slice ra1 ln rc1) rfl (by kernel_rfl) (by kernel_rfl) (by kernel_rfl) (fun _ _ _ h => h) (Or.inl ⟨by rfl, ?_⟩) HS0.out ?_
        case refine_1 => (intro w1 hS1; obtain ⟨x0, x1, x2, x3, x4⟩ := five_rd hS1; clear hS1; go_simp; try with_reducible rfl)
        try simp only [Act.put, List.setIfInBounds_toArray, List.set_cons_zero, List.set_cons_succ]
        refine wpAnyH_take (i := 36) (oi := { dst := some 89, op := Go.Op.call { callee := Go.Callee.builtin Go.Builtin.len, args := #[Go.Operand.tmp 88], argTypes := #[27] }, type := 3, pos := "law.go:107", after := #[{ on := 35, ground := Go.Ground.data }, { on := 31, ground := Go.Ground.guard }], guard := some (31, false) }) (v := .int .i64 (ln : Int)) rfl (by kernel_rfl) (by kernel_rfl) (by kernel_rfl) (fun _ _ _ h => h) (Or.inl ⟨by rfl, ?_⟩) HS0.out ?_
        case refine_1 => (intro w1 hS1; clear hS1; go_simp; try with_reducible rfl)
        try simp only [Act.put, List.setIfInBounds_toArray, List.set_cons_zero, List.set_cons_succ]
        refine wpAnyH_take (i := 37) (oi := { dst := some 90, op := Go.Op.binOp Go.BinOp.neq 3 (Go.Operand.tmp 86) (Go.Operand.tmp 89) 3, type := 4, pos := "law.go:107", after := #[{ on := 33, ground := Go.Ground.data }, { on := 36, ground := Go.Ground.data }, { on := 31, ground := Go.Ground.guard }], guard := some (31, false) }) (v := .bool false) rfl (by kernel_rfl) (by kernel_rfl) (by kernel_rfl) (fun _ _ _ h => h) (Or.inl ⟨by rfl, ?_⟩) HS0.out ?_
        case refine_1 => (intro w1 hS1; clear hS1; go_simp; try with_reducible rfl)
        try simp only [Act.put, List.setIfInBounds_toArray, List.set_cons_zero, List.set_cons_succ]
        refine wpAnyH_take (i := 38) (oi := { dst := some 91, op := Go.Op.pick (Go.Operand.tmp 84) (Go.Operand.const (Go.Value.bool true)) (Go.Operand.tmp 90), type := 4, pos := "law.go:107", after := #[{ on := 31, ground := Go.Ground.data }, { on := 37, ground := Go.Ground.data }], guard := none }) (v := .bool false) rfl (by kernel_rfl) (by kernel_rfl) (by kernel_rfl) (fun _ _ _ h => h) (Or.inl ⟨by rfl, ?_⟩) HS0.out ?_
        case refine_1 => (intro w1 hS1; clear hS1; go_simp; try with_reducible rfl)
        try simp only [Act.put, List.setIfInBounds_toArray, List.set_cons_zero, List.set_cons_succ]
        refine wpAnyH_done (by kernel_rfl) ?_ _
        obtain ⟨u6, hu6⟩ : ∃ W, u5 = W := ⟨_, rfl⟩
        rw [hu6] at HN_u5 H_u5 HA_u5 HZ_u5 HB_u5 ⊢
        clear hu6 HS0
        obtain ⟨na2, nc2, e2, hcs⟩ := HZ_u5.out.cells
        have hkl : (keysF D1.fs).length = ln := by unfold keysF; rw [List.length_map, HLN1.out]
        injection e2 with e2 e3 e4
        subst e2 e4
        have HNAM : Hid (∀ j (hj : j < D1.fs.length), ∃ g, na = some ⟨g, 0, none⟩ ∧ u6.cell? ⟨g, j, none⟩ = some (encStr (D1.fs[j]).1)) := Lib.hid (fun j hj => by
          obtain ⟨g, e, hg⟩ := hcs j (by rw [hkl, ← HLN1.out]; exact hj)
          refine ⟨g, e, ?_⟩
          rw [hg]; unfold keysF; rw [List.getElem_map])
        have HLE : Hid (ln ≤ 128) := Lib.hid (by rw [← HLN1.out]; exact HFT1.out.few)
        clear hcs hkl e3
        go_wp2_with fail
        go_loopg [94] ln (fun kx s94 wr => ∃ (j : Nat), s94 = .int .i64 (j : Int) ∧ j ≤ ln ∧ ln - j ≤ kx ∧ Hid (Below u6.heap.size u6 wr))
        case atStart => exact ⟨0, rfl, by omega, by omega, Lib.hid (Below.refl _ _)⟩
        case round =>
          obtain ⟨j, rfl, hj, hjx, HBJ⟩ := hrel
          obtain ⟨w9, rfl⟩ : ∃ W, W = wr := ⟨_, rfl⟩
          by_cases hjl : j < ln
          · have hltj : (j : Int) < (ln : Int) := by omega
            have hj0 : (0 : Int) ≤ (j : Int) := by omega
            have HWJ : Hid (wrap64 ((j : Int) + 1) = (j : Int) + 1) := Lib.hid (IntWalk.wrap64_in _ (by have := HLE.out; omega))
            have hjL : j < D1.fs.length := by rw [HLN1.out]; exact hjl
            obtain ⟨g, rfl, hg⟩ := HNAM.out j hjL
            obtain ⟨rb, ro, rfl, -, r0, -, -⟩ := (HA_u5.out.row.below HBJ.out) j hjL
            have hgn := (HBJ.out.cell (p := ⟨g, j, none⟩) (cell_spot hg).2).trans hg
            obtain ⟨nq, hnq⟩ : ∃ nq, (D1.fs[j]).1 = nq := ⟨_, rfl⟩
            rw [hnq] at r0 hgn
            obtain ⟨-, x1, -⟩ := five_rd (ex_below HN_u5.out HBJ.out)
            have hne := fun w => neq_same nq w
            clear hnq hg hjL
            go_wp2_with fail
            go_region
            go_wp2_with fail
            go_roundg (ln - (j + 1))
            case measure => omega
            case rel => exact ⟨j + 1, by rw [HWJ.out]; rfl, by omega, by omega, Lib.hid HBJ.out.drew⟩
          · have hltj : ¬ (j : Int) < (ln : Int) := by omega
            have HN9 := Lib.hid (ex_below HN_u5.out HBJ.out)
            have HA9 := Lib.hid (HA_u5.out.below HBJ.out)
            have H9 := Lib.hid (H_u5.out.below HBJ.out)
            have HB9 := Lib.hid (HB_u5.out.trans (HBJ.out.mono HB_u5.out.size))
            clear HN_u5 HA_u5 H_u5 HB_u5 HZ_u5 HNAM hjx
            go_wp2_with fail
            go_roundg (n - (i + 1))
            case measure => omega
            case rel => exact ⟨i + 1, S1, D1, ra1, rc1, rr1, by rw [HWI.out]; rfl, by omega, by omega, Lib.hid ⟨m1, mt1, M1, V1, H9.out⟩, HA9, Lib.hid (by rw [HLN1.out]; exact HN9.out), HB9, HSN1, HST1⟩
      · have hltz : ¬ (i : Int) < (n : Int) := by omega
        go_wp2_with fail
        refine (lives23 w4).mono ?_
        rintro e wb ⟨rfl, hb⟩
        have HBB := Lib.hid (HB.out.trans (hb.mono HB.out.size))
        clear hb
        go_wp2_with fail
        go_ret
        exact ⟨rfl, HBB.out⟩
theorem plays_law (room : Int) (a0 : Option Addr) (n c0 : Nat) (O : Nat → Oq) (w : World) (h : OpsD w a0 n O) : Calls Try.prog 3 #[.int .i64 room, .slice a0 n c0] w fun e w' => e = .returned (.bool true) ∧ Below w.heap.size w w' := by
  by_cases h0 : room < 0
  · exact plays_lo room a0 n c0 O w h h0
  · by_cases h1 : 1048576 < room
    · exact plays_hi room a0 n c0 O w h h1
    · exact plays_main room a0 n c0 O w h (by omega)
end Go.Proofs.Ythkjjpkipeeimaa

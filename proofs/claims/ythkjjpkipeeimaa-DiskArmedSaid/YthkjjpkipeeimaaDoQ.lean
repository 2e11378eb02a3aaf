/- DiskArmed: the law's walk. -/
import Derived.Test.YthkjjpkipeeimaaDoN
import Derived.Deep.DeepCutAuto
namespace Go.Proofs.Ythkjjpkipeeimaa
open Go.RowKit Go.Maps
set_option maxRecDepth 100000 in
set_option maxHeartbeats 8000000 in
theorem armed_law (a0 : Option Addr) (n c0 : Nat) (O : Nat → Oq) (sz : Int) (yo : Oq) (w : World) (h : OpsD w a0 n O) (hsz : (Lit.int .u8 sz).wf = true) (hyo : OqIn w yo) : Calls Try.prog 5 #[.slice a0 n c0, .int .u8 sz, OqV yo] w fun e w' => e = .returned (.bool true) ∧ Below w.heap.size w w' := by
  have HO := Lib.hid h.2
  have HNM := Lib.hid h.1
  have hb8 := wf_u8 hsz
  obtain ⟨s, rfl⟩ : ∃ s : Nat, sz = (s : Int) := ⟨sz.toNat, by omega⟩
  have HS8 : Hid (s < 256) := Lib.hid (by omega)
  obtain ⟨B1, so, -⟩ := box1 w #[.int .i64 yo.kd, .int .i64 yo.n, encStr yo.nm, encStr yo.tt, encStr yo.tx, .slice yo.a yo.ts.length yo.c] 34
  have HB1 := Lib.hid B1
  have HY1 := Lib.hid so
  have HYI := Lib.hid hyo
  obtain ⟨NY, hNY⟩ : ∃ NY, w.heap.size = NY := ⟨_, rfl⟩
  rw [hNY] at HY1
  clear h hsz hb8 hyo B1 so
  unfold OqV
  go_enter Try.func5, Try.ntmps5
  go_upto_region 1 with fail
  have HNY := Lib.hid hNY
  try rw [hNY]
  clear hNY
  generalize w.alloc (.cells #[.int .i64 yo.kd, .int .i64 yo.n, encStr yo.nm, encStr yo.tt, encStr yo.tx, .slice yo.a yo.ts.length yo.c] 34) = w1 at HB1 HY1 ⊢
  go_wp2_with fail
  refine (light_any w.heap.size a0 n c0 O w1 (HO.out.below HB1.out) HB1.out.size HNM.out).mono ?_
  rintro e w2 ⟨b, rfl, hli, hb1⟩
  have HW := Lib.hid (HB1.out.trans (hb1.mono HB1.out.size))
  have HY2 := Lib.hid (ex_below HY1.out hb1)
  have HLI := Lib.hid hli
  clear hb1 hli HB1 HY1
  cases b with
  | false =>
    go_wp2_with fail
    refine (lives23 w2).mono ?_
    rintro e wb ⟨rfl, hb⟩
    have HBB := Lib.hid (HW.out.trans (hb.mono HW.out.size))
    clear hb
    go_wp2_with fail
    go_ret
    exact ⟨rfl, HBB.out⟩
  | true =>
    have HLT := Lib.hid (HLI.out rfl)
    clear HLI
    obtain ⟨hbb, hsb, hzb⟩ := box1 w2 #[.int .i64 yo.kd, .int .i64 yo.n, encStr yo.nm, encStr yo.tt, encStr yo.tx, .slice yo.a yo.ts.length yo.c] 34
    obtain ⟨q0, q1, q2, q3, q4, q5⟩ := six_rd HY2.out
    have HR2 : Hid (ORow (w2.alloc (.cells #[.int .i64 yo.kd, .int .i64 yo.n, encStr yo.nm, encStr yo.tt, encStr yo.tx, .slice yo.a yo.ts.length yo.c] 34)).heap.size (w2.alloc (.cells #[.int .i64 yo.kd, .int .i64 yo.n, encStr yo.nm, encStr yo.tt, encStr yo.tx, .slice yo.a yo.ts.length yo.c] 34)) (some ⟨w2.heap.size, 0, none⟩) 1 (fun _ => yo)) := Lib.hid (fun i hi => by
      obtain rfl : i = 0 := by omega
      obtain ⟨z0, z1, z2, z3, z4, z5⟩ := six_rd hsb
      refine ⟨HYI.out.1, ((HYI.out.2.blb HW.out).upto HW.out.size).blb hbb |>.upto hbb.size, w2.heap.size, 0, rfl, ex_lt hsb, ex_lt hsb, ?_⟩
      exact ⟨z0, z1, z2, z3, z4, z5⟩)
    have HW3 := Lib.hid (HW.out.trans (hbb.mono HW.out.size))
    have HY3 := Lib.hid (ex_below HY2.out hbb)
    have HC := Lib.hid (light_any _ (some ⟨w2.heap.size, 0, none⟩) 1 1 (fun _ => yo) _ HR2.out (Nat.le_refl _) (by unfold maxLen; omega))
    clear hbb hsb hzb HR2
    go_wp2_with fail
    refine HC.out.mono ?_
    rintro e w4 ⟨b, rfl, -, hb1⟩
    have HW4 := Lib.hid (HW3.out.trans (hb1.mono HW3.out.size))
    have HY4 := Lib.hid (ex_below HY3.out hb1)
    clear HC hb1 HW3 HY3 HW HY2 q0 q1 q2 q3 q4 q5
    have HW := HW4
    clear HW4
    cases b with
    | false =>
      go_wp2_with fail
      refine (lives23 w4).mono ?_
      rintro e wb ⟨rfl, hb⟩
      have HBB := Lib.hid (HW.out.trans (hb.mono HW.out.size))
      clear hb
      go_wp2_with fail
      go_ret
      exact ⟨rfl, HBB.out⟩
    | true =>
    go_wp2_with fail
    refine (new_dk 4000 w4 (by decide)).mono ?_
    rintro e w5 ⟨B, rfl, hB, hdk, hb⟩
    have HDK := Lib.hid hdk
    have HB2 := Lib.hid (HW.out.trans (hb.mono HW.out.size))
    have HY5 := Lib.hid (ex_below HY4.out hb)
    have HW12 : Hid (w.heap.size ≤ w4.heap.size ∧ NY < w4.heap.size) := Lib.hid ⟨HW.out.size, ex_lt HY4.out⟩
    clear hdk hB hb HW HY4
    go_wp2_with fail
    refine (rnew_any (fun k => w4.heap.size ≤ k ∧ k < w5.heap.size) 4000 w5).mono ?_
    rintro e w6 ⟨rfl, hra, hb⟩
    obtain ⟨m, mt, M, V, hk⟩ := HDK.out
    have H3 := Lib.hid (hk.below hb)
    have HA3 := Lib.hid hra
    have HB3 := Lib.hid (HB2.out.trans (hb.mono HB2.out.size))
    have HY6 := Lib.hid (ex_below HY5.out hb)
    have HZ23 : Hid (w5.heap.size ≤ w6.heap.size) := Lib.hid hb.size
    clear hk hra hb HDK HB2 HY5
    obtain ⟨Q, hQ⟩ : ∃ Q, d0 4000 = Q := ⟨_, rfl⟩
    have HQ0 := Lib.hid hQ
    unfold RVal
    rw [hQ] at HA3 H3
    try rw [hQ]
    clear hQ
    dsimp only
    obtain ⟨hbx, hsx, -⟩ := box1 w6 #[.int .i64 Q.room, .slice none Q.fs.length 0, .bool Q.down, .int .i64 (-1), .int .u64 (Q.st : Int)] 30
    obtain ⟨N, hN⟩ : ∃ N, w6.heap.size = N := ⟨_, rfl⟩
    rw [hN] at hsx
    have HYN : Hid (NY ≠ N) := Lib.hid (by have := ex_lt HY6.out; omega)
    have H4 := Lib.hid (H3.out.below hbx)
    have HA4 := Lib.hid (HA3.out.below hbx)
    have HN4 := Lib.hid hsx
    have HY7 := Lib.hid (ex_below HY6.out hbx)
    have HB4 := Lib.hid (HB3.out.trans (hbx.mono HB3.out.size))
    have HNB : Hid (w.heap.size ≤ N) := Lib.hid (by have := HB3.out.size; omega)
    have HNNY : Hid (w.heap.size ≤ NY) := Lib.hid (by have := HNY.out; omega)
    have HSN : Hid (∀ k, (fun k => w4.heap.size ≤ k ∧ k < w5.heap.size) k → w.heap.size ≤ k ∧ k ≠ N ∧ k ≠ NY) := Lib.hid (fun k hk => by have := hk.1; have := hk.2; have := HZ23.out; have := HW12.out; omega)
    clear hbx hsx H3 HA3 HB3 HZ23 HY6
    go_upto_region 4 with fail
    try rw [hN]
    clear hN
    generalize w6.alloc (.cells #[.int .i64 Q.room, .slice none Q.fs.length 0, .bool Q.down, .int .i64 (-1), .int .u64 (Q.st : Int)] 30) = w7 at H4 HA4 HN4 HB4 HY7 ⊢
    have hw8 : IntKind.i64.wrap (s : Int) = (s : Int) := IntWalk.i64_in _ ⟨by omega, by have := HS8.out; omega⟩
    have HAR := Lib.hid (darm_any H4.out (by rw [← HQ0.out]; decide) (s : Int) (by have := HS8.out; omega))
    rw [show armD Q (s : Int) = (⟨Q.room, Q.fs, Q.st, Q.down, true, (Q.st : Int) + s⟩, 0) by rw [← HQ0.out]; unfold armD d0; rw [if_neg (by decide), if_neg (by omega)]] at HAR
    go_wp2_with fail
    refine HAR.out.mono ?_
    rintro e w8 ⟨S1, rfl, hdk, hfr⟩
    clear HAR hw8
    have hNs : ¬ (fun k => w4.heap.size ≤ k ∧ k < w5.heap.size) N := fun hs => (HSN.out N hs).2.1 rfl
    have hYs : ¬ (fun k => w4.heap.size ≤ k ∧ k < w5.heap.size) NY := fun hs => (HSN.out NY hs).2.2 rfl
    have HN8 := Lib.hid ((hfr.out (ex_lt HN4.out) hNs).1.trans HN4.out)
    have HY8 := Lib.hid ((hfr.out (ex_lt HY7.out) hYs).1.trans HY7.out)
    have HA8 := Lib.hid (HA4.out.only hfr.1 hfr.2.2)
    have HB8 := Lib.hid (HB4.out.trans (hfr.1.toBelow HB4.out.size (fun k hk => (HSN.out k hk).1)))
    have HSN1 : Hid (∀ k, S1 k → w.heap.size ≤ k ∧ k ≠ N ∧ k ≠ NY) := Lib.hid (fun k hk => by
      rcases hfr.2.2 k hk with h1 | h1
      · exact HSN.out k h1
      · have := HB4.out.size
        have := ex_lt HN4.out
        have := ex_lt HY7.out
        exact ⟨by omega, by omega, by omega⟩)
    obtain ⟨D, hD⟩ : ∃ D : Dd, (⟨Q.room, Q.fs, Q.st, Q.down, true, (Q.st : Int) + s⟩ : Dd) = D := ⟨_, rfl⟩
    have HARM : Hid (D.armed = true ∧ D.after = (s : Int) ∧ D.down = decide (s < D.st) ∧ (D.down = false → Q = unD D) ∧ D.st ≤ 0) := Lib.hid (by
      rw [← hD, ← HQ0.out]
      refine ⟨rfl, ?_, ?_, fun _ => rfl, Nat.le_refl _⟩
      · show ((0 : Nat) : Int) + (s : Int) = s; omega
      · show false = decide (s < 0); exact (decide_eq_false (by omega)).symm)
    have HST0 : Hid (D.st = 0) := Lib.hid (by have := HARM.out.2.2.2.2; omega)
    have HDK8 : Hid (DK S1 w8 B D) := Lib.hid (by rw [← hD]; exact hdk)
    clear hfr hNs hYs hdk hD H4 HA4 HN4 HB4 HY7 HSN HQ0
    go_wp2_with fail
    go_loopg [9, 37] n (fun kx s9 s37 wr => ∃ (i : Nat) (S : Nat → Prop) (D Q : Dd) (a : Option Addr) (c : Nat) (ar : Int), s37 = .int .i64 (i : Int) ∧ s9 = .int .i64 (D.st : Int) ∧ i ≤ n ∧ n - i ≤ kx ∧ Hid (DK S wr B D) ∧ Hid (RA S wr Q a ar) ∧ Hid (wr.heap[N]? = some (.cells #[.int .i64 Q.room, .slice a Q.fs.length c, .bool Q.down, .int .i64 ar, .int .u64 (Q.st : Int)] 30 (0, 0))) ∧ Hid (Below w.heap.size w wr ∧ wr.heap[NY]? = some (.cells #[.int .i64 yo.kd, .int .i64 yo.n, encStr yo.nm, encStr yo.tt, encStr yo.tx, .slice yo.a yo.ts.length yo.c] 34 (0, 0))) ∧ Hid (∀ k, S k → w.heap.size ≤ k ∧ k ≠ N ∧ k ≠ NY) ∧ Hid (D.armed = true ∧ D.after = (s : Int) ∧ D.down = decide (s < D.st) ∧ (D.down = false → Q = unD D) ∧ D.st ≤ i))
    case atStart => exact ⟨0, S1, D, Q, none, 0, -1, rfl, by rw [HST0.out]; rfl, by omega, by omega, HDK8, HA8, HN8, Lib.hid ⟨HB8.out, HY8.out⟩, HSN1, HARM⟩
    case round =>
      clear HDK8 HA8 HN8 HB8 HY8 HSN1 HARM HST0
      obtain ⟨i, S, D, Q, a, c, ar, rfl, rfl, hi, hix, HDK, HA, HN, HBY, HSN, HARM⟩ := hrel
      obtain ⟨w7, rfl⟩ : ∃ W, W = wr := ⟨_, rfl⟩
      by_cases hlt : i < n
      · have hltz : (i : Int) < (n : Int) := by omega
        have hi0 : (0 : Int) ≤ (i : Int) := by omega
        have HWI : Hid (wrap64 ((i : Int) + 1) = (i : Int) + 1) := Lib.hid (IntWalk.wrap64_in _ (by have := HLT.out.1; omega))
        obtain ⟨hok, htr, b, o, rfl, hbb, hbw, k0, k1, k2, k3, k4, k5⟩ := (HO.out.below HBY.out.1) i hlt
        obtain ⟨y, hy⟩ : ∃ y, O i = y := ⟨_, rfl⟩
        have HLY := Lib.hid (HLT.out.2 i hlt)
        rw [hy] at k0 k1 k2 k3 k4 k5 HLY
        obtain ⟨m, mt, M, V, hk⟩ := HDK.out
        obtain ⟨hb5, hs5, hz5⟩ := box1 w7 #[.int .i64 y.kd, .int .i64 y.n, encStr y.nm, encStr y.tt, encStr y.tx, .slice y.a y.ts.length y.c] 34
        have H5 := Lib.hid (hk.below hb5)
        have HA5 := Lib.hid (HA.out.below hb5)
        have HN5 := Lib.hid (ex_below HN.out hb5)
        have HB5 := Lib.hid (HBY.out.1.trans (hb5.mono HBY.out.1.size))
        have HY5 := Lib.hid (ex_below HBY.out.2 hb5)
        obtain ⟨NO, hNO⟩ : ∃ NO, w7.heap.size = NO := ⟨_, rfl⟩
        rw [hNO] at hs5
        have HO5 := Lib.hid hs5
        have hbo := hk.bd
        rw [hNO] at hbo
        have HBDO : Hid (∀ k, S k → k < NO) := Lib.hid hbo
        clear hbo hy hok htr hbb hbw hk hb5 hs5 hz5 HDK HA HN HBY hlt
        go_upto_region 10 with fail
        try rw [hNO]
        clear hNO k0 k1 k2 k3 k4 k5
        generalize w7.alloc (.cells #[.int .i64 y.kd, .int .i64 y.n, encStr y.nm, encStr y.tt, encStr y.tx, .slice y.a y.ts.length y.c] 34) = w5 at H5 HA5 HN5 HB5 HY5 HO5 ⊢
        obtain ⟨q0, q1, q2, q3, q4, q5⟩ := six_rd HO5.out
        obtain ⟨kd, hkd⟩ : ∃ kd, y.kd = kd := ⟨_, rfl⟩
        have HKD := Lib.hid hkd
        rw [hkd] at q0
        clear hkd
        go_cut [52] (fun s52 wc => ∃ bq, s52 = .bool bq ∧ Hid (bq = false → D.down = false ∧ ¬ (6 ≤ kd ∧ kd ≤ 9)) ∧ w5 = wc)
        case first =>
          by_cases h6 : 6 ≤ kd
          · have g0 : decide (kd ≥ 6) = true := decide_eq_true h6
            have g1 : decide (6 ≤ kd) = true := decide_eq_true h6
            by_cases h9 : kd ≤ 9
            · have g2 : decide (kd ≤ 9) = true := decide_eq_true h9
              go_wp2_with fail
              go_meet
              case rel => exact ⟨true, rfl, Lib.hid (fun e => by cases e), rfl⟩
            · have g2 : decide (kd ≤ 9) = false := decide_eq_false h9
              have HH9 := Lib.hid h9
              clear h9
              go_wp2_with fail
              refine (ddown_any H5.out).mono ?_
              rintro e wz ⟨rfl, rfl⟩
              go_wp2_with fail
              go_meet
              case rel => exact ⟨D.down, rfl, Lib.hid (fun e => ⟨e, fun h => by have := HH9.out; omega⟩), rfl⟩
          · have g0 : decide (kd ≥ 6) = false := decide_eq_false h6
            have g1 : decide (6 ≤ kd) = false := decide_eq_false h6
            have HH6 := Lib.hid h6
            clear h6
            go_wp2_with fail
            refine (ddown_any H5.out).mono ?_
            rintro e wz ⟨rfl, rfl⟩
            go_wp2_with fail
            go_meet
            case rel => exact ⟨D.down, rfl, Lib.hid (fun e => ⟨e, fun h => by have := HH6.out; omega⟩), rfl⟩
        case rest =>
          obtain ⟨bq, rfl, HBQ, rfl⟩ := hcut
          cases bq with
          | true =>
            have HR : Hid (D.armed = true ∧ D.after = (s : Int) ∧ D.down = decide (s < D.st) ∧ (D.down = false → Q = unD D) ∧ D.st ≤ i + 1) := Lib.hid ⟨HARM.out.1, HARM.out.2.1, HARM.out.2.2.1, HARM.out.2.2.2.1, by have := HARM.out.2.2.2.2; omega⟩
            clear q0 q1 q2 q3 q4 q5
            go_wp2_with fail
            go_roundg (n - (i + 1))
            case measure => omega
            case rel => exact ⟨i + 1, S, D, Q, a, c, ar, by rw [HWI.out]; rfl, rfl, by omega, by omega, Lib.hid ⟨m, mt, M, V, H5.out⟩, HA5, HN5, Lib.hid ⟨HB5.out, HY5.out⟩, HSN, HR⟩
          | false =>
            have HDD := Lib.hid (HBQ.out rfl).1
            have HKK := Lib.hid (HBQ.out rfl).2
            clear HBQ
            have HQU := Lib.hid (HARM.out.2.2.2.1 HDD.out)
            have HSL : Hid (D.st ≤ s ∧ D.st ≤ 1000) := Lib.hid (by
              have h1 := HARM.out.2.2.1
              rw [HDD.out] at h1
              have h2 := of_decide_eq_false h1.symm
              have h3 := HARM.out.2.2.2.2
              have h4 := HLT.out.1
              omega)
            go_wp2_with fail
            refine (dsteps_any H5.out).mono ?_
            rintro e wz ⟨rfl, rfl⟩
            go_wp2_with fail
            refine (lfiles H5.out).mono ?_
            rintro e w6 ⟨bv, rfl, hof, hb⟩
            have H6 := Lib.hid (H5.out.below hb)
            have HA6 := Lib.hid (HA5.out.below hb)
            have HN6 := Lib.hid (ex_below HN5.out hb)
            have HB6 := Lib.hid (HB5.out.trans (hb.mono HB5.out.size))
            have HY6 := Lib.hid (ex_below HY5.out hb)
            have HO6 := Lib.hid (ex_below HO5.out hb)
            have HV6 := Lib.hid hof
            have HBD6 : Hid (∀ k, S k → k < w5.heap.size) := Lib.hid H5.out.bd
            obtain ⟨ba, bc, hbv, -⟩ := hof.row
            obtain ⟨lb, hlb⟩ : ∃ lb, D.fs.length = lb := ⟨_, rfl⟩
            have HLB := Lib.hid hlb
            rw [hlb] at hbv
            subst hbv
            clear hof hb hlb H5 HA5 HN5 HB5 HY5 HO5 q0 q1 q2 q3 q4 q5
            obtain ⟨c0', c1, c2, c3, c4⟩ := five_rd HN6.out
            obtain ⟨q0, q1, q2, q3, q4, q5⟩ := six_rd HO6.out
            have HC := Lib.hid (dp_any c s H6.out (by rw [← HQU.out]; exact HA6.out) (by have := HSL.out; omega) HDD.out HARM.out.1 HARM.out.2.1 y (by rw [HKD.out]; exact HKK.out) HLY.out)
            rw [← HQU.out, HKD.out] at HC
            unfold OqV RVal at HC
            go_wp2_with fail
            refine HC.out.mono ?_
            rintro e w7 ⟨D1, Q1, hao, S1, ra1, rc1, rr1, bb, rfl, hdk, hfr, hra⟩
            clear HC c0' c1 c2 c3 c4 q1 q2 q3 q4 q5 q0
            have HAO := Lib.hid hao
            unfold RVal
            dsimp only
            have hNs : ¬ S N := fun hs => (HSN.out N hs).2.1 rfl
            have hYs : ¬ S NY := fun hs => (HSN.out NY hs).2.2 rfl
            have hOs : ¬ S NO := fun hs => Nat.lt_irrefl _ (HBDO.out NO hs)
            have HN7 := Lib.hid ((hfr.out (ex_lt HN6.out) hNs).1.trans HN6.out)
            have HY7 := Lib.hid ((hfr.out (ex_lt HY6.out) hYs).1.trans HY6.out)
            have HO7 := Lib.hid ((hfr.out (ex_lt HO6.out) hOs).1.trans HO6.out)
            have HV7 := Lib.hid (HV6.out.frame hfr.1 HBD6.out)
            have HSN1 : Hid (∀ k, S1 k → w.heap.size ≤ k ∧ k ≠ N ∧ k ≠ NY) := Lib.hid (fun k hk => by
              rcases hfr.2.2 k hk with h1 | h1
              · exact HSN.out k h1
              · have := HB6.out.size
                have := ex_lt HN6.out
                have := ex_lt HY6.out
                exact ⟨by omega, by omega, by omega⟩)
            have HB7 := Lib.hid (HB6.out.trans (hfr.1.toBelow HB6.out.size (fun k hk => (HSN.out k hk).1)))
            have HDK7 := Lib.hid hdk
            have HA7 := Lib.hid hra
            clear hdk hfr hra hNs hYs hOs hao H6 HA6 HN6 HB6 HY6 HO6 HV6 HBD6
            obtain ⟨hbx, hsx, -⟩ := box1 w7 #[.int .i64 Q1.room, .slice ra1 Q1.fs.length rc1, .bool Q1.down, .int .i64 rr1, .int .u64 (Q1.st : Int)] 30
            obtain ⟨NX, hNX⟩ : ∃ NX, w7.heap.size = NX := ⟨_, rfl⟩
            rw [hNX] at hsx
            have HX8 := Lib.hid hsx
            have HDK8 := Lib.hid (HDK7.out.below hbx)
            have HA8 := Lib.hid (HA7.out.below hbx)
            have HN8 := Lib.hid (ex_below HN7.out hbx)
            have HY8 := Lib.hid (ex_below HY7.out hbx)
            have HO8 := Lib.hid (ex_below HO7.out hbx)
            have HV8o := Lib.hid (HV7.out.kept hbx)
            have HB8 := Lib.hid (HB7.out.trans (hbx.mono HB7.out.size))
            clear hbx hsx HDK7 HA7 HN7 HY7 HO7 HV7 HB7
            go_upto_region 13 with fail
            try rw [hNX]
            clear hNX
            generalize w7.alloc (.cells #[.int .i64 Q1.room, .slice ra1 Q1.fs.length rc1, .bool Q1.down, .int .i64 rr1, .int .u64 (Q1.st : Int)] 30) = w8 at HX8 HDK8 HA8 HN8 HY8 HO8 HV8o HB8 ⊢
            obtain ⟨m1, mt1, M1, V1, hk1⟩ := HDK8.out
            have H8 := Lib.hid hk1
            clear hk1
            have HV8 : Hid (FRow w8 ba D.fs) := Lib.hid (by
              obtain ⟨a', c', e, hr⟩ := HV8o.out.row
              injection e with e1
              subst e1
              exact hr)
            clear HV8o
            have HWS : Hid (wrap64 ((D.st : Int) + 1) = (D.st : Int) + 1) := Lib.hid (IntWalk.wrap64_in _ (by have := HSL.out; omega))
            have hw8 : IntKind.i64.wrap (s : Int) = (s : Int) := IntWalk.i64_in _ ⟨by omega, by have := HS8.out; omega⟩
            rcases HAO.out with ⟨e1, e2⟩ | ⟨e1, e2, e3, e4, e5, e6⟩
            · have HARM1 : Hid (D1.armed = true ∧ D1.after = (s : Int) ∧ D1.down = decide (s < D1.st) ∧ (D1.down = false → Q1 = unD D1) ∧ D1.st ≤ i + 1) := Lib.hid (by
                rw [e1]
                exact ⟨HARM.out.1, HARM.out.2.1, HARM.out.2.2.1, fun _ => e2, by have := HARM.out.2.2.2.2; omega⟩)
              have HSE : Hid (D1.st = D.st) := Lib.hid (by rw [e1])
              have HDN : Hid (D1.down = false) := Lib.hid (by rw [e1]; exact HDD.out)
              clear e1 e2 HAO
              have HSS := Lib.hid (dsteps_any H8.out)
              rw [HSE.out] at HSS
              have HDW := Lib.hid (ddown_any H8.out)
              rw [HDN.out] at HDW
              have t00 : decide (((D.st : Nat) : Int) > ((s : Nat) : Int)) = false := decide_eq_false (by have := HSL.out; omega)
              have t01 : decide (((s : Nat) : Int) < ((D.st : Nat) : Int)) = false := decide_eq_false (by have := HSL.out; omega)
              have t02 : decide (s < D.st) = false := decide_eq_false (by have := HSL.out; omega)
              go_wp2_with fail
              refine HSS.out.mono ?_
              rintro e wz ⟨rfl, rfl⟩
              go_wp2_with fail
              refine HDW.out.mono ?_
              rintro e wz ⟨rfl, rfl⟩
              go_wp2_with fail
              refine HDW.out.mono ?_
              rintro e wz ⟨rfl, rfl⟩
              clear HSS HDW t00 t01 t02 hw8
              have HXt := HX8
              have HNt := HN8
              have HAt := HA8
              have HBt := HB8
              have HYt := HY8
              have HDKt := HDK8
              go_upto_region 21 with fail
              obtain ⟨x0, x1, x2, x3, x4⟩ := five_rd HXt.out
              obtain ⟨c0', c1, c2, c3, c4⟩ := five_rd HNt.out
              have fz : ∀ o, w8.frozen? ⟨N, o, none⟩ = false := fun o => by simp [World.frozen?, HNt.out]
              have HN7' := Lib.hid (set5 HNt.out (.int .i64 Q1.room) (.slice ra1 Q1.fs.length rc1) (.bool Q1.down) (.int .i64 rr1) (.int .u64 (Q1.st : Int)))
              have hoff : ∀ k, k ≠ N → (((((w8.setCell ⟨N, 0, none⟩ (.int .i64 Q1.room)).setCell ⟨N, 1, none⟩ (.slice ra1 Q1.fs.length rc1)).setCell ⟨N, 2, none⟩ (.bool Q1.down)).setCell ⟨N, 3, none⟩ (.int .i64 rr1)).setCell ⟨N, 4, none⟩ (.int .u64 (Q1.st : Int))).heap[k]? = w8.heap[k]? := fun k hk => set5_out hk _ _ _ _ _
              have HA7' := Lib.hid (HAt.out.box5 (W := (((((w8.setCell ⟨N, 0, none⟩ (.int .i64 Q1.room)).setCell ⟨N, 1, none⟩ (.slice ra1 Q1.fs.length rc1)).setCell ⟨N, 2, none⟩ (.bool Q1.down)).setCell ⟨N, 3, none⟩ (.int .i64 rr1)).setCell ⟨N, 4, none⟩ (.int .u64 (Q1.st : Int)))) HNt.out hoff (by simp))
              have HDK7' : Hid (DK S1 (((((w8.setCell ⟨N, 0, none⟩ (.int .i64 Q1.room)).setCell ⟨N, 1, none⟩ (.slice ra1 Q1.fs.length rc1)).setCell ⟨N, 2, none⟩ (.bool Q1.down)).setCell ⟨N, 3, none⟩ (.int .i64 rr1)).setCell ⟨N, 4, none⟩ (.int .u64 (Q1.st : Int))) B D1) := Lib.hid (by
                obtain ⟨m, mt, M, V, hk⟩ := HDKt.out
                exact ⟨m, mt, M, V, hk.move (by simp) (fun k _ hs => hoff k (HSN1.out k hs).2.1)⟩)
              have HB7' := Lib.hid (below_two (below_two (below_two (below_two (below_two (HBt.out) (show w.heap.size ≤ N from HNB.out) 0 (.int .i64 Q1.room)) (show w.heap.size ≤ N from HNB.out) 1 (.slice ra1 Q1.fs.length rc1)) (show w.heap.size ≤ N from HNB.out) 2 (.bool Q1.down)) (show w.heap.size ≤ N from HNB.out) 3 (.int .i64 rr1)) (show w.heap.size ≤ N from HNB.out) 4 (.int .u64 (Q1.st : Int)))
              have HYZ := Lib.hid ((hoff NY HYN.out).trans HYt.out)
              clear hoff HXt HNt HAt HDKt HBt HYt
              go_upto_region 22 with fail
              generalize (((((w8.setCell ⟨N, 0, none⟩ (.int .i64 Q1.room)).setCell ⟨N, 1, none⟩ (.slice ra1 Q1.fs.length rc1)).setCell ⟨N, 2, none⟩ (.bool Q1.down)).setCell ⟨N, 3, none⟩ (.int .i64 rr1)).setCell ⟨N, 4, none⟩ (.int .u64 (Q1.st : Int))) = wt at HN7' HA7' HDK7' HB7' HYZ ⊢
              clear x0 x1 x2 x3 x4 c0' c1 c2 c3 c4 fz
              go_wp2_with fail
              go_roundg (n - (i + 1))
              case measure => omega
              case rel => exact ⟨i + 1, S1, D1, Q1, ra1, rc1, rr1, by rw [HWI.out]; rfl, by rw [HSE.out], by omega, by omega, HDK7', HA7', HN7', Lib.hid ⟨HB7'.out, HYZ.out⟩, HSN1, HARM1⟩
            · have HSE : Hid (D1.st = D.st + 1) := Lib.hid e1
              have HDE : Hid (D1.down = decide (s < D.st + 1)) := Lib.hid e4
              have HFD := Lib.hid e5
              have HARM1 : Hid (D1.armed = true ∧ D1.after = (s : Int) ∧ D1.down = decide (s < D1.st) ∧ (D1.down = false → Q1 = unD D1) ∧ D1.st ≤ i + 1) := Lib.hid (by
                refine ⟨e2, e3, by rw [e1, e4], e6, by rw [e1]; have := HARM.out.2.2.2.2; omega⟩)
              clear e1 e2 e3 e4 e5 e6 HAO
              have HSS := Lib.hid (dsteps_any H8.out)
              rw [HSE.out] at HSS
              have gg0 : decide ((((D.st + 1 : Nat)) : Int) > (D.st : Int)) = true := decide_eq_true (by omega)
              have gg1 : decide ((D.st : Int) < (((D.st + 1 : Nat)) : Int)) = true := decide_eq_true (by omega)
              have gg2 : decide ((D.st : Int) < (D.st : Int) + 1) = true := decide_eq_true (by omega)
              have gg3 : decide (D.st < D.st + 1) = true := decide_eq_true (by omega)
              have gg4 : decide ((D.st : Int) + 1 > (D.st : Int)) = true := decide_eq_true (by omega)
              go_wp2_with fail
              refine HSS.out.mono ?_
              rintro e wz ⟨rfl, rfl⟩
              go_upto_region 15 with fail
              try rw [HWS.out]
              clear HSS gg0 gg1 gg2 gg3 gg4
              by_cases hdn : s < D.st + 1
              · have HDN : Hid (D1.down = true) := Lib.hid (by rw [HDE.out]; exact decide_eq_true hdn)
                have HDW := Lib.hid (ddown_any H8.out)
                rw [HDN.out] at HDW
                have t00 : decide ((D.st : Int) + 1 > (s : Int)) = true := decide_eq_true (by omega)
                have t01 : decide ((s : Int) < (D.st : Int) + 1) = true := decide_eq_true (by omega)
                have t02 : decide (s < D.st + 1) = true := decide_eq_true hdn
                have HDNN := Lib.hid hdn
                clear hdn
                go_wp2_with fail
                refine HDW.out.mono ?_
                rintro e wz ⟨rfl, rfl⟩
                go_wp2_with fail
                refine HDW.out.mono ?_
                rintro e wz ⟨rfl, rfl⟩
                clear t00 t01 t02 hw8 HDW
                obtain ⟨q0, q1, q2, q3, q4, q5⟩ := six_rd HO8.out
                rw [HKD.out] at q0
                obtain ⟨lq, hlq⟩ : ∃ lq, Q1.fs.length = lq := ⟨_, rfl⟩
                have HLQ := Lib.hid hlq
                rw [hlq] at HX8
                try rw [hlq]
                clear hlq
                cases hap : appK kd with
                | true =>
                  have HFS : Hid (D1.fs = Q1.fs) := Lib.hid (by have := HFD.out HDN.out; rw [hap] at this; exact this)
                  have HLQD : Hid (D1.fs.length = lq) := Lib.hid (by rw [HFS.out]; exact HLQ.out)
                  have HLD1 := HLQD
                  have hkk : kd = 0 ∨ 9 < kd ∨ kd < 0 := by
                    have h1 := HKK.out
                    have h2 : ¬ (1 ≤ kd ∧ kd ≤ 5) := fun h => by
                      unfold appK at hap
                      rw [decide_eq_true h.1, decide_eq_true h.2] at hap
                      cases hap
                    omega
                  rcases hkk with hkk | hkk | hkk
                  · have g0 : decide (kd = 0) = true := decide_eq_true hkk
                    have g1 : (kd == 0) = true := by simp; omega
                    go_upto_region 19 with fail
                    clear q0 q1 q2 q3 q4 q5 hkk g0 g1
                    have HXd : Hid (w8.drew.heap[NX]? = some (.cells #[.int .i64 Q1.room, .slice ra1 lq rc1, .bool Q1.down, .int .i64 rr1, .int .u64 (Q1.st : Int)] 30 (0, 0))) := Lib.hid HX8.out
                    have H_d : Hid (DKx S1 w8.drew B m1 mt1 D1 M1 V1) := Lib.hid (H8.out.move (Nat.le_refl _) (fun _ _ _ => rfl))
                    have HN_d : Hid (w8.drew.heap[N]? = some (.cells #[.int .i64 Q.room, .slice a Q.fs.length c, .bool Q.down, .int .i64 ar, .int .u64 (Q.st : Int)] 30 (0, 0))) := Lib.hid HN8.out
                    have HA_d : Hid (RA S1 w8.drew Q1 ra1 rr1) := Lib.hid (HA8.out.below ((Below.refl _ w8).drew))
                    have HB_d : Hid (Below w.heap.size w w8.drew) := Lib.hid HB8.out.drew
                    have HY_d : Hid (w8.drew.heap[NY]? = some (.cells #[.int .i64 yo.kd, .int .i64 yo.n, encStr yo.nm, encStr yo.tt, encStr yo.tx, .slice yo.a yo.ts.length yo.c] 34 (0, 0))) := Lib.hid HY8.out
                    have HV_d : Hid (FRow w8.drew ba D.fs) := Lib.hid (HV8.out.below ((Below.refl _ w8).drew))
                    have HS0 : Hid ((fun W : World => W.heap[NX]? = some (.cells #[.int .i64 Q1.room, .slice ra1 lq rc1, .bool Q1.down, .int .i64 rr1, .int .u64 (Q1.st : Int)] 30 (0, 0))) w8.drew) := Lib.hid HXd.out
                    refine wp_region_held_drew (S := (fun W : World => W.heap[NX]? = some (.cells #[.int .i64 Q1.room, .slice ra1 lq rc1, .bool Q1.down, .int .i64 rr1, .int .u64 (Q1.st : Int)] 30 (0, 0)))) (by kernel_rfl) HS0.out (fun hHeld => ?_)
                    clear hHeld HX8 H8 HN8 HA8 HB8 HV8 HY8
                    generalize w8.drew = wd at HXd H_d HN_d HA_d HB_d HV_d HY_d HS0 ⊢
                    refine wpAnyH_take (i := 0) (oi := { dst := some 92, op := Go.Op.move (Go.Operand.tmp 16), type := 4, pos := "law.go:179", after := #[], guard := none }) (v := ?_) rfl (by kernel_rfl) (by kernel_rfl) (by kernel_rfl) (fun _ _ _ h => h) (Or.inl ⟨by rfl, ?_⟩) HS0.out ?_
                    case refine_2 => (intro w1 hS1; clear hS1; go_simp; try with_reducible rfl)
                    try simp only [Act.put, List.setIfInBounds_toArray, List.set_cons_zero, List.set_cons_succ]
                    refine wpAnyH_take (i := 1) (oi := { dst := some 93, op := Go.Op.move (Go.Operand.tmp 92), type := 4, pos := "law.go:179", after := #[{ on := 0, ground := Go.Ground.data }], guard := none }) (v := ?_) rfl (by kernel_rfl) (by kernel_rfl) (by kernel_rfl) (fun _ _ _ h => h) (Or.inl ⟨by rfl, ?_⟩) HS0.out ?_
                    case refine_2 => (intro w1 hS1; clear hS1; go_simp; try with_reducible rfl)
                    try simp only [Act.put, List.setIfInBounds_toArray, List.set_cons_zero, List.set_cons_succ]
                    refine wpAnyH_take (i := 2) (oi := { dst := some 94, op := Go.Op.move (Go.Operand.tmp 7), type := 24, pos := "law.go:179", after := #[{ on := 1, ground := Go.Ground.guard }], guard := some (1, true) }) (v := ?_) rfl (by kernel_rfl) (by kernel_rfl) (by kernel_rfl) (fun _ _ _ h => h) (Or.inl ⟨by rfl, ?_⟩) HS0.out ?_
                    case refine_2 => (intro w1 hS1; clear hS1; go_simp; try with_reducible rfl)
                    try simp only [Act.put, List.setIfInBounds_toArray, List.set_cons_zero, List.set_cons_succ]
                    refine wpAnyH_take (i := 4) (oi := { dst := some 96, op := Go.Op.fieldAddr 30 (Go.Operand.tmp 14) 1, type := 0, pos := "law.go:179", after := #[{ on := 1, ground := Go.Ground.guard }], guard := some (1, true) }) (v := ?_) rfl (by kernel_rfl) (by kernel_rfl) (by kernel_rfl) (fun _ _ _ h => h) (Or.inl ⟨by rfl, ?_⟩) HS0.out ?_
                    case refine_2 => (intro w1 hS1; clear hS1; go_simp; try with_reducible rfl)
                    try simp only [Act.put, List.setIfInBounds_toArray, List.set_cons_zero, List.set_cons_succ]
                    refine wpAnyH_take (i := 5) (oi := { dst := some 97, op := Go.Op.load 27 (Go.Operand.tmp 96), type := 27, pos := "law.go:179", after := #[{ on := 4, ground := Go.Ground.data }, { on := 1, ground := Go.Ground.guard }], guard := some (1, true) }) (v := .slice ra1 lq rc1) rfl (by kernel_rfl) (by kernel_rfl) (by kernel_rfl) (fun _ _ _ h => h) (Or.inl ⟨by rfl, ?_⟩) HS0.out ?_
                    case refine_1 => (intro w1 hS1; obtain ⟨x0, x1, x2, x3, x4⟩ := five_rd hS1; clear hS1; go_simp; try with_reducible rfl)
                    try simp only [Act.put, List.setIfInBounds_toArray, List.set_cons_zero, List.set_cons_succ]
                    refine wpAnyH_ready (rs := [3]) (by kernel_rfl) (by simp) ?_
                    refine AllReadyH.cons (o := { dst := some 95, op := Go.Op.call { callee := Go.Callee.value (Go.Operand.func 23), args := #[Go.Operand.tmp 94], argTypes := #[24] }, type := 27, pos := "law.go:179", after := #[{ on := 2, ground := Go.Ground.data }, { on := 1, ground := Go.Ground.chain }, { on := 1, ground := Go.Ground.guard }], guard := some (1, true) }) rfl (fun K hK => ?_) AllReadyH.nil
                    go_simp
                    refine (lfiles H_d.out).mono ?_
                    rintro e we ⟨fv, rfl, hof, hb⟩
                    obtain ⟨fa, fc, hfv, hfr⟩ := hof.row
                    rw [HLD1.out] at hfv
                    subst hfv
                    have HFR := Lib.hid hfr
                    clear hof hfr
                    have HXe := Lib.hid (ex_below HXd.out hb)
                    have He := Lib.hid (H_d.out.below hb)
                    have HNe := Lib.hid (ex_below HN_d.out hb)
                    have HAe := Lib.hid (HA_d.out.below hb)
                    have HBe := Lib.hid (HB_d.out.trans (hb.mono HB_d.out.size))
                    have HVe := Lib.hid (HV_d.out.below hb)
                    have HYe := Lib.hid (ex_below HY_d.out hb)
                    have HS0' : Hid ((fun W : World => W.heap[NX]? = some (.cells #[.int .i64 Q1.room, .slice ra1 lq rc1, .bool Q1.down, .int .i64 rr1, .int .u64 (Q1.st : Int)] 30 (0, 0))) we) := Lib.hid HXe.out
                    clear hb HXd H_d HN_d HA_d HB_d HV_d HY_d HS0
                    have HXd := HXe
                    have H_d := He
                    have HN_d := HNe
                    have HA_d := HAe
                    have HB_d := HBe
                    have HV_d := HVe
                    have HY_d := HYe
                    have HS0 := HS0'
                    clear HXe He HNe HAe HBe HVe HYe HS0'
                    refine hK.out _ _ HS0.out (fun hHeld => ?_)
                    clear hK K hHeld
                    generalize we = wd at HXd H_d HN_d HA_d HB_d HV_d HY_d HS0 HFR ⊢
                    try simp only [Act.put, List.setIfInBounds_toArray, List.set_cons_zero, List.set_cons_succ]
                    refine wpAnyH_ready (rs := [6]) (by kernel_rfl) (by simp) ?_
                    refine AllReadyH.cons (o := { dst := some 98, op := Go.Op.call { callee := Go.Callee.value (Go.Operand.func 22), args := #[Go.Operand.tmp 95, Go.Operand.tmp 97], argTypes := #[27, 27] }, type := 4, pos := "law.go:179", after := #[{ on := 3, ground := Go.Ground.data }, { on := 5, ground := Go.Ground.data }, { on := 3, ground := Go.Ground.chain }, { on := 1, ground := Go.Ground.guard }], guard := some (1, true) }) rfl (fun K hK => ?_) AllReadyH.nil
                    go_simp
                    have HC := Lib.hid (rsame_yes fa ra1 fc rc1 D1.fs wd HFR.out (by have h := HA_d.out.row; rw [← HFS.out] at h; exact h) (by have := H_d.out.fit.few; omega))
                    rw [HLD1.out] at HC
                    refine HC.out.mono ?_
                    rintro e we ⟨rfl, hb⟩
                    clear HC HFR
                    have HXe := Lib.hid (ex_below HXd.out hb)
                    have He := Lib.hid (H_d.out.below hb)
                    have HNe := Lib.hid (ex_below HN_d.out hb)
                    have HAe := Lib.hid (HA_d.out.below hb)
                    have HBe := Lib.hid (HB_d.out.trans (hb.mono HB_d.out.size))
                    have HVe := Lib.hid (HV_d.out.below hb)
                    have HYe := Lib.hid (ex_below HY_d.out hb)
                    have HS0' : Hid ((fun W : World => W.heap[NX]? = some (.cells #[.int .i64 Q1.room, .slice ra1 lq rc1, .bool Q1.down, .int .i64 rr1, .int .u64 (Q1.st : Int)] 30 (0, 0))) we) := Lib.hid HXe.out
                    clear hb HXd H_d HN_d HA_d HB_d HV_d HY_d HS0
                    have HXd := HXe
                    have H_d := He
                    have HN_d := HNe
                    have HA_d := HAe
                    have HB_d := HBe
                    have HV_d := HVe
                    have HY_d := HYe
                    have HS0 := HS0'
                    clear HXe He HNe HAe HBe HVe HYe HS0'
                    refine hK.out _ _ HS0.out (fun hHeld => ?_)
                    clear hK K hHeld
                    generalize we = wd at HXd H_d HN_d HA_d HB_d HV_d HY_d HS0 ⊢
                    try simp only [Act.put, List.setIfInBounds_toArray, List.set_cons_zero, List.set_cons_succ]
                    refine wpAnyH_take (i := 7) (oi := { dst := some 99, op := Go.Op.unOp Go.UnOp.not 4 (Go.Operand.tmp 98), type := 4, pos := "law.go:179", after := #[{ on := 6, ground := Go.Ground.data }, { on := 1, ground := Go.Ground.guard }], guard := some (1, true) }) (v := .bool false) rfl (by kernel_rfl) (by kernel_rfl) (by kernel_rfl) (fun _ _ _ h => h) (Or.inl ⟨by rfl, ?_⟩) HS0.out ?_
                    case refine_1 => (intro w1 hS1; clear hS1; go_simp; try with_reducible rfl)
                    try simp only [Act.put, List.setIfInBounds_toArray, List.set_cons_zero, List.set_cons_succ]
                    refine wpAnyH_take (i := 8) (oi := { dst := some 100, op := Go.Op.pick (Go.Operand.tmp 93) (Go.Operand.tmp 99) (Go.Operand.const (Go.Value.bool false)), type := 4, pos := "law.go:179", after := #[{ on := 1, ground := Go.Ground.data }, { on := 7, ground := Go.Ground.data }], guard := none }) (v := .bool false) rfl (by kernel_rfl) (by kernel_rfl) (by kernel_rfl) (fun _ _ _ h => h) (Or.inl ⟨by rfl, ?_⟩) HS0.out ?_
                    case refine_1 => (intro w1 hS1; clear hS1; go_simp; try with_reducible rfl)
                    try simp only [Act.put, List.setIfInBounds_toArray, List.set_cons_zero, List.set_cons_succ]
                    refine wpAnyH_take (i := 9) (oi := { dst := some 101, op := Go.Op.move (Go.Operand.tmp 100), type := 4, pos := "law.go:179", after := #[{ on := 8, ground := Go.Ground.data }, { on := 6, ground := Go.Ground.chain }], guard := none }) (v := ?_) rfl (by kernel_rfl) (by kernel_rfl) (by kernel_rfl) (fun _ _ _ h => h) (Or.inl ⟨by rfl, ?_⟩) HS0.out ?_
                    case refine_2 => (intro w1 hS1; clear hS1; go_simp; try with_reducible rfl)
                    try simp only [Act.put, List.setIfInBounds_toArray, List.set_cons_zero, List.set_cons_succ]
                    refine wpAnyH_take (i := 10) (oi := { dst := some 102, op := Go.Op.move (Go.Operand.tmp 16), type := 4, pos := "law.go:179", after := #[{ on := 9, ground := Go.Ground.guard }], guard := some (9, false) }) (v := ?_) rfl (by kernel_rfl) (by kernel_rfl) (by kernel_rfl) (fun _ _ _ h => h) (Or.inl ⟨by rfl, ?_⟩) HS0.out ?_
                    case refine_2 => (intro w1 hS1; clear hS1; go_simp; try with_reducible rfl)
                    try simp only [Act.put, List.setIfInBounds_toArray, List.set_cons_zero, List.set_cons_succ]
                    refine wpAnyH_take (i := 11) (oi := { dst := some 103, op := Go.Op.unOp Go.UnOp.not 4 (Go.Operand.tmp 102), type := 4, pos := "law.go:179", after := #[{ on := 10, ground := Go.Ground.data }, { on := 9, ground := Go.Ground.guard }], guard := some (9, false) }) (v := .bool false) rfl (by kernel_rfl) (by kernel_rfl) (by kernel_rfl) (fun _ _ _ h => h) (Or.inl ⟨by rfl, ?_⟩) HS0.out ?_
                    case refine_1 => (intro w1 hS1; clear hS1; go_simp; try with_reducible rfl)
                    try simp only [Act.put, List.setIfInBounds_toArray, List.set_cons_zero, List.set_cons_succ]
                    refine wpAnyH_take (i := 12) (oi := { dst := some 104, op := Go.Op.move (Go.Operand.tmp 103), type := 4, pos := "law.go:179", after := #[{ on := 11, ground := Go.Ground.data }, { on := 9, ground := Go.Ground.chain }, { on := 9, ground := Go.Ground.guard }], guard := some (9, false) }) (v := ?_) rfl (by kernel_rfl) (by kernel_rfl) (by kernel_rfl) (fun _ _ _ h => h) (Or.inl ⟨by rfl, ?_⟩) HS0.out ?_
                    case refine_2 => (intro w1 hS1; clear hS1; go_simp; try with_reducible rfl)
                    try simp only [Act.put, List.setIfInBounds_toArray, List.set_cons_zero, List.set_cons_succ]
                    refine wpAnyH_take (i := 13) (oi := { dst := some 105, op := Go.Op.move (Go.Operand.tmp 7), type := 24, pos := "law.go:179", after := #[{ on := 12, ground := Go.Ground.guard }], guard := some (12, true) }) (v := undef) rfl (by kernel_rfl) (by kernel_rfl) (by kernel_rfl) (fun _ _ _ h => h) (Or.inr ⟨by rfl, rfl⟩) HS0.out ?_
                    try simp only [Act.put, List.setIfInBounds_toArray, List.set_cons_zero, List.set_cons_succ]
                    refine wpAnyH_take (i := 14) (oi := { dst := some 106, op := Go.Op.call { callee := Go.Callee.value (Go.Operand.func 23), args := #[Go.Operand.tmp 105], argTypes := #[24] }, type := 27, pos := "law.go:179", after := #[{ on := 13, ground := Go.Ground.data }, { on := 12, ground := Go.Ground.chain }, { on := 12, ground := Go.Ground.guard }], guard := some (12, true) }) (v := undef) rfl (by kernel_rfl) (by kernel_rfl) (by kernel_rfl) (fun _ _ _ h => h) (Or.inr ⟨by rfl, rfl⟩) HS0.out ?_
                    try simp only [Act.put, List.setIfInBounds_toArray, List.set_cons_zero, List.set_cons_succ]
                    refine wpAnyH_take (i := 15) (oi := { dst := some 107, op := Go.Op.move (Go.Operand.tmp 13), type := 27, pos := "law.go:179", after := #[{ on := 12, ground := Go.Ground.guard }], guard := some (12, true) }) (v := undef) rfl (by kernel_rfl) (by kernel_rfl) (by kernel_rfl) (fun _ _ _ h => h) (Or.inr ⟨by rfl, rfl⟩) HS0.out ?_
                    try simp only [Act.put, List.setIfInBounds_toArray, List.set_cons_zero, List.set_cons_succ]
                    refine wpAnyH_take (i := 16) (oi := { dst := some 108, op := Go.Op.call { callee := Go.Callee.value (Go.Operand.func 22), args := #[Go.Operand.tmp 106, Go.Operand.tmp 107], argTypes := #[27, 27] }, type := 4, pos := "law.go:179", after := #[{ on := 14, ground := Go.Ground.data }, { on := 15, ground := Go.Ground.data }, { on := 14, ground := Go.Ground.chain }, { on := 12, ground := Go.Ground.guard }], guard := some (12, true) }) (v := undef) rfl (by kernel_rfl) (by kernel_rfl) (by kernel_rfl) (fun _ _ _ h => h) (Or.inr ⟨by rfl, rfl⟩) HS0.out ?_
                    try simp only [Act.put, List.setIfInBounds_toArray, List.set_cons_zero, List.set_cons_succ]
                    refine wpAnyH_take (i := 17) (oi := { dst := some 109, op := Go.Op.unOp Go.UnOp.not 4 (Go.Operand.tmp 108), type := 4, pos := "law.go:179", after := #[{ on := 16, ground := Go.Ground.data }, { on := 12, ground := Go.Ground.guard }], guard := some (12, true) }) (v := undef) rfl (by kernel_rfl) (by kernel_rfl) (by kernel_rfl) (fun _ _ _ h => h) (Or.inr ⟨by rfl, rfl⟩) HS0.out ?_
                    try simp only [Act.put, List.setIfInBounds_toArray, List.set_cons_zero, List.set_cons_succ]
                    refine wpAnyH_take (i := 18) (oi := { dst := some 110, op := Go.Op.pick (Go.Operand.tmp 104) (Go.Operand.tmp 109) (Go.Operand.const (Go.Value.bool false)), type := 4, pos := "law.go:179", after := #[{ on := 12, ground := Go.Ground.data }, { on := 17, ground := Go.Ground.data }, { on := 9, ground := Go.Ground.guard }], guard := some (9, false) }) (v := .bool false) rfl (by kernel_rfl) (by kernel_rfl) (by kernel_rfl) (fun _ _ _ h => h) (Or.inl ⟨by rfl, ?_⟩) HS0.out ?_
                    case refine_1 => (intro w1 hS1; clear hS1; go_simp; try with_reducible rfl)
                    try simp only [Act.put, List.setIfInBounds_toArray, List.set_cons_zero, List.set_cons_succ]
                    refine wpAnyH_take (i := 19) (oi := { dst := some 111, op := Go.Op.pick (Go.Operand.tmp 101) (Go.Operand.const (Go.Value.bool true)) (Go.Operand.tmp 110), type := 4, pos := "law.go:179", after := #[{ on := 9, ground := Go.Ground.data }, { on := 18, ground := Go.Ground.data }], guard := none }) (v := .bool false) rfl (by kernel_rfl) (by kernel_rfl) (by kernel_rfl) (fun _ _ _ h => h) (Or.inl ⟨by rfl, ?_⟩) HS0.out ?_
                    case refine_1 => (intro w1 hS1; clear hS1; go_simp; try with_reducible rfl)
                    try simp only [Act.put, List.setIfInBounds_toArray, List.set_cons_zero, List.set_cons_succ]
                    refine wpAnyH_done (by kernel_rfl) ?_ _
                    have HXt := HXd
                    have HNt := HN_d
                    have HAt := HA_d
                    have HBt := HB_d
                    have HYt := HY_d
                    have HDKt : Hid (DK S1 wd B D1) := Lib.hid ⟨m1, mt1, M1, V1, H_d.out⟩
                    clear HXd HN_d HA_d HB_d H_d HV_d HY_d HS0
                    rw [← HLQ.out] at HXt
                    try rw [← HLQ.out]
                    go_upto_region 21 with fail
                    obtain ⟨x0, x1, x2, x3, x4⟩ := five_rd HXt.out
                    obtain ⟨c0', c1, c2, c3, c4⟩ := five_rd HNt.out
                    have fz : ∀ o, wd.frozen? ⟨N, o, none⟩ = false := fun o => by simp [World.frozen?, HNt.out]
                    have HN7' := Lib.hid (set5 HNt.out (.int .i64 Q1.room) (.slice ra1 Q1.fs.length rc1) (.bool Q1.down) (.int .i64 rr1) (.int .u64 (Q1.st : Int)))
                    have hoff : ∀ k, k ≠ N → (((((wd.setCell ⟨N, 0, none⟩ (.int .i64 Q1.room)).setCell ⟨N, 1, none⟩ (.slice ra1 Q1.fs.length rc1)).setCell ⟨N, 2, none⟩ (.bool Q1.down)).setCell ⟨N, 3, none⟩ (.int .i64 rr1)).setCell ⟨N, 4, none⟩ (.int .u64 (Q1.st : Int))).heap[k]? = wd.heap[k]? := fun k hk => set5_out hk _ _ _ _ _
                    have HA7' := Lib.hid (HAt.out.box5 (W := (((((wd.setCell ⟨N, 0, none⟩ (.int .i64 Q1.room)).setCell ⟨N, 1, none⟩ (.slice ra1 Q1.fs.length rc1)).setCell ⟨N, 2, none⟩ (.bool Q1.down)).setCell ⟨N, 3, none⟩ (.int .i64 rr1)).setCell ⟨N, 4, none⟩ (.int .u64 (Q1.st : Int)))) HNt.out hoff (by simp))
                    have HDK7' : Hid (DK S1 (((((wd.setCell ⟨N, 0, none⟩ (.int .i64 Q1.room)).setCell ⟨N, 1, none⟩ (.slice ra1 Q1.fs.length rc1)).setCell ⟨N, 2, none⟩ (.bool Q1.down)).setCell ⟨N, 3, none⟩ (.int .i64 rr1)).setCell ⟨N, 4, none⟩ (.int .u64 (Q1.st : Int))) B D1) := Lib.hid (by
                      obtain ⟨m, mt, M, V, hk⟩ := HDKt.out
                      exact ⟨m, mt, M, V, hk.move (by simp) (fun k _ hs => hoff k (HSN1.out k hs).2.1)⟩)
                    have HB7' := Lib.hid (below_two (below_two (below_two (below_two (below_two (HBt.out) (show w.heap.size ≤ N from HNB.out) 0 (.int .i64 Q1.room)) (show w.heap.size ≤ N from HNB.out) 1 (.slice ra1 Q1.fs.length rc1)) (show w.heap.size ≤ N from HNB.out) 2 (.bool Q1.down)) (show w.heap.size ≤ N from HNB.out) 3 (.int .i64 rr1)) (show w.heap.size ≤ N from HNB.out) 4 (.int .u64 (Q1.st : Int)))
                    have HYZ := Lib.hid ((hoff NY HYN.out).trans HYt.out)
                    clear hoff HXt HNt HAt HDKt HBt HYt
                    go_upto_region 22 with fail
                    generalize (((((wd.setCell ⟨N, 0, none⟩ (.int .i64 Q1.room)).setCell ⟨N, 1, none⟩ (.slice ra1 Q1.fs.length rc1)).setCell ⟨N, 2, none⟩ (.bool Q1.down)).setCell ⟨N, 3, none⟩ (.int .i64 rr1)).setCell ⟨N, 4, none⟩ (.int .u64 (Q1.st : Int))) = wt at HN7' HA7' HDK7' HB7' HYZ ⊢
                    clear x0 x1 x2 x3 x4 c0' c1 c2 c3 c4 fz
                    go_wp2_with fail
                    go_roundg (n - (i + 1))
                    case measure => omega
                    case rel => exact ⟨i + 1, S1, D1, Q1, ra1, rc1, rr1, by rw [HWI.out]; rfl, by rw [HSE.out]; rfl, by omega, by omega, HDK7', HA7', HN7', Lib.hid ⟨HB7'.out, HYZ.out⟩, HSN1, HARM1⟩
                  · have g0 : decide (kd = 0) = false := decide_eq_false (by omega)
                    have g1 : (kd == 0) = false := by simp; omega
                    have g2 : decide (kd > 9) = true := decide_eq_true (by omega)
                    have g3 : decide (9 < kd) = true := decide_eq_true (by omega)
                    go_upto_region 19 with fail
                    clear q0 q1 q2 q3 q4 q5 hkk g0 g1 g2 g3
                    have HXd : Hid (w8.drew.heap[NX]? = some (.cells #[.int .i64 Q1.room, .slice ra1 lq rc1, .bool Q1.down, .int .i64 rr1, .int .u64 (Q1.st : Int)] 30 (0, 0))) := Lib.hid HX8.out
                    have H_d : Hid (DKx S1 w8.drew B m1 mt1 D1 M1 V1) := Lib.hid (H8.out.move (Nat.le_refl _) (fun _ _ _ => rfl))
                    have HN_d : Hid (w8.drew.heap[N]? = some (.cells #[.int .i64 Q.room, .slice a Q.fs.length c, .bool Q.down, .int .i64 ar, .int .u64 (Q.st : Int)] 30 (0, 0))) := Lib.hid HN8.out
                    have HA_d : Hid (RA S1 w8.drew Q1 ra1 rr1) := Lib.hid (HA8.out.below ((Below.refl _ w8).drew))
                    have HB_d : Hid (Below w.heap.size w w8.drew) := Lib.hid HB8.out.drew
                    have HY_d : Hid (w8.drew.heap[NY]? = some (.cells #[.int .i64 yo.kd, .int .i64 yo.n, encStr yo.nm, encStr yo.tt, encStr yo.tx, .slice yo.a yo.ts.length yo.c] 34 (0, 0))) := Lib.hid HY8.out
                    have HV_d : Hid (FRow w8.drew ba D.fs) := Lib.hid (HV8.out.below ((Below.refl _ w8).drew))
                    have HS0 : Hid ((fun W : World => W.heap[NX]? = some (.cells #[.int .i64 Q1.room, .slice ra1 lq rc1, .bool Q1.down, .int .i64 rr1, .int .u64 (Q1.st : Int)] 30 (0, 0))) w8.drew) := Lib.hid HXd.out
                    refine wp_region_held_drew (S := (fun W : World => W.heap[NX]? = some (.cells #[.int .i64 Q1.room, .slice ra1 lq rc1, .bool Q1.down, .int .i64 rr1, .int .u64 (Q1.st : Int)] 30 (0, 0)))) (by kernel_rfl) HS0.out (fun hHeld => ?_)
                    clear hHeld HX8 H8 HN8 HA8 HB8 HV8 HY8
                    generalize w8.drew = wd at HXd H_d HN_d HA_d HB_d HV_d HY_d HS0 ⊢
                    refine wpAnyH_take (i := 0) (oi := { dst := some 92, op := Go.Op.move (Go.Operand.tmp 16), type := 4, pos := "law.go:179", after := #[], guard := none }) (v := ?_) rfl (by kernel_rfl) (by kernel_rfl) (by kernel_rfl) (fun _ _ _ h => h) (Or.inl ⟨by rfl, ?_⟩) HS0.out ?_
                    case refine_2 => (intro w1 hS1; clear hS1; go_simp; try with_reducible rfl)
                    try simp only [Act.put, List.setIfInBounds_toArray, List.set_cons_zero, List.set_cons_succ]
                    refine wpAnyH_take (i := 1) (oi := { dst := some 93, op := Go.Op.move (Go.Operand.tmp 92), type := 4, pos := "law.go:179", after := #[{ on := 0, ground := Go.Ground.data }], guard := none }) (v := ?_) rfl (by kernel_rfl) (by kernel_rfl) (by kernel_rfl) (fun _ _ _ h => h) (Or.inl ⟨by rfl, ?_⟩) HS0.out ?_
                    case refine_2 => (intro w1 hS1; clear hS1; go_simp; try with_reducible rfl)
                    try simp only [Act.put, List.setIfInBounds_toArray, List.set_cons_zero, List.set_cons_succ]
                    refine wpAnyH_take (i := 2) (oi := { dst := some 94, op := Go.Op.move (Go.Operand.tmp 7), type := 24, pos := "law.go:179", after := #[{ on := 1, ground := Go.Ground.guard }], guard := some (1, true) }) (v := ?_) rfl (by kernel_rfl) (by kernel_rfl) (by kernel_rfl) (fun _ _ _ h => h) (Or.inl ⟨by rfl, ?_⟩) HS0.out ?_
                    case refine_2 => (intro w1 hS1; clear hS1; go_simp; try with_reducible rfl)
                    try simp only [Act.put, List.setIfInBounds_toArray, List.set_cons_zero, List.set_cons_succ]
                    refine wpAnyH_take (i := 4) (oi := { dst := some 96, op := Go.Op.fieldAddr 30 (Go.Operand.tmp 14) 1, type := 0, pos := "law.go:179", after := #[{ on := 1, ground := Go.Ground.guard }], guard := some (1, true) }) (v := ?_) rfl (by kernel_rfl) (by kernel_rfl) (by kernel_rfl) (fun _ _ _ h => h) (Or.inl ⟨by rfl, ?_⟩) HS0.out ?_
                    case refine_2 => (intro w1 hS1; clear hS1; go_simp; try with_reducible rfl)
                    try simp only [Act.put, List.setIfInBounds_toArray, List.set_cons_zero, List.set_cons_succ]
                    refine wpAnyH_take (i := 5) (oi := { dst := some 97, op := Go.Op.load 27 (Go.Operand.tmp 96), type := 27, pos := "law.go:179", after := #[{ on := 4, ground := Go.Ground.data }, { on := 1, ground := Go.Ground.guard }], guard := some (1, true) }) (v := .slice ra1 lq rc1) rfl (by kernel_rfl) (by kernel_rfl) (by kernel_rfl) (fun _ _ _ h => h) (Or.inl ⟨by rfl, ?_⟩) HS0.out ?_
                    case refine_1 => (intro w1 hS1; obtain ⟨x0, x1, x2, x3, x4⟩ := five_rd hS1; clear hS1; go_simp; try with_reducible rfl)
                    try simp only [Act.put, List.setIfInBounds_toArray, List.set_cons_zero, List.set_cons_succ]
                    refine wpAnyH_ready (rs := [3]) (by kernel_rfl) (by simp) ?_
                    refine AllReadyH.cons (o := { dst := some 95, op := Go.Op.call { callee := Go.Callee.value (Go.Operand.func 23), args := #[Go.Operand.tmp 94], argTypes := #[24] }, type := 27, pos := "law.go:179", after := #[{ on := 2, ground := Go.Ground.data }, { on := 1, ground := Go.Ground.chain }, { on := 1, ground := Go.Ground.guard }], guard := some (1, true) }) rfl (fun K hK => ?_) AllReadyH.nil
                    go_simp
                    refine (lfiles H_d.out).mono ?_
                    rintro e we ⟨fv, rfl, hof, hb⟩
                    obtain ⟨fa, fc, hfv, hfr⟩ := hof.row
                    rw [HLD1.out] at hfv
                    subst hfv
                    have HFR := Lib.hid hfr
                    clear hof hfr
                    have HXe := Lib.hid (ex_below HXd.out hb)
                    have He := Lib.hid (H_d.out.below hb)
                    have HNe := Lib.hid (ex_below HN_d.out hb)
                    have HAe := Lib.hid (HA_d.out.below hb)
                    have HBe := Lib.hid (HB_d.out.trans (hb.mono HB_d.out.size))
                    have HVe := Lib.hid (HV_d.out.below hb)
                    have HYe := Lib.hid (ex_below HY_d.out hb)
                    have HS0' : Hid ((fun W : World => W.heap[NX]? = some (.cells #[.int .i64 Q1.room, .slice ra1 lq rc1, .bool Q1.down, .int .i64 rr1, .int .u64 (Q1.st : Int)] 30 (0, 0))) we) := Lib.hid HXe.out
                    clear hb HXd H_d HN_d HA_d HB_d HV_d HY_d HS0
                    have HXd := HXe
                    have H_d := He
                    have HN_d := HNe
                    have HA_d := HAe
                    have HB_d := HBe
                    have HV_d := HVe
                    have HY_d := HYe
                    have HS0 := HS0'
                    clear HXe He HNe HAe HBe HVe HYe HS0'
                    refine hK.out _ _ HS0.out (fun hHeld => ?_)
                    clear hK K hHeld
                    generalize we = wd at HXd H_d HN_d HA_d HB_d HV_d HY_d HS0 HFR ⊢
                    try simp only [Act.put, List.setIfInBounds_toArray, List.set_cons_zero, List.set_cons_succ]
                    refine wpAnyH_ready (rs := [6]) (by kernel_rfl) (by simp) ?_
                    refine AllReadyH.cons (o := { dst := some 98, op := Go.Op.call { callee := Go.Callee.value (Go.Operand.func 22), args := #[Go.Operand.tmp 95, Go.Operand.tmp 97], argTypes := #[27, 27] }, type := 4, pos := "law.go:179", after := #[{ on := 3, ground := Go.Ground.data }, { on := 5, ground := Go.Ground.data }, { on := 3, ground := Go.Ground.chain }, { on := 1, ground := Go.Ground.guard }], guard := some (1, true) }) rfl (fun K hK => ?_) AllReadyH.nil
                    go_simp
                    have HC := Lib.hid (rsame_yes fa ra1 fc rc1 D1.fs wd HFR.out (by have h := HA_d.out.row; rw [← HFS.out] at h; exact h) (by have := H_d.out.fit.few; omega))
                    rw [HLD1.out] at HC
                    refine HC.out.mono ?_
                    rintro e we ⟨rfl, hb⟩
                    clear HC HFR
                    have HXe := Lib.hid (ex_below HXd.out hb)
                    have He := Lib.hid (H_d.out.below hb)
                    have HNe := Lib.hid (ex_below HN_d.out hb)
                    have HAe := Lib.hid (HA_d.out.below hb)
                    have HBe := Lib.hid (HB_d.out.trans (hb.mono HB_d.out.size))
                    have HVe := Lib.hid (HV_d.out.below hb)
                    have HYe := Lib.hid (ex_below HY_d.out hb)
                    have HS0' : Hid ((fun W : World => W.heap[NX]? = some (.cells #[.int .i64 Q1.room, .slice ra1 lq rc1, .bool Q1.down, .int .i64 rr1, .int .u64 (Q1.st : Int)] 30 (0, 0))) we) := Lib.hid HXe.out
                    clear hb HXd H_d HN_d HA_d HB_d HV_d HY_d HS0
                    have HXd := HXe
                    have H_d := He
                    have HN_d := HNe
                    have HA_d := HAe
                    have HB_d := HBe
                    have HV_d := HVe
                    have HY_d := HYe
                    have HS0 := HS0'
                    clear HXe He HNe HAe HBe HVe HYe HS0'
                    refine hK.out _ _ HS0.out (fun hHeld => ?_)
                    clear hK K hHeld
                    generalize we = wd at HXd H_d HN_d HA_d HB_d HV_d HY_d HS0 ⊢
                    try simp only [Act.put, List.setIfInBounds_toArray, List.set_cons_zero, List.set_cons_succ]
                    refine wpAnyH_take (i := 7) (oi := { dst := some 99, op := Go.Op.unOp Go.UnOp.not 4 (Go.Operand.tmp 98), type := 4, pos := "law.go:179", after := #[{ on := 6, ground := Go.Ground.data }, { on := 1, ground := Go.Ground.guard }], guard := some (1, true) }) (v := .bool false) rfl (by kernel_rfl) (by kernel_rfl) (by kernel_rfl) (fun _ _ _ h => h) (Or.inl ⟨by rfl, ?_⟩) HS0.out ?_
                    case refine_1 => (intro w1 hS1; clear hS1; go_simp; try with_reducible rfl)
                    try simp only [Act.put, List.setIfInBounds_toArray, List.set_cons_zero, List.set_cons_succ]
                    refine wpAnyH_take (i := 8) (oi := { dst := some 100, op := Go.Op.pick (Go.Operand.tmp 93) (Go.Operand.tmp 99) (Go.Operand.const (Go.Value.bool false)), type := 4, pos := "law.go:179", after := #[{ on := 1, ground := Go.Ground.data }, { on := 7, ground := Go.Ground.data }], guard := none }) (v := .bool false) rfl (by kernel_rfl) (by kernel_rfl) (by kernel_rfl) (fun _ _ _ h => h) (Or.inl ⟨by rfl, ?_⟩) HS0.out ?_
                    case refine_1 => (intro w1 hS1; clear hS1; go_simp; try with_reducible rfl)
                    try simp only [Act.put, List.setIfInBounds_toArray, List.set_cons_zero, List.set_cons_succ]
                    refine wpAnyH_take (i := 9) (oi := { dst := some 101, op := Go.Op.move (Go.Operand.tmp 100), type := 4, pos := "law.go:179", after := #[{ on := 8, ground := Go.Ground.data }, { on := 6, ground := Go.Ground.chain }], guard := none }) (v := ?_) rfl (by kernel_rfl) (by kernel_rfl) (by kernel_rfl) (fun _ _ _ h => h) (Or.inl ⟨by rfl, ?_⟩) HS0.out ?_
                    case refine_2 => (intro w1 hS1; clear hS1; go_simp; try with_reducible rfl)
                    try simp only [Act.put, List.setIfInBounds_toArray, List.set_cons_zero, List.set_cons_succ]
                    refine wpAnyH_take (i := 10) (oi := { dst := some 102, op := Go.Op.move (Go.Operand.tmp 16), type := 4, pos := "law.go:179", after := #[{ on := 9, ground := Go.Ground.guard }], guard := some (9, false) }) (v := ?_) rfl (by kernel_rfl) (by kernel_rfl) (by kernel_rfl) (fun _ _ _ h => h) (Or.inl ⟨by rfl, ?_⟩) HS0.out ?_
                    case refine_2 => (intro w1 hS1; clear hS1; go_simp; try with_reducible rfl)
                    try simp only [Act.put, List.setIfInBounds_toArray, List.set_cons_zero, List.set_cons_succ]
                    refine wpAnyH_take (i := 11) (oi := { dst := some 103, op := Go.Op.unOp Go.UnOp.not 4 (Go.Operand.tmp 102), type := 4, pos := "law.go:179", after := #[{ on := 10, ground := Go.Ground.data }, { on := 9, ground := Go.Ground.guard }], guard := some (9, false) }) (v := .bool false) rfl (by kernel_rfl) (by kernel_rfl) (by kernel_rfl) (fun _ _ _ h => h) (Or.inl ⟨by rfl, ?_⟩) HS0.out ?_
                    case refine_1 => (intro w1 hS1; clear hS1; go_simp; try with_reducible rfl)
                    try simp only [Act.put, List.setIfInBounds_toArray, List.set_cons_zero, List.set_cons_succ]
                    refine wpAnyH_take (i := 12) (oi := { dst := some 104, op := Go.Op.move (Go.Operand.tmp 103), type := 4, pos := "law.go:179", after := #[{ on := 11, ground := Go.Ground.data }, { on := 9, ground := Go.Ground.chain }, { on := 9, ground := Go.Ground.guard }], guard := some (9, false) }) (v := ?_) rfl (by kernel_rfl) (by kernel_rfl) (by kernel_rfl) (fun _ _ _ h => h) (Or.inl ⟨by rfl, ?_⟩) HS0.out ?_
                    case refine_2 => (intro w1 hS1; clear hS1; go_simp; try with_reducible rfl)
                    try simp only [Act.put, List.setIfInBounds_toArray, List.set_cons_zero, List.set_cons_succ]
                    refine wpAnyH_take (i := 13) (oi := { dst := some 105, op := Go.Op.move (Go.Operand.tmp 7), type := 24, pos := "law.go:179", after := #[{ on := 12, ground := Go.Ground.guard }], guard := some (12, true) }) (v := undef) rfl (by kernel_rfl) (by kernel_rfl) (by kernel_rfl) (fun _ _ _ h => h) (Or.inr ⟨by rfl, rfl⟩) HS0.out ?_
                    try simp only [Act.put, List.setIfInBounds_toArray, List.set_cons_zero, List.set_cons_succ]
                    refine wpAnyH_take (i := 14) (oi := { dst := some 106, op := Go.Op.call { callee := Go.Callee.value (Go.Operand.func 23), args := #[Go.Operand.tmp 105], argTypes := #[24] }, type := 27, pos := "law.go:179", after := #[{ on := 13, ground := Go.Ground.data }, { on := 12, ground := Go.Ground.chain }, { on := 12, ground := Go.Ground.guard }], guard := some (12, true) }) (v := undef) rfl (by kernel_rfl) (by kernel_rfl) (by kernel_rfl) (fun _ _ _ h => h) (Or.inr ⟨by rfl, rfl⟩) HS0.out ?_
                    try simp only [Act.put, List.setIfInBounds_toArray, List.set_cons_zero, List.set_cons_succ]
                    refine wpAnyH_take (i := 15) (oi := { dst := some 107, op := Go.Op.move (Go.Operand.tmp 13), type := 27, pos := "law.go:179", after := #[{ on := 12, ground := Go.Ground.guard }], guard := some (12, true) }) (v := undef) rfl (by kernel_rfl) (by kernel_rfl) (by kernel_rfl) (fun _ _ _ h => h) (Or.inr ⟨by rfl, rfl⟩) HS0.out ?_
                    try simp only [Act.put, List.setIfInBounds_toArray, List.set_cons_zero, List.set_cons_succ]
                    refine wpAnyH_take (i := 16) (oi := { dst := some 108, op := Go.Op.call { callee := Go.Callee.value (Go.Operand.func 22), args := #[Go.Operand.tmp 106, Go.Operand.tmp 107], argTypes := #[27, 27] }, type := 4, pos := "law.go:179", after := #[{ on := 14, ground := Go.Ground.data }, { on := 15, ground := Go.Ground.data }, { on := 14, ground := Go.Ground.chain }, { on := 12, ground := Go.Ground.guard }], guard := some (12, true) }) (v := undef) rfl (by kernel_rfl) (by kernel_rfl) (by kernel_rfl) (fun _ _ _ h => h) (Or.inr ⟨by rfl, rfl⟩) HS0.out ?_
                    try simp only [Act.put, List.setIfInBounds_toArray, List.set_cons_zero, List.set_cons_succ]
                    refine wpAnyH_take (i := 17) (oi := { dst := some 109, op := Go.Op.unOp Go.UnOp.not 4 (Go.Operand.tmp 108), type := 4, pos := "law.go:179", after := #[{ on := 16, ground := Go.Ground.data }, { on := 12, ground := Go.Ground.guard }], guard := some (12, true) }) (v := undef) rfl (by kernel_rfl) (by kernel_rfl) (by kernel_rfl) (fun _ _ _ h => h) (Or.inr ⟨by rfl, rfl⟩) HS0.out ?_
                    try simp only [Act.put, List.setIfInBounds_toArray, List.set_cons_zero, List.set_cons_succ]
                    refine wpAnyH_take (i := 18) (oi := { dst := some 110, op := Go.Op.pick (Go.Operand.tmp 104) (Go.Operand.tmp 109) (Go.Operand.const (Go.Value.bool false)), type := 4, pos := "law.go:179", after := #[{ on := 12, ground := Go.Ground.data }, { on := 17, ground := Go.Ground.data }, { on := 9, ground := Go.Ground.guard }], guard := some (9, false) }) (v := .bool false) rfl (by kernel_rfl) (by kernel_rfl) (by kernel_rfl) (fun _ _ _ h => h) (Or.inl ⟨by rfl, ?_⟩) HS0.out ?_
                    case refine_1 => (intro w1 hS1; clear hS1; go_simp; try with_reducible rfl)
                    try simp only [Act.put, List.setIfInBounds_toArray, List.set_cons_zero, List.set_cons_succ]
                    refine wpAnyH_take (i := 19) (oi := { dst := some 111, op := Go.Op.pick (Go.Operand.tmp 101) (Go.Operand.const (Go.Value.bool true)) (Go.Operand.tmp 110), type := 4, pos := "law.go:179", after := #[{ on := 9, ground := Go.Ground.data }, { on := 18, ground := Go.Ground.data }], guard := none }) (v := .bool false) rfl (by kernel_rfl) (by kernel_rfl) (by kernel_rfl) (fun _ _ _ h => h) (Or.inl ⟨by rfl, ?_⟩) HS0.out ?_
                    case refine_1 => (intro w1 hS1; clear hS1; go_simp; try with_reducible rfl)
                    try simp only [Act.put, List.setIfInBounds_toArray, List.set_cons_zero, List.set_cons_succ]
                    refine wpAnyH_done (by kernel_rfl) ?_ _
                    have HXt := HXd
                    have HNt := HN_d
                    have HAt := HA_d
                    have HBt := HB_d
                    have HYt := HY_d
                    have HDKt : Hid (DK S1 wd B D1) := Lib.hid ⟨m1, mt1, M1, V1, H_d.out⟩
                    clear HXd HN_d HA_d HB_d H_d HV_d HY_d HS0
                    rw [← HLQ.out] at HXt
                    try rw [← HLQ.out]
                    go_upto_region 21 with fail
                    obtain ⟨x0, x1, x2, x3, x4⟩ := five_rd HXt.out
                    obtain ⟨c0', c1, c2, c3, c4⟩ := five_rd HNt.out
                    have fz : ∀ o, wd.frozen? ⟨N, o, none⟩ = false := fun o => by simp [World.frozen?, HNt.out]
                    have HN7' := Lib.hid (set5 HNt.out (.int .i64 Q1.room) (.slice ra1 Q1.fs.length rc1) (.bool Q1.down) (.int .i64 rr1) (.int .u64 (Q1.st : Int)))
                    have hoff : ∀ k, k ≠ N → (((((wd.setCell ⟨N, 0, none⟩ (.int .i64 Q1.room)).setCell ⟨N, 1, none⟩ (.slice ra1 Q1.fs.length rc1)).setCell ⟨N, 2, none⟩ (.bool Q1.down)).setCell ⟨N, 3, none⟩ (.int .i64 rr1)).setCell ⟨N, 4, none⟩ (.int .u64 (Q1.st : Int))).heap[k]? = wd.heap[k]? := fun k hk => set5_out hk _ _ _ _ _
                    have HA7' := Lib.hid (HAt.out.box5 (W := (((((wd.setCell ⟨N, 0, none⟩ (.int .i64 Q1.room)).setCell ⟨N, 1, none⟩ (.slice ra1 Q1.fs.length rc1)).setCell ⟨N, 2, none⟩ (.bool Q1.down)).setCell ⟨N, 3, none⟩ (.int .i64 rr1)).setCell ⟨N, 4, none⟩ (.int .u64 (Q1.st : Int)))) HNt.out hoff (by simp))
                    have HDK7' : Hid (DK S1 (((((wd.setCell ⟨N, 0, none⟩ (.int .i64 Q1.room)).setCell ⟨N, 1, none⟩ (.slice ra1 Q1.fs.length rc1)).setCell ⟨N, 2, none⟩ (.bool Q1.down)).setCell ⟨N, 3, none⟩ (.int .i64 rr1)).setCell ⟨N, 4, none⟩ (.int .u64 (Q1.st : Int))) B D1) := Lib.hid (by
                      obtain ⟨m, mt, M, V, hk⟩ := HDKt.out
                      exact ⟨m, mt, M, V, hk.move (by simp) (fun k _ hs => hoff k (HSN1.out k hs).2.1)⟩)
                    have HB7' := Lib.hid (below_two (below_two (below_two (below_two (below_two (HBt.out) (show w.heap.size ≤ N from HNB.out) 0 (.int .i64 Q1.room)) (show w.heap.size ≤ N from HNB.out) 1 (.slice ra1 Q1.fs.length rc1)) (show w.heap.size ≤ N from HNB.out) 2 (.bool Q1.down)) (show w.heap.size ≤ N from HNB.out) 3 (.int .i64 rr1)) (show w.heap.size ≤ N from HNB.out) 4 (.int .u64 (Q1.st : Int)))
                    have HYZ := Lib.hid ((hoff NY HYN.out).trans HYt.out)
                    clear hoff HXt HNt HAt HDKt HBt HYt
                    go_upto_region 22 with fail
                    generalize (((((wd.setCell ⟨N, 0, none⟩ (.int .i64 Q1.room)).setCell ⟨N, 1, none⟩ (.slice ra1 Q1.fs.length rc1)).setCell ⟨N, 2, none⟩ (.bool Q1.down)).setCell ⟨N, 3, none⟩ (.int .i64 rr1)).setCell ⟨N, 4, none⟩ (.int .u64 (Q1.st : Int))) = wt at HN7' HA7' HDK7' HB7' HYZ ⊢
                    clear x0 x1 x2 x3 x4 c0' c1 c2 c3 c4 fz
                    go_wp2_with fail
                    go_roundg (n - (i + 1))
                    case measure => omega
                    case rel => exact ⟨i + 1, S1, D1, Q1, ra1, rc1, rr1, by rw [HWI.out]; rfl, by rw [HSE.out]; rfl, by omega, by omega, HDK7', HA7', HN7', Lib.hid ⟨HB7'.out, HYZ.out⟩, HSN1, HARM1⟩
                  · have g0 : decide (kd = 0) = false := decide_eq_false (by omega)
                    have g1 : (kd == 0) = false := by simp; omega
                    have g2 : decide (kd > 9) = false := decide_eq_false (by omega)
                    have g3 : decide (9 < kd) = false := decide_eq_false (by omega)
                    have g4 : decide (kd < 0) = true := decide_eq_true (by omega)
                    go_upto_region 19 with fail
                    clear q0 q1 q2 q3 q4 q5 hkk g0 g1 g2 g3 g4
                    have HXd : Hid (w8.drew.heap[NX]? = some (.cells #[.int .i64 Q1.room, .slice ra1 lq rc1, .bool Q1.down, .int .i64 rr1, .int .u64 (Q1.st : Int)] 30 (0, 0))) := Lib.hid HX8.out
                    have H_d : Hid (DKx S1 w8.drew B m1 mt1 D1 M1 V1) := Lib.hid (H8.out.move (Nat.le_refl _) (fun _ _ _ => rfl))
                    have HN_d : Hid (w8.drew.heap[N]? = some (.cells #[.int .i64 Q.room, .slice a Q.fs.length c, .bool Q.down, .int .i64 ar, .int .u64 (Q.st : Int)] 30 (0, 0))) := Lib.hid HN8.out
                    have HA_d : Hid (RA S1 w8.drew Q1 ra1 rr1) := Lib.hid (HA8.out.below ((Below.refl _ w8).drew))
                    have HB_d : Hid (Below w.heap.size w w8.drew) := Lib.hid HB8.out.drew
                    have HY_d : Hid (w8.drew.heap[NY]? = some (.cells #[.int .i64 yo.kd, .int .i64 yo.n, encStr yo.nm, encStr yo.tt, encStr yo.tx, .slice yo.a yo.ts.length yo.c] 34 (0, 0))) := Lib.hid HY8.out
                    have HV_d : Hid (FRow w8.drew ba D.fs) := Lib.hid (HV8.out.below ((Below.refl _ w8).drew))
                    have HS0 : Hid ((fun W : World => W.heap[NX]? = some (.cells #[.int .i64 Q1.room, .slice ra1 lq rc1, .bool Q1.down, .int .i64 rr1, .int .u64 (Q1.st : Int)] 30 (0, 0))) w8.drew) := Lib.hid HXd.out
                    refine wp_region_held_drew (S := (fun W : World => W.heap[NX]? = some (.cells #[.int .i64 Q1.room, .slice ra1 lq rc1, .bool Q1.down, .int .i64 rr1, .int .u64 (Q1.st : Int)] 30 (0, 0)))) (by kernel_rfl) HS0.out (fun hHeld => ?_)
                    clear hHeld HX8 H8 HN8 HA8 HB8 HV8 HY8
                    generalize w8.drew = wd at HXd H_d HN_d HA_d HB_d HV_d HY_d HS0 ⊢
                    refine wpAnyH_take (i := 0) (oi := { dst := some 92, op := Go.Op.move (Go.Operand.tmp 16), type := 4, pos := "law.go:179", after := #[], guard := none }) (v := ?_) rfl (by kernel_rfl) (by kernel_rfl) (by kernel_rfl) (fun _ _ _ h => h) (Or.inl ⟨by rfl, ?_⟩) HS0.out ?_
                    case refine_2 => (intro w1 hS1; clear hS1; go_simp; try with_reducible rfl)
                    try simp only [Act.put, List.setIfInBounds_toArray, List.set_cons_zero, List.set_cons_succ]
                    refine wpAnyH_take (i := 1) (oi := { dst := some 93, op := Go.Op.move (Go.Operand.tmp 92), type := 4, pos := "law.go:179", after := #[{ on := 0, ground := Go.Ground.data }], guard := none }) (v := ?_) rfl (by kernel_rfl) (by kernel_rfl) (by kernel_rfl) (fun _ _ _ h => h) (Or.inl ⟨by rfl, ?_⟩) HS0.out ?_
                    case refine_2 => (intro w1 hS1; clear hS1; go_simp; try with_reducible rfl)
                    try simp only [Act.put, List.setIfInBounds_toArray, List.set_cons_zero, List.set_cons_succ]
                    refine wpAnyH_take (i := 2) (oi := { dst := some 94, op := Go.Op.move (Go.Operand.tmp 7), type := 24, pos := "law.go:179", after := #[{ on := 1, ground := Go.Ground.guard }], guard := some (1, true) }) (v := ?_) rfl (by kernel_rfl) (by kernel_rfl) (by kernel_rfl) (fun _ _ _ h => h) (Or.inl ⟨by rfl, ?_⟩) HS0.out ?_
                    case refine_2 => (intro w1 hS1; clear hS1; go_simp; try with_reducible rfl)
                    try simp only [Act.put, List.setIfInBounds_toArray, List.set_cons_zero, List.set_cons_succ]
                    refine wpAnyH_take (i := 4) (oi := { dst := some 96, op := Go.Op.fieldAddr 30 (Go.Operand.tmp 14) 1, type := 0, pos := "law.go:179", after := #[{ on := 1, ground := Go.Ground.guard }], guard := some (1, true) }) (v := ?_) rfl (by kernel_rfl) (by kernel_rfl) (by kernel_rfl) (fun _ _ _ h => h) (Or.inl ⟨by rfl, ?_⟩) HS0.out ?_
                    case refine_2 => (intro w1 hS1; clear hS1; go_simp; try with_reducible rfl)
                    try simp only [Act.put, List.setIfInBounds_toArray, List.set_cons_zero, List.set_cons_succ]
                    refine wpAnyH_take (i := 5) (oi := { dst := some 97, op := Go.Op.load 27 (Go.Operand.tmp 96), type := 27, pos := "law.go:179", after := #[{ on := 4, ground := Go.Ground.data }, { on := 1, ground := Go.Ground.guard }], guard := some (1, true) }) (v := .slice ra1 lq rc1) rfl (by kernel_rfl) (by kernel_rfl) (by kernel_rfl) (fun _ _ _ h => h) (Or.inl ⟨by rfl, ?_⟩) HS0.out ?_
                    case refine_1 => (intro w1 hS1; obtain ⟨x0, x1, x2, x3, x4⟩ := five_rd hS1; clear hS1; go_simp; try with_reducible rfl)
                    try simp only [Act.put, List.setIfInBounds_toArray, List.set_cons_zero, List.set_cons_succ]
                    refine wpAnyH_ready (rs := [3]) (by kernel_rfl) (by simp) ?_
                    refine AllReadyH.cons (o := { dst := some 95, op := Go.Op.call { callee := Go.Callee.value (Go.Operand.func 23), args := #[Go.Operand.tmp 94], argTypes := #[24] }, type := 27, pos := "law.go:179", after := #[{ on := 2, ground := Go.Ground.data }, { on := 1, ground := Go.Ground.chain }, { on := 1, ground := Go.Ground.guard }], guard := some (1, true) }) rfl (fun K hK => ?_) AllReadyH.nil
                    go_simp
                    refine (lfiles H_d.out).mono ?_
                    rintro e we ⟨fv, rfl, hof, hb⟩
                    obtain ⟨fa, fc, hfv, hfr⟩ := hof.row
                    rw [HLD1.out] at hfv
                    subst hfv
                    have HFR := Lib.hid hfr
                    clear hof hfr
                    have HXe := Lib.hid (ex_below HXd.out hb)
                    have He := Lib.hid (H_d.out.below hb)
                    have HNe := Lib.hid (ex_below HN_d.out hb)
                    have HAe := Lib.hid (HA_d.out.below hb)
                    have HBe := Lib.hid (HB_d.out.trans (hb.mono HB_d.out.size))
                    have HVe := Lib.hid (HV_d.out.below hb)
                    have HYe := Lib.hid (ex_below HY_d.out hb)
                    have HS0' : Hid ((fun W : World => W.heap[NX]? = some (.cells #[.int .i64 Q1.room, .slice ra1 lq rc1, .bool Q1.down, .int .i64 rr1, .int .u64 (Q1.st : Int)] 30 (0, 0))) we) := Lib.hid HXe.out
                    clear hb HXd H_d HN_d HA_d HB_d HV_d HY_d HS0
                    have HXd := HXe
                    have H_d := He
                    have HN_d := HNe
                    have HA_d := HAe
                    have HB_d := HBe
                    have HV_d := HVe
                    have HY_d := HYe
                    have HS0 := HS0'
                    clear HXe He HNe HAe HBe HVe HYe HS0'
                    refine hK.out _ _ HS0.out (fun hHeld => ?_)
                    clear hK K hHeld
                    generalize we = wd at HXd H_d HN_d HA_d HB_d HV_d HY_d HS0 HFR ⊢
                    try simp only [Act.put, List.setIfInBounds_toArray, List.set_cons_zero, List.set_cons_succ]
                    refine wpAnyH_ready (rs := [6]) (by kernel_rfl) (by simp) ?_
                    refine AllReadyH.cons (o := { dst := some 98, op := Go.Op.call { callee := Go.Callee.value (Go.Operand.func 22), args := #[Go.Operand.tmp 95, Go.Operand.tmp 97], argTypes := #[27, 27] }, type := 4, pos := "law.go:179", after := #[{ on := 3, ground := Go.Ground.data }, { on := 5, ground := Go.Ground.data }, { on := 3, ground := Go.Ground.chain }, { on := 1, ground := Go.Ground.guard }], guard := some (1, true) }) rfl (fun K hK => ?_) AllReadyH.nil
                    go_simp
                    have HC := Lib.hid (rsame_yes fa ra1 fc rc1 D1.fs wd HFR.out (by have h := HA_d.out.row; rw [← HFS.out] at h; exact h) (by have := H_d.out.fit.few; omega))
                    rw [HLD1.out] at HC
                    refine HC.out.mono ?_
                    rintro e we ⟨rfl, hb⟩
                    clear HC HFR
                    have HXe := Lib.hid (ex_below HXd.out hb)
                    have He := Lib.hid (H_d.out.below hb)
                    have HNe := Lib.hid (ex_below HN_d.out hb)
                    have HAe := Lib.hid (HA_d.out.below hb)
                    have HBe := Lib.hid (HB_d.out.trans (hb.mono HB_d.out.size))
                    have HVe := Lib.hid (HV_d.out.below hb)
                    have HYe := Lib.hid (ex_below HY_d.out hb)
                    have HS0' : Hid ((fun W : World => W.heap[NX]? = some (.cells #[.int .i64 Q1.room, .slice ra1 lq rc1, .bool Q1.down, .int .i64 rr1, .int .u64 (Q1.st : Int)] 30 (0, 0))) we) := Lib.hid HXe.out
                    clear hb HXd H_d HN_d HA_d HB_d HV_d HY_d HS0
                    have HXd := HXe
                    have H_d := He
                    have HN_d := HNe
                    have HA_d := HAe
                    have HB_d := HBe
                    have HV_d := HVe
                    have HY_d := HYe
                    have HS0 := HS0'
                    clear HXe He HNe HAe HBe HVe HYe HS0'
                    refine hK.out _ _ HS0.out (fun hHeld => ?_)
                    clear hK K hHeld
                    generalize we = wd at HXd H_d HN_d HA_d HB_d HV_d HY_d HS0 ⊢
                    try simp only [Act.put, List.setIfInBounds_toArray, List.set_cons_zero, List.set_cons_succ]
                    refine wpAnyH_take (i := 7) (oi := { dst := some 99, op := Go.Op.unOp Go.UnOp.not 4 (Go.Operand.tmp 98), type := 4, pos := "law.go:179", after := #[{ on := 6, ground := Go.Ground.data }, { on := 1, ground := Go.Ground.guard }], guard := some (1, true) }) (v := .bool false) rfl (by kernel_rfl) (by kernel_rfl) (by kernel_rfl) (fun _ _ _ h => h) (Or.inl ⟨by rfl, ?_⟩) HS0.out ?_
                    case refine_1 => (intro w1 hS1; clear hS1; go_simp; try with_reducible rfl)
                    try simp only [Act.put, List.setIfInBounds_toArray, List.set_cons_zero, List.set_cons_succ]
                    refine wpAnyH_take (i := 8) (oi := { dst := some 100, op := Go.Op.pick (Go.Operand.tmp 93) (Go.Operand.tmp 99) (Go.Operand.const (Go.Value.bool false)), type := 4, pos := "law.go:179", after := #[{ on := 1, ground := Go.Ground.data }, { on := 7, ground := Go.Ground.data }], guard := none }) (v := .bool false) rfl (by kernel_rfl) (by kernel_rfl) (by kernel_rfl) (fun _ _ _ h => h) (Or.inl ⟨by rfl, ?_⟩) HS0.out ?_
                    case refine_1 => (intro w1 hS1; clear hS1; go_simp; try with_reducible rfl)
                    try simp only [Act.put, List.setIfInBounds_toArray, List.set_cons_zero, List.set_cons_succ]
                    refine wpAnyH_take (i := 9) (oi := { dst := some 101, op := Go.Op.move (Go.Operand.tmp 100), type := 4, pos := "law.go:179", after := #[{ on := 8, ground := Go.Ground.data }, { on := 6, ground := Go.Ground.chain }], guard := none }) (v := ?_) rfl (by kernel_rfl) (by kernel_rfl) (by kernel_rfl) (fun _ _ _ h => h) (Or.inl ⟨by rfl, ?_⟩) HS0.out ?_
                    case refine_2 => (intro w1 hS1; clear hS1; go_simp; try with_reducible rfl)
                    try simp only [Act.put, List.setIfInBounds_toArray, List.set_cons_zero, List.set_cons_succ]
                    refine wpAnyH_take (i := 10) (oi := { dst := some 102, op := Go.Op.move (Go.Operand.tmp 16), type := 4, pos := "law.go:179", after := #[{ on := 9, ground := Go.Ground.guard }], guard := some (9, false) }) (v := ?_) rfl (by kernel_rfl) (by kernel_rfl) (by kernel_rfl) (fun _ _ _ h => h) (Or.inl ⟨by rfl, ?_⟩) HS0.out ?_
                    case refine_2 => (intro w1 hS1; clear hS1; go_simp; try with_reducible rfl)
                    try simp only [Act.put, List.setIfInBounds_toArray, List.set_cons_zero, List.set_cons_succ]
                    refine wpAnyH_take (i := 11) (oi := { dst := some 103, op := Go.Op.unOp Go.UnOp.not 4 (Go.Operand.tmp 102), type := 4, pos := "law.go:179", after := #[{ on := 10, ground := Go.Ground.data }, { on := 9, ground := Go.Ground.guard }], guard := some (9, false) }) (v := .bool false) rfl (by kernel_rfl) (by kernel_rfl) (by kernel_rfl) (fun _ _ _ h => h) (Or.inl ⟨by rfl, ?_⟩) HS0.out ?_
                    case refine_1 => (intro w1 hS1; clear hS1; go_simp; try with_reducible rfl)
                    try simp only [Act.put, List.setIfInBounds_toArray, List.set_cons_zero, List.set_cons_succ]
                    refine wpAnyH_take (i := 12) (oi := { dst := some 104, op := Go.Op.move (Go.Operand.tmp 103), type := 4, pos := "law.go:179", after := #[{ on := 11, ground := Go.Ground.data }, { on := 9, ground := Go.Ground.chain }, { on := 9, ground := Go.Ground.guard }], guard := some (9, false) }) (v := ?_) rfl (by kernel_rfl) (by kernel_rfl) (by kernel_rfl) (fun _ _ _ h => h) (Or.inl ⟨by rfl, ?_⟩) HS0.out ?_
                    case refine_2 => (intro w1 hS1; clear hS1; go_simp; try with_reducible rfl)
                    try simp only [Act.put, List.setIfInBounds_toArray, List.set_cons_zero, List.set_cons_succ]
                    refine wpAnyH_take (i := 13) (oi := { dst := some 105, op := Go.Op.move (Go.Operand.tmp 7), type := 24, pos := "law.go:179", after := #[{ on := 12, ground := Go.Ground.guard }], guard := some (12, true) }) (v := undef) rfl (by kernel_rfl) (by kernel_rfl) (by kernel_rfl) (fun _ _ _ h => h) (Or.inr ⟨by rfl, rfl⟩) HS0.out ?_
                    try simp only [Act.put, List.setIfInBounds_toArray, List.set_cons_zero, List.set_cons_succ]
                    refine wpAnyH_take (i := 14) (oi := { dst := some 106, op := Go.Op.call { callee := Go.Callee.value (Go.Operand.func 23), args := #[Go.Operand.tmp 105], argTypes := #[24] }, type := 27, pos := "law.go:179", after := #[{ on := 13, ground := Go.Ground.data }, { on := 12, ground := Go.Ground.chain }, { on := 12, ground := Go.Ground.guard }], guard := some (12, true) }) (v := undef) rfl (by kernel_rfl) (by kernel_rfl) (by kernel_rfl) (fun _ _ _ h => h) (Or.inr ⟨by rfl, rfl⟩) HS0.out ?_
                    try simp only [Act.put, List.setIfInBounds_toArray, List.set_cons_zero, List.set_cons_succ]
                    refine wpAnyH_take (i := 15) (oi := { dst := some 107, op := Go.Op.move (Go.Operand.tmp 13), type := 27, pos := "law.go:179", after := #[{ on := 12, ground := Go.Ground.guard }], guard := some (12, true) }) (v := undef) rfl (by kernel_rfl) (by kernel_rfl) (by kernel_rfl) (fun _ _ _ h => h) (Or.inr ⟨by rfl, rfl⟩) HS0.out ?_
                    try simp only [Act.put, List.setIfInBounds_toArray, List.set_cons_zero, List.set_cons_succ]
                    refine wpAnyH_take (i := 16) (oi := { dst := some 108, op := Go.Op.call { callee := Go.Callee.value (Go.Operand.func 22), args := #[Go.Operand.tmp 106, Go.Operand.tmp 107], argTypes := #[27, 27] }, type := 4, pos := "law.go:179", after := #[{ on := 14, ground := Go.Ground.data }, { on := 15, ground := Go.Ground.data }, { on := 14, ground := Go.Ground.chain }, { on := 12, ground := Go.Ground.guard }], guard := some (12, true) }) (v := undef) rfl (by kernel_rfl) (by kernel_rfl) (by kernel_rfl) (fun _ _ _ h => h) (Or.inr ⟨by rfl, rfl⟩) HS0.out ?_
                    try simp only [Act.put, List.setIfInBounds_toArray, List.set_cons_zero, List.set_cons_succ]
                    refine wpAnyH_take (i := 17) (oi := { dst := some 109, op := Go.Op.unOp Go.UnOp.not 4 (Go.Operand.tmp 108), type := 4, pos := "law.go:179", after := #[{ on := 16, ground := Go.Ground.data }, { on := 12, ground := Go.Ground.guard }], guard := some (12, true) }) (v := undef) rfl (by kernel_rfl) (by kernel_rfl) (by kernel_rfl) (fun _ _ _ h => h) (Or.inr ⟨by rfl, rfl⟩) HS0.out ?_
                    try simp only [Act.put, List.setIfInBounds_toArray, List.set_cons_zero, List.set_cons_succ]
                    refine wpAnyH_take (i := 18) (oi := { dst := some 110, op := Go.Op.pick (Go.Operand.tmp 104) (Go.Operand.tmp 109) (Go.Operand.const (Go.Value.bool false)), type := 4, pos := "law.go:179", after := #[{ on := 12, ground := Go.Ground.data }, { on := 17, ground := Go.Ground.data }, { on := 9, ground := Go.Ground.guard }], guard := some (9, false) }) (v := .bool false) rfl (by kernel_rfl) (by kernel_rfl) (by kernel_rfl) (fun _ _ _ h => h) (Or.inl ⟨by rfl, ?_⟩) HS0.out ?_
                    case refine_1 => (intro w1 hS1; clear hS1; go_simp; try with_reducible rfl)
                    try simp only [Act.put, List.setIfInBounds_toArray, List.set_cons_zero, List.set_cons_succ]
                    refine wpAnyH_take (i := 19) (oi := { dst := some 111, op := Go.Op.pick (Go.Operand.tmp 101) (Go.Operand.const (Go.Value.bool true)) (Go.Operand.tmp 110), type := 4, pos := "law.go:179", after := #[{ on := 9, ground := Go.Ground.data }, { on := 18, ground := Go.Ground.data }], guard := none }) (v := .bool false) rfl (by kernel_rfl) (by kernel_rfl) (by kernel_rfl) (fun _ _ _ h => h) (Or.inl ⟨by rfl, ?_⟩) HS0.out ?_
                    case refine_1 => (intro w1 hS1; clear hS1; go_simp; try with_reducible rfl)
                    try simp only [Act.put, List.setIfInBounds_toArray, List.set_cons_zero, List.set_cons_succ]
                    refine wpAnyH_done (by kernel_rfl) ?_ _
                    have HXt := HXd
                    have HNt := HN_d
                    have HAt := HA_d
                    have HBt := HB_d
                    have HYt := HY_d
                    have HDKt : Hid (DK S1 wd B D1) := Lib.hid ⟨m1, mt1, M1, V1, H_d.out⟩
                    clear HXd HN_d HA_d HB_d H_d HV_d HY_d HS0
                    rw [← HLQ.out] at HXt
                    try rw [← HLQ.out]
                    go_upto_region 21 with fail
                    obtain ⟨x0, x1, x2, x3, x4⟩ := five_rd HXt.out
                    obtain ⟨c0', c1, c2, c3, c4⟩ := five_rd HNt.out
                    have fz : ∀ o, wd.frozen? ⟨N, o, none⟩ = false := fun o => by simp [World.frozen?, HNt.out]
                    have HN7' := Lib.hid (set5 HNt.out (.int .i64 Q1.room) (.slice ra1 Q1.fs.length rc1) (.bool Q1.down) (.int .i64 rr1) (.int .u64 (Q1.st : Int)))
                    have hoff : ∀ k, k ≠ N → (((((wd.setCell ⟨N, 0, none⟩ (.int .i64 Q1.room)).setCell ⟨N, 1, none⟩ (.slice ra1 Q1.fs.length rc1)).setCell ⟨N, 2, none⟩ (.bool Q1.down)).setCell ⟨N, 3, none⟩ (.int .i64 rr1)).setCell ⟨N, 4, none⟩ (.int .u64 (Q1.st : Int))).heap[k]? = wd.heap[k]? := fun k hk => set5_out hk _ _ _ _ _
                    have HA7' := Lib.hid (HAt.out.box5 (W := (((((wd.setCell ⟨N, 0, none⟩ (.int .i64 Q1.room)).setCell ⟨N, 1, none⟩ (.slice ra1 Q1.fs.length rc1)).setCell ⟨N, 2, none⟩ (.bool Q1.down)).setCell ⟨N, 3, none⟩ (.int .i64 rr1)).setCell ⟨N, 4, none⟩ (.int .u64 (Q1.st : Int)))) HNt.out hoff (by simp))
                    have HDK7' : Hid (DK S1 (((((wd.setCell ⟨N, 0, none⟩ (.int .i64 Q1.room)).setCell ⟨N, 1, none⟩ (.slice ra1 Q1.fs.length rc1)).setCell ⟨N, 2, none⟩ (.bool Q1.down)).setCell ⟨N, 3, none⟩ (.int .i64 rr1)).setCell ⟨N, 4, none⟩ (.int .u64 (Q1.st : Int))) B D1) := Lib.hid (by
                      obtain ⟨m, mt, M, V, hk⟩ := HDKt.out
                      exact ⟨m, mt, M, V, hk.move (by simp) (fun k _ hs => hoff k (HSN1.out k hs).2.1)⟩)
                    have HB7' := Lib.hid (below_two (below_two (below_two (below_two (below_two (HBt.out) (show w.heap.size ≤ N from HNB.out) 0 (.int .i64 Q1.room)) (show w.heap.size ≤ N from HNB.out) 1 (.slice ra1 Q1.fs.length rc1)) (show w.heap.size ≤ N from HNB.out) 2 (.bool Q1.down)) (show w.heap.size ≤ N from HNB.out) 3 (.int .i64 rr1)) (show w.heap.size ≤ N from HNB.out) 4 (.int .u64 (Q1.st : Int)))
                    have HYZ := Lib.hid ((hoff NY HYN.out).trans HYt.out)
                    clear hoff HXt HNt HAt HDKt HBt HYt
                    go_upto_region 22 with fail
                    generalize (((((wd.setCell ⟨N, 0, none⟩ (.int .i64 Q1.room)).setCell ⟨N, 1, none⟩ (.slice ra1 Q1.fs.length rc1)).setCell ⟨N, 2, none⟩ (.bool Q1.down)).setCell ⟨N, 3, none⟩ (.int .i64 rr1)).setCell ⟨N, 4, none⟩ (.int .u64 (Q1.st : Int))) = wt at HN7' HA7' HDK7' HB7' HYZ ⊢
                    clear x0 x1 x2 x3 x4 c0' c1 c2 c3 c4 fz
                    go_wp2_with fail
                    go_roundg (n - (i + 1))
                    case measure => omega
                    case rel => exact ⟨i + 1, S1, D1, Q1, ra1, rc1, rr1, by rw [HWI.out]; rfl, by rw [HSE.out]; rfl, by omega, by omega, HDK7', HA7', HN7', Lib.hid ⟨HB7'.out, HYZ.out⟩, HSN1, HARM1⟩
                | false =>
                  have HFS : Hid (D1.fs = D.fs) := Lib.hid (by have := HFD.out HDN.out; rw [hap] at this; exact this)
                  have HLD1 : Hid (D1.fs.length = lb) := Lib.hid (by rw [HFS.out]; exact HLB.out)
                  have hkk : 1 ≤ kd ∧ kd ≤ 5 := by
                    unfold appK at hap
                    rw [Bool.not_eq_false', Bool.and_eq_true] at hap
                    exact ⟨of_decide_eq_true hap.1, of_decide_eq_true hap.2⟩
                  have g0 : decide (kd = 0) = false := decide_eq_false (by omega)
                  have g1 : (kd == 0) = false := by simp; omega
                  have g2 : decide (kd > 9) = false := decide_eq_false (by omega)
                  have g3 : decide (9 < kd) = false := decide_eq_false (by omega)
                  have g4 : decide (kd < 0) = false := decide_eq_false (by omega)
                  go_upto_region 19 with fail
                  clear q0 q1 q2 q3 q4 q5 hkk g0 g1 g2 g3 g4
                  have HXd : Hid (w8.drew.heap[NX]? = some (.cells #[.int .i64 Q1.room, .slice ra1 lq rc1, .bool Q1.down, .int .i64 rr1, .int .u64 (Q1.st : Int)] 30 (0, 0))) := Lib.hid HX8.out
                  have H_d : Hid (DKx S1 w8.drew B m1 mt1 D1 M1 V1) := Lib.hid (H8.out.move (Nat.le_refl _) (fun _ _ _ => rfl))
                  have HN_d : Hid (w8.drew.heap[N]? = some (.cells #[.int .i64 Q.room, .slice a Q.fs.length c, .bool Q.down, .int .i64 ar, .int .u64 (Q.st : Int)] 30 (0, 0))) := Lib.hid HN8.out
                  have HA_d : Hid (RA S1 w8.drew Q1 ra1 rr1) := Lib.hid (HA8.out.below ((Below.refl _ w8).drew))
                  have HB_d : Hid (Below w.heap.size w w8.drew) := Lib.hid HB8.out.drew
                  have HY_d : Hid (w8.drew.heap[NY]? = some (.cells #[.int .i64 yo.kd, .int .i64 yo.n, encStr yo.nm, encStr yo.tt, encStr yo.tx, .slice yo.a yo.ts.length yo.c] 34 (0, 0))) := Lib.hid HY8.out
                  have HV_d : Hid (FRow w8.drew ba D.fs) := Lib.hid (HV8.out.below ((Below.refl _ w8).drew))
                  have HS0 : Hid ((fun W : World => W.heap[NX]? = some (.cells #[.int .i64 Q1.room, .slice ra1 lq rc1, .bool Q1.down, .int .i64 rr1, .int .u64 (Q1.st : Int)] 30 (0, 0))) w8.drew) := Lib.hid HXd.out
                  refine wp_region_held_drew (S := (fun W : World => W.heap[NX]? = some (.cells #[.int .i64 Q1.room, .slice ra1 lq rc1, .bool Q1.down, .int .i64 rr1, .int .u64 (Q1.st : Int)] 30 (0, 0)))) (by kernel_rfl) HS0.out (fun hHeld => ?_)
                  clear hHeld HX8 H8 HN8 HA8 HB8 HV8 HY8
                  generalize w8.drew = wd at HXd H_d HN_d HA_d HB_d HV_d HY_d HS0 ⊢
                  refine wpAnyH_take (i := 0) (oi := { dst := some 92, op := Go.Op.move (Go.Operand.tmp 16), type := 4, pos := "law.go:179", after := #[], guard := none }) (v := ?_) rfl (by kernel_rfl) (by kernel_rfl) (by kernel_rfl) (fun _ _ _ h => h) (Or.inl ⟨by rfl, ?_⟩) HS0.out ?_
                  case refine_2 => (intro w1 hS1; clear hS1; go_simp; try with_reducible rfl)
                  try simp only [Act.put, List.setIfInBounds_toArray, List.set_cons_zero, List.set_cons_succ]
                  refine wpAnyH_take (i := 1) (oi := { dst := some 93, op := Go.Op.move (Go.Operand.tmp 92), type := 4, pos := "law.go:179", after := #[{ on := 0, ground := Go.Ground.data }], guard := none }) (v := ?_) rfl (by kernel_rfl) (by kernel_rfl) (by kernel_rfl) (fun _ _ _ h => h) (Or.inl ⟨by rfl, ?_⟩) HS0.out ?_
                  case refine_2 => (intro w1 hS1; clear hS1; go_simp; try with_reducible rfl)
                  try simp only [Act.put, List.setIfInBounds_toArray, List.set_cons_zero, List.set_cons_succ]
                  refine wpAnyH_take (i := 2) (oi := { dst := some 94, op := Go.Op.move (Go.Operand.tmp 7), type := 24, pos := "law.go:179", after := #[{ on := 1, ground := Go.Ground.guard }], guard := some (1, true) }) (v := undef) rfl (by kernel_rfl) (by kernel_rfl) (by kernel_rfl) (fun _ _ _ h => h) (Or.inr ⟨by rfl, rfl⟩) HS0.out ?_
                  try simp only [Act.put, List.setIfInBounds_toArray, List.set_cons_zero, List.set_cons_succ]
                  refine wpAnyH_take (i := 3) (oi := { dst := some 95, op := Go.Op.call { callee := Go.Callee.value (Go.Operand.func 23), args := #[Go.Operand.tmp 94], argTypes := #[24] }, type := 27, pos := "law.go:179", after := #[{ on := 2, ground := Go.Ground.data }, { on := 1, ground := Go.Ground.chain }, { on := 1, ground := Go.Ground.guard }], guard := some (1, true) }) (v := undef) rfl (by kernel_rfl) (by kernel_rfl) (by kernel_rfl) (fun _ _ _ h => h) (Or.inr ⟨by rfl, rfl⟩) HS0.out ?_
                  try simp only [Act.put, List.setIfInBounds_toArray, List.set_cons_zero, List.set_cons_succ]
                  refine wpAnyH_take (i := 4) (oi := { dst := some 96, op := Go.Op.fieldAddr 30 (Go.Operand.tmp 14) 1, type := 0, pos := "law.go:179", after := #[{ on := 1, ground := Go.Ground.guard }], guard := some (1, true) }) (v := undef) rfl (by kernel_rfl) (by kernel_rfl) (by kernel_rfl) (fun _ _ _ h => h) (Or.inr ⟨by rfl, rfl⟩) HS0.out ?_
                  try simp only [Act.put, List.setIfInBounds_toArray, List.set_cons_zero, List.set_cons_succ]
                  refine wpAnyH_take (i := 5) (oi := { dst := some 97, op := Go.Op.load 27 (Go.Operand.tmp 96), type := 27, pos := "law.go:179", after := #[{ on := 4, ground := Go.Ground.data }, { on := 1, ground := Go.Ground.guard }], guard := some (1, true) }) (v := undef) rfl (by kernel_rfl) (by kernel_rfl) (by kernel_rfl) (fun _ _ _ h => h) (Or.inr ⟨by rfl, rfl⟩) HS0.out ?_
                  try simp only [Act.put, List.setIfInBounds_toArray, List.set_cons_zero, List.set_cons_succ]
                  refine wpAnyH_take (i := 6) (oi := { dst := some 98, op := Go.Op.call { callee := Go.Callee.value (Go.Operand.func 22), args := #[Go.Operand.tmp 95, Go.Operand.tmp 97], argTypes := #[27, 27] }, type := 4, pos := "law.go:179", after := #[{ on := 3, ground := Go.Ground.data }, { on := 5, ground := Go.Ground.data }, { on := 3, ground := Go.Ground.chain }, { on := 1, ground := Go.Ground.guard }], guard := some (1, true) }) (v := undef) rfl (by kernel_rfl) (by kernel_rfl) (by kernel_rfl) (fun _ _ _ h => h) (Or.inr ⟨by rfl, rfl⟩) HS0.out ?_
                  try simp only [Act.put, List.setIfInBounds_toArray, List.set_cons_zero, List.set_cons_succ]
                  refine wpAnyH_take (i := 7) (oi := { dst := some 99, op := Go.Op.unOp Go.UnOp.not 4 (Go.Operand.tmp 98), type := 4, pos := "law.go:179", after := #[{ on := 6, ground := Go.Ground.data }, { on := 1, ground := Go.Ground.guard }], guard := some (1, true) }) (v := undef) rfl (by kernel_rfl) (by kernel_rfl) (by kernel_rfl) (fun _ _ _ h => h) (Or.inr ⟨by rfl, rfl⟩) HS0.out ?_
                  try simp only [Act.put, List.setIfInBounds_toArray, List.set_cons_zero, List.set_cons_succ]
                  refine wpAnyH_take (i := 8) (oi := { dst := some 100, op := Go.Op.pick (Go.Operand.tmp 93) (Go.Operand.tmp 99) (Go.Operand.const (Go.Value.bool false)), type := 4, pos := "law.go:179", after := #[{ on := 1, ground := Go.Ground.data }, { on := 7, ground := Go.Ground.data }], guard := none }) (v := .bool false) rfl (by kernel_rfl) (by kernel_rfl) (by kernel_rfl) (fun _ _ _ h => h) (Or.inl ⟨by rfl, ?_⟩) HS0.out ?_
                  case refine_1 => (intro w1 hS1; clear hS1; go_simp; try with_reducible rfl)
                  try simp only [Act.put, List.setIfInBounds_toArray, List.set_cons_zero, List.set_cons_succ]
                  refine wpAnyH_take (i := 9) (oi := { dst := some 101, op := Go.Op.move (Go.Operand.tmp 100), type := 4, pos := "law.go:179", after := #[{ on := 8, ground := Go.Ground.data }, { on := 6, ground := Go.Ground.chain }], guard := none }) (v := ?_) rfl (by kernel_rfl) (by kernel_rfl) (by kernel_rfl) (fun _ _ _ h => h) (Or.inl ⟨by rfl, ?_⟩) HS0.out ?_
                  case refine_2 => (intro w1 hS1; clear hS1; go_simp; try with_reducible rfl)
                  try simp only [Act.put, List.setIfInBounds_toArray, List.set_cons_zero, List.set_cons_succ]
                  refine wpAnyH_take (i := 10) (oi := { dst := some 102, op := Go.Op.move (Go.Operand.tmp 16), type := 4, pos := "law.go:179", after := #[{ on := 9, ground := Go.Ground.guard }], guard := some (9, false) }) (v := ?_) rfl (by kernel_rfl) (by kernel_rfl) (by kernel_rfl) (fun _ _ _ h => h) (Or.inl ⟨by rfl, ?_⟩) HS0.out ?_
                  case refine_2 => (intro w1 hS1; clear hS1; go_simp; try with_reducible rfl)
                  try simp only [Act.put, List.setIfInBounds_toArray, List.set_cons_zero, List.set_cons_succ]
                  refine wpAnyH_take (i := 11) (oi := { dst := some 103, op := Go.Op.unOp Go.UnOp.not 4 (Go.Operand.tmp 102), type := 4, pos := "law.go:179", after := #[{ on := 10, ground := Go.Ground.data }, { on := 9, ground := Go.Ground.guard }], guard := some (9, false) }) (v := .bool true) rfl (by kernel_rfl) (by kernel_rfl) (by kernel_rfl) (fun _ _ _ h => h) (Or.inl ⟨by rfl, ?_⟩) HS0.out ?_
                  case refine_1 => (intro w1 hS1; clear hS1; go_simp; try with_reducible rfl)
                  try simp only [Act.put, List.setIfInBounds_toArray, List.set_cons_zero, List.set_cons_succ]
                  refine wpAnyH_take (i := 12) (oi := { dst := some 104, op := Go.Op.move (Go.Operand.tmp 103), type := 4, pos := "law.go:179", after := #[{ on := 11, ground := Go.Ground.data }, { on := 9, ground := Go.Ground.chain }, { on := 9, ground := Go.Ground.guard }], guard := some (9, false) }) (v := ?_) rfl (by kernel_rfl) (by kernel_rfl) (by kernel_rfl) (fun _ _ _ h => h) (Or.inl ⟨by rfl, ?_⟩) HS0.out ?_
                  case refine_2 => (intro w1 hS1; clear hS1; go_simp; try with_reducible rfl)
                  try simp only [Act.put, List.setIfInBounds_toArray, List.set_cons_zero, List.set_cons_succ]
                  refine wpAnyH_take (i := 13) (oi := { dst := some 105, op := Go.Op.move (Go.Operand.tmp 7), type := 24, pos := "law.go:179", after := #[{ on := 12, ground := Go.Ground.guard }], guard := some (12, true) }) (v := ?_) rfl (by kernel_rfl) (by kernel_rfl) (by kernel_rfl) (fun _ _ _ h => h) (Or.inl ⟨by rfl, ?_⟩) HS0.out ?_
                  case refine_2 => (intro w1 hS1; clear hS1; go_simp; try with_reducible rfl)
                  try simp only [Act.put, List.setIfInBounds_toArray, List.set_cons_zero, List.set_cons_succ]
                  refine wpAnyH_take (i := 15) (oi := { dst := some 107, op := Go.Op.move (Go.Operand.tmp 13), type := 27, pos := "law.go:179", after := #[{ on := 12, ground := Go.Ground.guard }], guard := some (12, true) }) (v := ?_) rfl (by kernel_rfl) (by kernel_rfl) (by kernel_rfl) (fun _ _ _ h => h) (Or.inl ⟨by rfl, ?_⟩) HS0.out ?_
                  case refine_2 => (intro w1 hS1; clear hS1; go_simp; try with_reducible rfl)
                  try simp only [Act.put, List.setIfInBounds_toArray, List.set_cons_zero, List.set_cons_succ]
                  refine wpAnyH_ready (rs := [14]) (by kernel_rfl) (by simp) ?_
                  refine AllReadyH.cons (o := { dst := some 106, op := Go.Op.call { callee := Go.Callee.value (Go.Operand.func 23), args := #[Go.Operand.tmp 105], argTypes := #[24] }, type := 27, pos := "law.go:179", after := #[{ on := 13, ground := Go.Ground.data }, { on := 12, ground := Go.Ground.chain }, { on := 12, ground := Go.Ground.guard }], guard := some (12, true) }) rfl (fun K hK => ?_) AllReadyH.nil
                  go_simp
                  refine (lfiles H_d.out).mono ?_
                  rintro e we ⟨fv, rfl, hof, hb⟩
                  obtain ⟨fa, fc, hfv, hfr⟩ := hof.row
                  rw [HLD1.out] at hfv
                  subst hfv
                  have HFR := Lib.hid hfr
                  clear hof hfr
                  have HXe := Lib.hid (ex_below HXd.out hb)
                  have He := Lib.hid (H_d.out.below hb)
                  have HNe := Lib.hid (ex_below HN_d.out hb)
                  have HAe := Lib.hid (HA_d.out.below hb)
                  have HBe := Lib.hid (HB_d.out.trans (hb.mono HB_d.out.size))
                  have HVe := Lib.hid (HV_d.out.below hb)
                  have HYe := Lib.hid (ex_below HY_d.out hb)
                  have HS0' : Hid ((fun W : World => W.heap[NX]? = some (.cells #[.int .i64 Q1.room, .slice ra1 lq rc1, .bool Q1.down, .int .i64 rr1, .int .u64 (Q1.st : Int)] 30 (0, 0))) we) := Lib.hid HXe.out
                  clear hb HXd H_d HN_d HA_d HB_d HV_d HY_d HS0
                  have HXd := HXe
                  have H_d := He
                  have HN_d := HNe
                  have HA_d := HAe
                  have HB_d := HBe
                  have HV_d := HVe
                  have HY_d := HYe
                  have HS0 := HS0'
                  clear HXe He HNe HAe HBe HVe HYe HS0'
                  refine hK.out _ _ HS0.out (fun hHeld => ?_)
                  clear hK K hHeld
                  generalize we = wd at HXd H_d HN_d HA_d HB_d HV_d HY_d HS0 HFR ⊢
                  try simp only [Act.put, List.setIfInBounds_toArray, List.set_cons_zero, List.set_cons_succ]
                  refine wpAnyH_ready (rs := [16]) (by kernel_rfl) (by simp) ?_
                  refine AllReadyH.cons (o := { dst := some 108, op := Go.Op.call { callee := Go.Callee.value (Go.Operand.func 22), args := #[Go.Operand.tmp 106, Go.Operand.tmp 107], argTypes := #[27, 27] }, type := 4, pos := "law.go:179", after := #[{ on := 14, ground := Go.Ground.data }, { on := 15, ground := Go.Ground.data }, { on := 14, ground := Go.Ground.chain }, { on := 12, ground := Go.Ground.guard }], guard := some (12, true) }) rfl (fun K hK => ?_) AllReadyH.nil
                  go_simp
                  have HC := Lib.hid (rsame_yes fa ba fc bc D1.fs wd HFR.out (by have h := HV_d.out; rw [← HFS.out] at h; exact h) (by have := H_d.out.fit.few; omega))
                  rw [HLD1.out] at HC
                  refine HC.out.mono ?_
                  rintro e we ⟨rfl, hb⟩
                  clear HC HFR
                  have HXe := Lib.hid (ex_below HXd.out hb)
                  have He := Lib.hid (H_d.out.below hb)
                  have HNe := Lib.hid (ex_below HN_d.out hb)
                  have HAe := Lib.hid (HA_d.out.below hb)
                  have HBe := Lib.hid (HB_d.out.trans (hb.mono HB_d.out.size))
                  have HVe := Lib.hid (HV_d.out.below hb)
                  have HYe := Lib.hid (ex_below HY_d.out hb)
                  have HS0' : Hid ((fun W : World => W.heap[NX]? = some (.cells #[.int .i64 Q1.room, .slice ra1 lq rc1, .bool Q1.down, .int .i64 rr1, .int .u64 (Q1.st : Int)] 30 (0, 0))) we) := Lib.hid HXe.out
                  clear hb HXd H_d HN_d HA_d HB_d HV_d HY_d HS0
                  have HXd := HXe
                  have H_d := He
                  have HN_d := HNe
                  have HA_d := HAe
                  have HB_d := HBe
                  have HV_d := HVe
                  have HY_d := HYe
                  have HS0 := HS0'
                  clear HXe He HNe HAe HBe HVe HYe HS0'
                  refine hK.out _ _ HS0.out (fun hHeld => ?_)
                  clear hK K hHeld
                  generalize we = wd at HXd H_d HN_d HA_d HB_d HV_d HY_d HS0 ⊢
                  try simp only [Act.put, List.setIfInBounds_toArray, List.set_cons_zero, List.set_cons_succ]
                  refine wpAnyH_take (i := 17) (oi := { dst := some 109, op := Go.Op.unOp Go.UnOp.not 4 (Go.Operand.tmp 108), type := 4, pos := "law.go:179", after := #[{ on := 16, ground := Go.Ground.data }, { on := 12, ground := Go.Ground.guard }], guard := some (12, true) }) (v := .bool false) rfl (by kernel_rfl) (by kernel_rfl) (by kernel_rfl) (fun _ _ _ h => h) (Or.inl ⟨by rfl, ?_⟩) HS0.out ?_
                  case refine_1 => (intro w1 hS1; clear hS1; go_simp; try with_reducible rfl)
                  try simp only [Act.put, List.setIfInBounds_toArray, List.set_cons_zero, List.set_cons_succ]
                  refine wpAnyH_take (i := 18) (oi := { dst := some 110, op := Go.Op.pick (Go.Operand.tmp 104) (Go.Operand.tmp 109) (Go.Operand.const (Go.Value.bool false)), type := 4, pos := "law.go:179", after := #[{ on := 12, ground := Go.Ground.data }, { on := 17, ground := Go.Ground.data }, { on := 9, ground := Go.Ground.guard }], guard := some (9, false) }) (v := .bool false) rfl (by kernel_rfl) (by kernel_rfl) (by kernel_rfl) (fun _ _ _ h => h) (Or.inl ⟨by rfl, ?_⟩) HS0.out ?_
                  case refine_1 => (intro w1 hS1; clear hS1; go_simp; try with_reducible rfl)
                  try simp only [Act.put, List.setIfInBounds_toArray, List.set_cons_zero, List.set_cons_succ]
                  refine wpAnyH_take (i := 19) (oi := { dst := some 111, op := Go.Op.pick (Go.Operand.tmp 101) (Go.Operand.const (Go.Value.bool true)) (Go.Operand.tmp 110), type := 4, pos := "law.go:179", after := #[{ on := 9, ground := Go.Ground.data }, { on := 18, ground := Go.Ground.data }], guard := none }) (v := .bool false) rfl (by kernel_rfl) (by kernel_rfl) (by kernel_rfl) (fun _ _ _ h => h) (Or.inl ⟨by rfl, ?_⟩) HS0.out ?_
                  case refine_1 => (intro w1 hS1; clear hS1; go_simp; try with_reducible rfl)
                  try simp only [Act.put, List.setIfInBounds_toArray, List.set_cons_zero, List.set_cons_succ]
                  refine wpAnyH_done (by kernel_rfl) ?_ _
                  have HXt := HXd
                  have HNt := HN_d
                  have HAt := HA_d
                  have HBt := HB_d
                  have HYt := HY_d
                  have HDKt : Hid (DK S1 wd B D1) := Lib.hid ⟨m1, mt1, M1, V1, H_d.out⟩
                  clear HXd HN_d HA_d HB_d H_d HV_d HY_d HS0
                  rw [← HLQ.out] at HXt
                  try rw [← HLQ.out]
                  go_upto_region 21 with fail
                  obtain ⟨x0, x1, x2, x3, x4⟩ := five_rd HXt.out
                  obtain ⟨c0', c1, c2, c3, c4⟩ := five_rd HNt.out
                  have fz : ∀ o, wd.frozen? ⟨N, o, none⟩ = false := fun o => by simp [World.frozen?, HNt.out]
                  have HN7' := Lib.hid (set5 HNt.out (.int .i64 Q1.room) (.slice ra1 Q1.fs.length rc1) (.bool Q1.down) (.int .i64 rr1) (.int .u64 (Q1.st : Int)))
                  have hoff : ∀ k, k ≠ N → (((((wd.setCell ⟨N, 0, none⟩ (.int .i64 Q1.room)).setCell ⟨N, 1, none⟩ (.slice ra1 Q1.fs.length rc1)).setCell ⟨N, 2, none⟩ (.bool Q1.down)).setCell ⟨N, 3, none⟩ (.int .i64 rr1)).setCell ⟨N, 4, none⟩ (.int .u64 (Q1.st : Int))).heap[k]? = wd.heap[k]? := fun k hk => set5_out hk _ _ _ _ _
                  have HA7' := Lib.hid (HAt.out.box5 (W := (((((wd.setCell ⟨N, 0, none⟩ (.int .i64 Q1.room)).setCell ⟨N, 1, none⟩ (.slice ra1 Q1.fs.length rc1)).setCell ⟨N, 2, none⟩ (.bool Q1.down)).setCell ⟨N, 3, none⟩ (.int .i64 rr1)).setCell ⟨N, 4, none⟩ (.int .u64 (Q1.st : Int)))) HNt.out hoff (by simp))
                  have HDK7' : Hid (DK S1 (((((wd.setCell ⟨N, 0, none⟩ (.int .i64 Q1.room)).setCell ⟨N, 1, none⟩ (.slice ra1 Q1.fs.length rc1)).setCell ⟨N, 2, none⟩ (.bool Q1.down)).setCell ⟨N, 3, none⟩ (.int .i64 rr1)).setCell ⟨N, 4, none⟩ (.int .u64 (Q1.st : Int))) B D1) := Lib.hid (by
                    obtain ⟨m, mt, M, V, hk⟩ := HDKt.out
                    exact ⟨m, mt, M, V, hk.move (by simp) (fun k _ hs => hoff k (HSN1.out k hs).2.1)⟩)
                  have HB7' := Lib.hid (below_two (below_two (below_two (below_two (below_two (HBt.out) (show w.heap.size ≤ N from HNB.out) 0 (.int .i64 Q1.room)) (show w.heap.size ≤ N from HNB.out) 1 (.slice ra1 Q1.fs.length rc1)) (show w.heap.size ≤ N from HNB.out) 2 (.bool Q1.down)) (show w.heap.size ≤ N from HNB.out) 3 (.int .i64 rr1)) (show w.heap.size ≤ N from HNB.out) 4 (.int .u64 (Q1.st : Int)))
                  have HYZ := Lib.hid ((hoff NY HYN.out).trans HYt.out)
                  clear hoff HXt HNt HAt HDKt HBt HYt
                  go_upto_region 22 with fail
                  generalize (((((wd.setCell ⟨N, 0, none⟩ (.int .i64 Q1.room)).setCell ⟨N, 1, none⟩ (.slice ra1 Q1.fs.length rc1)).setCell ⟨N, 2, none⟩ (.bool Q1.down)).setCell ⟨N, 3, none⟩ (.int .i64 rr1)).setCell ⟨N, 4, none⟩ (.int .u64 (Q1.st : Int))) = wt at HN7' HA7' HDK7' HB7' HYZ ⊢
                  clear x0 x1 x2 x3 x4 c0' c1 c2 c3 c4 fz
                  go_wp2_with fail
                  go_roundg (n - (i + 1))
                  case measure => omega
                  case rel => exact ⟨i + 1, S1, D1, Q1, ra1, rc1, rr1, by rw [HWI.out]; rfl, by rw [HSE.out]; rfl, by omega, by omega, HDK7', HA7', HN7', Lib.hid ⟨HB7'.out, HYZ.out⟩, HSN1, HARM1⟩
              · have HDN : Hid (D1.down = false) := Lib.hid (by rw [HDE.out]; exact decide_eq_false hdn)
                have HDW := Lib.hid (ddown_any H8.out)
                rw [HDN.out] at HDW
                have t00 : decide ((D.st : Int) + 1 > (s : Int)) = false := decide_eq_false (by omega)
                have t01 : decide ((s : Int) < (D.st : Int) + 1) = false := decide_eq_false (by omega)
                have t02 : decide (s < D.st + 1) = false := decide_eq_false hdn
                clear hdn
                go_wp2_with fail
                refine HDW.out.mono ?_
                rintro e wz ⟨rfl, rfl⟩
                go_wp2_with fail
                refine HDW.out.mono ?_
                rintro e wz ⟨rfl, rfl⟩
                clear HDW t00 t01 t02 hw8
                have HXt := HX8
                have HNt := HN8
                have HAt := HA8
                have HBt := HB8
                have HYt := HY8
                have HDKt := HDK8
                go_upto_region 21 with fail
                obtain ⟨x0, x1, x2, x3, x4⟩ := five_rd HXt.out
                obtain ⟨c0', c1, c2, c3, c4⟩ := five_rd HNt.out
                have fz : ∀ o, w8.frozen? ⟨N, o, none⟩ = false := fun o => by simp [World.frozen?, HNt.out]
                have HN7' := Lib.hid (set5 HNt.out (.int .i64 Q1.room) (.slice ra1 Q1.fs.length rc1) (.bool Q1.down) (.int .i64 rr1) (.int .u64 (Q1.st : Int)))
                have hoff : ∀ k, k ≠ N → (((((w8.setCell ⟨N, 0, none⟩ (.int .i64 Q1.room)).setCell ⟨N, 1, none⟩ (.slice ra1 Q1.fs.length rc1)).setCell ⟨N, 2, none⟩ (.bool Q1.down)).setCell ⟨N, 3, none⟩ (.int .i64 rr1)).setCell ⟨N, 4, none⟩ (.int .u64 (Q1.st : Int))).heap[k]? = w8.heap[k]? := fun k hk => set5_out hk _ _ _ _ _
                have HA7' := Lib.hid (HAt.out.box5 (W := (((((w8.setCell ⟨N, 0, none⟩ (.int .i64 Q1.room)).setCell ⟨N, 1, none⟩ (.slice ra1 Q1.fs.length rc1)).setCell ⟨N, 2, none⟩ (.bool Q1.down)).setCell ⟨N, 3, none⟩ (.int .i64 rr1)).setCell ⟨N, 4, none⟩ (.int .u64 (Q1.st : Int)))) HNt.out hoff (by simp))
                have HDK7' : Hid (DK S1 (((((w8.setCell ⟨N, 0, none⟩ (.int .i64 Q1.room)).setCell ⟨N, 1, none⟩ (.slice ra1 Q1.fs.length rc1)).setCell ⟨N, 2, none⟩ (.bool Q1.down)).setCell ⟨N, 3, none⟩ (.int .i64 rr1)).setCell ⟨N, 4, none⟩ (.int .u64 (Q1.st : Int))) B D1) := Lib.hid (by
                  obtain ⟨m, mt, M, V, hk⟩ := HDKt.out
                  exact ⟨m, mt, M, V, hk.move (by simp) (fun k _ hs => hoff k (HSN1.out k hs).2.1)⟩)
                have HB7' := Lib.hid (below_two (below_two (below_two (below_two (below_two (HBt.out) (show w.heap.size ≤ N from HNB.out) 0 (.int .i64 Q1.room)) (show w.heap.size ≤ N from HNB.out) 1 (.slice ra1 Q1.fs.length rc1)) (show w.heap.size ≤ N from HNB.out) 2 (.bool Q1.down)) (show w.heap.size ≤ N from HNB.out) 3 (.int .i64 rr1)) (show w.heap.size ≤ N from HNB.out) 4 (.int .u64 (Q1.st : Int)))
                have HYZ := Lib.hid ((hoff NY HYN.out).trans HYt.out)
                clear hoff HXt HNt HAt HDKt HBt HYt
                go_upto_region 22 with fail
                generalize (((((w8.setCell ⟨N, 0, none⟩ (.int .i64 Q1.room)).setCell ⟨N, 1, none⟩ (.slice ra1 Q1.fs.length rc1)).setCell ⟨N, 2, none⟩ (.bool Q1.down)).setCell ⟨N, 3, none⟩ (.int .i64 rr1)).setCell ⟨N, 4, none⟩ (.int .u64 (Q1.st : Int))) = wt at HN7' HA7' HDK7' HB7' HYZ ⊢
                clear x0 x1 x2 x3 x4 c0' c1 c2 c3 c4 fz
                go_wp2_with fail
                go_roundg (n - (i + 1))
                case measure => omega
                case rel => exact ⟨i + 1, S1, D1, Q1, ra1, rc1, rr1, by rw [HWI.out]; rfl, by rw [HSE.out]; rfl, by omega, by omega, HDK7', HA7', HN7', Lib.hid ⟨HB7'.out, HYZ.out⟩, HSN1, HARM1⟩
      · have hltz : ¬ (i : Int) < (n : Int) := by omega
        have HW := Lib.hid HBY.out.1
        have HYE := Lib.hid HBY.out.2
        clear HA HN HARM HO hi hix hlt HBY
        obtain ⟨m, mt, M, V, hk⟩ := HDK.out
        have H7 := Lib.hid hk
        clear hk HDK
        cases hd : D.down with
        | false =>
          have HDW := Lib.hid (ddown_any H7.out)
          rw [hd] at HDW
          go_wp2_with fail
          refine HDW.out.mono ?_
          rintro e wz ⟨rfl, rfl⟩
          go_wp2_with fail
          refine (lives23 w7).mono ?_
          rintro e wb ⟨rfl, hb⟩
          have HBB := Lib.hid (HW.out.trans (hb.mono HW.out.size))
          clear hb
          go_wp2_with fail
          go_ret
          exact ⟨rfl, HBB.out⟩
        | true =>
          have HDW := Lib.hid (ddown_any H7.out)
          rw [hd] at HDW
          have HDT := Lib.hid hd
          clear hd
          go_wp2_with fail
          refine HDW.out.mono ?_
          rintro e wz ⟨rfl, rfl⟩
          clear HDW
          go_wp2_with fail
          refine (lfiles H7.out).mono ?_
          rintro e w8 ⟨uv, rfl, hof, hb⟩
          have H8 := Lib.hid (H7.out.below hb)
          have HW8 := Lib.hid (HW.out.trans (hb.mono HW.out.size))
          have HY8 := Lib.hid (ex_below HYE.out hb)
          have HV8 := Lib.hid hof
          have HBD8 : Hid (∀ k, S k → k < w7.heap.size) := Lib.hid H7.out.bd
          obtain ⟨ua, uc, huv, -⟩ := hof.row
          obtain ⟨lu, hlu⟩ : ∃ lu, D.fs.length = lu := ⟨_, rfl⟩
          have HLU := Lib.hid hlu
          rw [hlu] at huv
          subst huv
          clear hof hb hlu H7 HW HYE
          obtain ⟨xt, wv, hcv, hbv⟩ := str_anyA w8 yo.tx
          obtain ⟨q0, q1, q2, q3, q4, q5⟩ := six_rd HY8.out
          have H9 := Lib.hid (H8.out.below hbv)
          have HW9 := Lib.hid (HW8.out.trans (hbv.mono HW8.out.size))
          have HY9 := Lib.hid (ex_below HY8.out hbv)
          have HV9 := Lib.hid (HV8.out.kept hbv)
          clear hbv
          go_wp2_with fail
          refine (dappend_down H9.out HDT.out yo.nm xt).mono ?_
          rintro e wz ⟨rfl, rfl⟩
          clear hcv q0 q1 q2 q3 q4 q5 H8 HW8 HY8 HV8
          obtain ⟨q0, q1, q2, q3, q4, q5⟩ := six_rd HY9.out
          go_wp2_with fail
          refine (dsync_down H9.out HDT.out yo.nm).mono ?_
          rintro e uc0 ⟨rfl, hb⟩
          have Hc0 := Lib.hid (H9.out.below hb)
          have HWc0 := Lib.hid (HW9.out.trans (hb.mono HW9.out.size))
          have HYc0 := Lib.hid (ex_below HY9.out hb)
          have HVc0 := Lib.hid (HV9.out.kept hb)
          clear hb q0 q1 q2 q3 q4 q5 H9 HW9 HY9 HV9
          obtain ⟨q0, q1, q2, q3, q4, q5⟩ := six_rd HYc0.out
          go_wp2_with fail
          refine (dcut_down Hc0.out HDT.out yo.nm 0).mono ?_
          rintro e uc1 ⟨rfl, hb⟩
          have Hc1 := Lib.hid (Hc0.out.below hb)
          have HWc1 := Lib.hid (HWc0.out.trans (hb.mono HWc0.out.size))
          have HYc1 := Lib.hid (ex_below HYc0.out hb)
          have HVc1 := Lib.hid (HVc0.out.kept hb)
          clear hb q0 q1 q2 q3 q4 q5 Hc0 HWc0 HYc0 HVc0
          obtain ⟨q0, q1, q2, q3, q4, q5⟩ := six_rd HYc1.out
          go_wp2_with fail
          refine (dremove_down Hc1.out HDT.out yo.nm).mono ?_
          rintro e uc2 ⟨rfl, hb⟩
          have Hc2 := Lib.hid (Hc1.out.below hb)
          have HWc2 := Lib.hid (HWc1.out.trans (hb.mono HWc1.out.size))
          have HYc2 := Lib.hid (ex_below HYc1.out hb)
          have HVc2 := Lib.hid (HVc1.out.kept hb)
          clear hb q0 q1 q2 q3 q4 q5 Hc1 HWc1 HYc1 HVc1
          obtain ⟨q0, q1, q2, q3, q4, q5⟩ := six_rd HYc2.out
          go_wp2_with fail
          refine (dmove_down Hc2.out HDT.out yo.nm yo.tt).mono ?_
          rintro e uc3 ⟨rfl, hb⟩
          have Hc3 := Lib.hid (Hc2.out.below hb)
          have HWc3 := Lib.hid (HWc2.out.trans (hb.mono HWc2.out.size))
          have HYc3 := Lib.hid (ex_below HYc2.out hb)
          have HVc3 := Lib.hid (HVc2.out.kept hb)
          clear hb q0 q1 q2 q3 q4 q5 Hc2 HWc2 HYc2 HVc2
          obtain ⟨q0, q1, q2, q3, q4, q5⟩ := six_rd HYc3.out
          go_wp2_with fail
          refine (darm_down Hc3.out HDT.out 3).mono ?_
          rintro e wz ⟨rfl, rfl⟩
          go_wp2_with fail
          refine (dresize_down Hc3.out HDT.out 9).mono ?_
          rintro e wz ⟨rfl, rfl⟩
          have HHL := Hc3
          have HHW := HWc3
          have HHV := HVc3
          go_upto_region 28 with fail
          clear q0 q1 q2 q3 q4 q5
          go_wp2_with fail
          refine (lfiles HHL.out).mono ?_
          rintro e v1 ⟨f1, rfl, hof, hb⟩
          obtain ⟨fa, fc, hfv, hfr⟩ := hof.row
          rw [HLU.out] at hfv
          subst hfv
          have Hv1 := Lib.hid (HHL.out.below hb)
          have HWv1 := Lib.hid (HHW.out.trans (hb.mono HHW.out.size))
          have HVv1 := Lib.hid (HHV.out.kept hb)
          have HFR := Lib.hid hfr
          clear hof hb hfr
          have HSM := Lib.hid (rsame_yes fa ua fc uc D.fs v1 HFR.out (by obtain ⟨a', c', e, hr⟩ := HVv1.out.row; injection e with e1; subst e1; exact hr) (by have := Hv1.out.fit.few; omega))
          rw [HLU.out] at HSM
          go_wp2_with fail
          refine HSM.out.mono ?_
          rintro e v2 ⟨rfl, hb⟩
          have Hv2 := Lib.hid (Hv1.out.below hb)
          have HWv2 := Lib.hid (HWv1.out.trans (hb.mono HWv1.out.size))
          have HVv2 := Lib.hid (HVv1.out.kept hb)
          clear hb HSM HFR Hv1 HWv1 HVv1
          go_wp2_with fail
          refine (dboot_any Hv2.out).mono ?_
          rintro e v3 ⟨S3, rfl, hdk, hfr⟩
          have HVv3 := Lib.hid (HVv2.out.frame hfr.1 HBD8.out)
          have HWv3 := Lib.hid (HWv2.out.trans (hfr.1.toBelow HWv2.out.size (fun k hk => (HSN.out k hk).1)))
          obtain ⟨m3, mt3, M3, V3, hk3⟩ := hdk
          have Hv3 := Lib.hid hk3
          clear hfr hk3 Hv2 HWv2 HVv2
          have HDW := Lib.hid (ddown_any Hv3.out)
          rw [show (bootD D, (0 : Int)).1.down = false from rfl] at HDW
          go_wp2_with fail
          refine HDW.out.mono ?_
          rintro e wz ⟨rfl, rfl⟩
          clear HDW
          go_wp2_with fail
          refine (lfiles Hv3.out).mono ?_
          rintro e v4 ⟨f1, rfl, hof, hb⟩
          obtain ⟨fa2, fc2, hfv, hfr⟩ := hof.row
          have hll : (bootD D, (0 : Int)).1.fs.length = lu := HLU.out
          rw [hll] at hfv
          subst hfv
          have HWv4 := Lib.hid (HWv3.out.trans (hb.mono HWv3.out.size))
          have HVv4 := Lib.hid (HVv3.out.kept hb)
          have HFR := Lib.hid hfr
          have HFW : Hid (D.fs.length ≤ 1000) := Lib.hid (by have := Hv3.out.fit.few; have h : D.fs.length ≤ 128 := this; omega)
          clear hof hb hfr Hv3 HWv3 HVv3
          have HSM := Lib.hid (rsame_yes fa2 ua fc2 uc D.fs v4 HFR.out (by obtain ⟨a', c', e, hr⟩ := HVv4.out.row; injection e with e1; subst e1; exact hr) HFW.out)
          rw [HLU.out] at HSM
          go_wp2_with fail
          refine HSM.out.mono ?_
          rintro e v5 ⟨rfl, hb⟩
          have HW := Lib.hid (HWv4.out.trans (hb.mono HWv4.out.size))
          clear hb HSM HFR HWv4 HVv4
          go_wp2_with fail
          refine (lives23 v5).mono ?_
          rintro e wb ⟨rfl, hb⟩
          have HBB := Lib.hid (HW.out.trans (hb.mono HW.out.size))
          clear hb
          go_wp2_with fail
          go_ret
          exact ⟨rfl, HBB.out⟩
end Go.Proofs.Ythkjjpkipeeimaa

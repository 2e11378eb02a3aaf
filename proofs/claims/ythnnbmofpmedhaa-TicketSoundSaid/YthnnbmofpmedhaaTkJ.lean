/- TicketSound: the walk. -/
import Derived.Test.YthnnbmofpmedhaaTkI
namespace Go.Proofs.Ythnnbmofpmedhaa
open Go.RowKit
set_option maxRecDepth 100000 in
set_option maxHeartbeats 16000000 in
theorem ts_ok (off : Int) (a0 : Option Addr) (n0 ca0 : Nat) (b0 : Option Addr) (m0 cb0 : Nat) (F T G U : Nat → Int) (c : Int) (a : Option Addr) (n ca : Nat) (r b : Int) (B P : Nat → Int) (now : Int) (la : Option Addr) (ll lc : Nat) (KD WT : Nat → Int) (w : World) (hS0 : Sps w a0 n0 F T) (hR0 : Sps w b0 m0 G U) (hS : Sps w a n B P) (hA : Acts w la ll KD WT) (hz : checkE off F T n0 G U m0 = 0) (x0 : decide (n0 ≤ 60 ∧ m0 ≤ 60) = true) (x1 : decide (60 < (n : Int)) = false) (x2 : decide (60 < (ll : Int)) = false) (x4 : goodC c n r b B P = true) (x5 : decide (now < 0) = false) (x6 : decide (1125899906842624 < now) = false) :
    Calls Try.prog 8 #[calV off a0 n0 ca0 b0 m0 cb0, conV c a n ca r b, .int .i64 now, .slice la ll lc] w fun e w' => e = .returned (.bool true) ∧ Below w.heap.size w w' := by
  obtain ⟨B2, s0, s1, sz⟩ := box2 w #[.int .i64 off, .slice a0 n0 ca0, .slice b0 m0 cb0] #[.int .i64 c, .slice a n ca, .int .i64 r, .int .i64 b] 24 27
  have HE0_0 := Lib.hid s0
  have HE1_0 := Lib.hid s1
  have HB0 := Lib.hid B2
  have HZ0 := Lib.hid sz
  have hli := light10 off a0 n0 ca0 b0 m0 cb0 ((w.alloc (.cells #[.int .i64 off, .slice a0 n0 ca0, .slice b0 m0 cb0] 24)).alloc (.cells #[.int .i64 c, .slice a n ca, .int .i64 r, .int .i64 b] 27)) hS0.1 hR0.1
  have HCK := Lib.hid (fun W (hb : Below w.heap.size w W) => rcheck10 off a0 n0 ca0 F T b0 m0 cb0 G U W (hS0.kept hb) (hR0.kept hb))
  have HGD := Lib.hid (fun W (hb : Below w.heap.size w W) => rgood_any c a n ca r b B P W (hS.kept hb))
  have hd := checkE_ok hz
  obtain ⟨_, _, hn1, hn6, hlv⟩ := goodC_n x4
  have HN6 := Lib.hid (And.intro hn1 (And.intro hn6 (lvs_at hlv (show 0 < n by omega)).1))
  have HNW := Lib.hid (fun W (hb : Below w.heap.size w W) => clock_in off a0 n0 ca0 b0 m0 cb0 F T G U W (hS0.kept hb) (hR0.kept hb) hz)
  have HOP := Lib.hid (fun W L (hb : Below w.heap.size w W) (hC : Ck L (⟨F, T, n0, G, U, m0, off⟩ : Cal) W) => open_any' hC hd 1 2 c a n ca r b B P now (hS.kept hb) x4 (by decide))
  have HSP := Lib.hid (And.intro hS (And.intro x4 (sps_lt hS)))
  have HA := Lib.hid hA
  have HNOW : Hid (0 ≤ now ∧ now ≤ 1125899906842624) := Lib.hid ⟨by simpa using x5, by simpa using x6⟩
  have hll : ll ≤ 60 := by have := of_decide_eq_false x2; omega
  rw [hz] at HCK
  rw [x0] at hli
  rw [x4] at HGD
  obtain ⟨D, eD⟩ : ∃ D : Cal, (⟨F, T, n0, G, U, m0, off⟩ : Cal) = D := ⟨_, rfl⟩
  rw [eD] at HNW HOP hd
  have HD := Lib.hid hd
  clear hz eD hd x0 x4 hn1 hn6 hlv
  have e0_0 := cells_heap HE0_0.out 0
  have e0_1 := cells_heap HE0_0.out 1
  have e0_2 := cells_heap HE0_0.out 2
  obtain ⟨e1_0, e1_1, e1_2, e1_3, -⟩ := four_at HE1_0.out
  clear B2 sz s0 s1
  clear hS0 hR0 hS hA
  unfold conV at *
  unfold calV at *
  go_enter Try.func8, Try.ntmps8
  go_wp2_with fail
  generalize ((w.alloc (.cells #[.int .i64 off, .slice a0 n0 ca0, .slice b0 m0 cb0] 24)).alloc (.cells #[.int .i64 c, .slice a n ca, .int .i64 r, .int .i64 b] 27)) = W0 at HB0 HZ0 HE0_0 HE1_0 e0_0 e0_1 e0_2 e1_0 e1_1 e1_2 e1_3 hli ⊢
  refine (hli).mono ?_
  rintro e W1 ⟨rfl, hb⟩
  have HB1 := Lib.hid (HB0.out.trans (hb.mono HB0.out.size))
  have HE0_1 := Lib.hid (ex_below HE0_0.out hb)
  have HE1_1 := Lib.hid (ex_below HE1_0.out hb)
  clear e0_0 e0_1 e0_2 e1_0 e1_1 e1_2 e1_3 hb
  have e0_0 := cells_heap HE0_1.out 0
  have e0_1 := cells_heap HE0_1.out 1
  have e0_2 := cells_heap HE0_1.out 2
  obtain ⟨e1_0, e1_1, e1_2, e1_3, -⟩ := four_at HE1_1.out
  go_wp2_with fail
  refine (HCK.out W1 HB1.out).mono ?_
  rintro e W2 ⟨rfl, hb⟩
  have HB2 := Lib.hid (HB1.out.trans (hb.mono HB1.out.size))
  have HE0_2 := Lib.hid (ex_below HE0_1.out hb)
  have HE1_2 := Lib.hid (ex_below HE1_1.out hb)
  clear e0_0 e0_1 e0_2 e1_0 e1_1 e1_2 e1_3 hb
  have e0_0 := cells_heap HE0_2.out 0
  have e0_1 := cells_heap HE0_2.out 1
  have e0_2 := cells_heap HE0_2.out 2
  obtain ⟨e1_0, e1_1, e1_2, e1_3, -⟩ := four_at HE1_2.out
  go_wp2_with fail
  refine (HGD.out W2 HB2.out).mono ?_
  rintro e W3 ⟨rfl, hb⟩
  have HB3 := Lib.hid (HB2.out.trans (hb.mono HB2.out.size))
  have HE0_3 := Lib.hid (ex_below HE0_2.out hb)
  have HE1_3 := Lib.hid (ex_below HE1_2.out hb)
  clear e0_0 e0_1 e0_2 e1_0 e1_1 e1_2 e1_3 hb
  have e0_0 := cells_heap HE0_3.out 0
  have e0_1 := cells_heap HE0_3.out 1
  have e0_2 := cells_heap HE0_3.out 2
  obtain ⟨e1_0, e1_1, e1_2, e1_3, -⟩ := four_at HE1_3.out
  go_wp2_with fail
  refine (HNW.out W3 HB3.out).mono ?_
  rintro e W4 ⟨L, rfl, hC, hle, hb⟩
  have HB4 := Lib.hid (HB3.out.trans (hb.mono HB3.out.size))
  have HE0_4 := Lib.hid (ex_below HE0_3.out hb)
  have HE1_4 := Lib.hid (ex_below HE1_3.out hb)
  have HN0 : Hid (w.heap.size ≠ L.C) := Lib.hid (by have := ex_lt HE0_3.out; omega)
  have HN1 : Hid (w.heap.size + 1 ≠ L.C) := Lib.hid (by have := ex_lt HE1_3.out; omega)
  have HC4 := Lib.hid hC
  have HM4 := Lib.hid hC.pl.lt
  have HL : Hid (w.heap.size ≤ L.C) := Lib.hid (Nat.le_trans HB3.out.size hle)
  clear e0_0 e0_1 e0_2 e1_0 e1_1 e1_2 e1_3 hb hC hle
  have e0_0 := cells_heap HE0_4.out 0
  have e0_1 := cells_heap HE0_4.out 1
  have e0_2 := cells_heap HE0_4.out 2
  obtain ⟨e1_0, e1_1, e1_2, e1_3, -⟩ := four_at HE1_4.out
  go_wp2_with fail
  refine (HOP.out W4 L HB4.out HC4.out).mono ?_
  rintro e W5 ⟨l, f, cc, d, er, hR, hc, hC, ho⟩
  have HB5 := Lib.hid (HB4.out.trans (ho.toBelow HB4.out.size (fun k hk => hk ▸ HL.out)))
  have HE0_5 := Lib.hid (ex_only HE0_4.out ho HN0.out)
  have HE1_5 := Lib.hid (ex_only HE1_4.out ho HN1.out)
  have HM5 := Lib.hid (Nat.lt_of_lt_of_le HM4.out ho.size)
  have HC5 := Lib.hid hC
  have HRC := Lib.hid (And.intro hR hc)
  clear hR hc
  clear e0_0 e0_1 e0_2 e1_0 e1_1 e1_2 e1_3 ho hC
  have e0_0 := cells_heap HE0_5.out 0
  have e0_1 := cells_heap HE0_5.out 1
  have e0_2 := cells_heap HE0_5.out 2
  obtain ⟨e1_0, e1_1, e1_2, e1_3, -⟩ := four_at HE1_5.out
  obtain ⟨hR, hc⟩ := HRC.out
  rcases hc with ⟨he0, rfl⟩ | ⟨he0, rfl⟩
  · subst he0
    have HTS := Lib.hid (TS.opened HN6.out.1 HN6.out.2.2 hR rfl)
    have HDN := Lib.hid (Ran.n_pos hR (show (0 : Int) < B 0 by have := HN6.out.2.2; omega) rfl)
    clear HRC hR
    unfold tkV
    obtain ⟨bx, bn, -⟩ := box1 W5 #[.int .u64 1, .int .i64 2, .int .i64 1, .int .i64 l, .int .u64 0, .int .i64 f, .int .i64 cc, .int .i64 d, .int .i64 0] 68
    have HB6 := Lib.hid (HB5.out.trans (bx.mono HB5.out.size))
    have HE0_6 := Lib.hid (ex_below HE0_5.out bx)
    have HE1_6 := Lib.hid (ex_below HE1_5.out bx)
    have HE2_6 := Lib.hid bn
    have HN2 : Hid (W5.heap.size ≠ L.C) := Lib.hid (by have := HM5.out; omega)
    have HM6 := Lib.hid (Nat.lt_of_lt_of_le HM5.out bx.size)
    have HC6 := Lib.hid (HC5.out.kept bx)
    clear e0_0 e0_1 e0_2 e1_0 e1_1 e1_2 e1_3 bx bn
    have e0_0 := cells_heap HE0_6.out 0
    have e0_1 := cells_heap HE0_6.out 1
    have e0_2 := cells_heap HE0_6.out 2
    obtain ⟨e1_0, e1_1, e1_2, e1_3, -⟩ := four_at HE1_6.out
    have e2_0 := cells_heap HE2_6.out 0
    have e2_1 := cells_heap HE2_6.out 1
    have e2_2 := cells_heap HE2_6.out 2
    have e2_3 := cells_heap HE2_6.out 3
    have e2_4 := cells_heap HE2_6.out 4
    have e2_5 := cells_heap HE2_6.out 5
    have e2_6 := cells_heap HE2_6.out 6
    have e2_7 := cells_heap HE2_6.out 7
    have e2_8 := cells_heap HE2_6.out 8
    go_wp2_with fail
    generalize W5.alloc (.cells #[.int .u64 1, .int .i64 2, .int .i64 1, .int .i64 l, .int .u64 0, .int .i64 f, .int .i64 cc, .int .i64 d, .int .i64 0] 68) = W6 at HB6 HE0_6 HE1_6 HE2_6 HC6 HM6 e0_0 e0_1 e0_2 e1_0 e1_1 e1_2 e1_3 e2_0 e2_1 e2_2 e2_3 e2_4 e2_5 e2_6 e2_7 e2_8 ⊢
    have HM0 : Hid (w.heap.size + 1 < W5.heap.size) := Lib.hid (ex_lt HE1_5.out)
    have HC0 := HC5
    have H0 : Hid (LI L D w W6 W5.heap.size n #[.int .i64 c, .slice a n ca, .int .i64 r, .int .i64 b] 0 now 0 0 1 l 0 f cc d) := Lib.hid ⟨HTS.out, by omega, by have := HNOW.out; omega, HC6.out, HB6.out, HE1_6.out, HE2_6.out⟩
    clear e0_0 e0_1 e0_2 e1_0 e1_1 e1_2 e1_3 e2_0 e2_1 e2_2 e2_3 e2_4 e2_5 e2_6 e2_7 e2_8
    go_loopg [2, 12, 13, 14, 74] (ll + 1) (fun kx s2 s12 s13 s14 s74 wr => ∃ (i : Nat) (nw er nx td st lv ge fr lf du : Int), s2 = .int .i64 nw ∧ s12 = .int .i64 er ∧ s13 = .int .i64 nx ∧ s14 = .int .i64 td ∧ s74 = .int .i64 i ∧ i ≤ ll ∧ ll + 1 - i ≤ kx ∧ Hid ((st ≠ 1 → ge = 0) ∧ LI L D w wr W5.heap.size n #[.int .i64 c, .slice a n ca, .int .i64 r, .int .i64 b] i nw nx td st lv ge fr lf du))
    case atStart => exact ⟨0, now, 0, 0, 0, 1, l, 0, f, cc, d, rfl, rfl, rfl, rfl, rfl, Nat.zero_le _, Nat.le_refl _, Lib.hid ⟨fun h => absurd rfl h, H0.out⟩⟩
    case round =>
      clear H0 HTS
      obtain ⟨i, nw, er, nx, td, st, lv, ge, fr, lf, du, rfl, rfl, rfl, rfl, rfl, hi, hkx, HI⟩ := hrel
      have HL0 := HL.out
      have HML := HM0.out
      have k0 : (0 : Int) ≤ (i : Int) := by omega
      by_cases hlt : i < ll
      case neg =>
        have kl : decide ((i : Int) < (ll : Int)) = false := decide_eq_false (by omega)
        go_wp2_with fail
        refine (lives16 wr).mono ?_
        rintro e wl ⟨rfl, hb⟩
        have HBL := Lib.hid (HI.out.2.bel.trans (hb.mono HI.out.2.bel.size))
        clear hb
        go_wp2_with fail
        go_ret
        exact ⟨rfl, HBL.out⟩
      case pos =>
        have kl : (i : Int) < (ll : Int) := by omega
        obtain ⟨ab, ao, rfl, habl, d0, d1, b0, b1⟩ := HA.out.at HI.out.2.bel i hlt
        obtain ⟨kd, hkd⟩ : ∃ x, KD i = x := ⟨_, rfl⟩
        obtain ⟨wt, hwt⟩ : ∃ x, WT i = x := ⟨_, rfl⟩
        rw [hkd] at d0
        rw [hwt] at d1 b0 b1
        obtain ⟨bx, bn, bz⟩ := box1 wr #[.int .i64 kd, .int .u32 wt] 73
        have HI1 := Lib.hid (HI.out.2.below bx)
        have HX1 := Lib.hid bn
        have HZ1 := Lib.hid bz
        have HXL : Hid (wr.heap.size ≠ L.C ∧ W5.heap.size < wr.heap.size) := Lib.hid ⟨by have := HI.out.2.ck.pl.lt; omega, ex_lt HI.out.2.tk⟩
        obtain ⟨c0, c1, c2, c3, c4, c5, c6, c7, c8⟩ := nine_at HI1.out.tk
        obtain ⟨f0, f1, f2, f3, f4, f5, f6, f7, f8⟩ := nine_fr HI1.out.tk
        clear bx bn bz hkd hwt
        go_upto_if 81 with fail
        generalize wr.alloc (.cells #[.int .i64 kd, .int .u32 wt] 73) = W1 at HI1 HX1 HZ1 c0 c1 c2 c3 c4 c5 c6 c7 c8 f0 f1 f2 f3 f4 f5 f6 f7 f8 ⊢
        clear d0 d1 habl
        have e1 : IntKind.u64.wrap (i : Int) = (i : Int) := IntWalk.u64_in _ (by omega)
        have e2 : IntKind.u64.wrap ((i : Int) + 1) = (i : Int) + 1 := IntWalk.u64_in _ (by omega)
        go_cut [74] from 74 to 182 (fun s74 wc => ∃ ge', s74 = .int .i64 i ∧ Hid ((st = 1 → ge' = (i : Int) + 1) ∧ (st ≠ 1 → ge' = 0)) ∧ Hid (LI L D w wc W5.heap.size n #[.int .i64 c, .slice a n ca, .int .i64 r, .int .i64 b] i nw nx td st lv ge' fr lf du) ∧ Hid (wc.heap[wr.heap.size]? = some (.cells #[.int .i64 kd, .int .u32 wt] 73 (0, 0))))
        case first =>
          obtain ⟨sb, hsb⟩ : ∃ x, (st == 1) = x := ⟨_, rfl⟩
          cases sb
          · have HS1 : Hid (st ≠ 1) := Lib.hid (by simpa using hsb)
            go_wp2_with fail
            go_meet
            exact ⟨ge, rfl, Lib.hid ⟨fun h => absurd h HS1.out, HI.out.1⟩, HI1, HX1⟩
          · have HS1 : Hid (st = 1) := Lib.hid (by simpa using hsb)
            go_wp2_with fail
            go_meet
            refine ⟨(i : Int) + 1, rfl, Lib.hid ⟨fun _ => rfl, fun h => absurd HS1.out h⟩, Lib.hid ?_, Lib.hid ?_⟩
            · exact HI1.out.gen HC0.out (Nat.le_refl _) HM0.out _
            · exact (Below.heap_setCell _ _ _ _ (by show _ ≠ W5.heap.size; have := HXL.out; omega)).trans HX1.out
        case rest =>
          clear c0 c1 c2 c3 c4 c5 c6 c7 c8 f0 f1 f2 f3 f4 f5 f6 f7 f8 HI1 HX1
          obtain ⟨ge', rfl, HGE, HI2, HX2⟩ := hcut
          have HSO := Lib.hid (HI2.out.ts.sound HN6.out.2.1 (ge := ge') (tl := td) (fun h => ⟨by rw [HGE.out.1 h]; omega, by rw [HGE.out.1 h]; omega⟩) HGE.out.2 HI2.out.t0.1 (by have := HI2.out.t0; omega))
          have HFR := Lib.hid HI2.out.ts.fr_le
          obtain ⟨c0, c1, c2, c3, c4, c5, c6, c7, c8⟩ := nine_at HI2.out.tk
          go_wp2_with fail
          refine (sound_any 1 2 st lv ge' fr lf du td wc HFR.out).mono ?_
          rintro e W2 ⟨rfl, hb⟩
          rw [HSO.out]
          have HI3 := Lib.hid (HI2.out.below hb)
          have HX3 := Lib.hid (ex_below HX2.out hb)
          clear hb c0 c1 c2 c3 c4 c5 c6 c7 c8
          obtain ⟨c0, c1, c2, c3, c4, c5, c6, c7, c8⟩ := nine_at HI3.out.tk
          have x0 := cells_heap HX3.out 0
          have x1 := cells_heap HX3.out 1
          have e3 : IntKind.i64.wrap wt = wt := IntWalk.i64_in _ (by omega)
          have e4 : IntKind.i64.wrap (nw + wt) = nw + wt := IntWalk.i64_in _ (by have := HI3.out.n0; omega)
          obtain ⟨bx, bn, bz⟩ := box1 W2 #[.int .u64 1, .int .i64 2, .int .i64 st, .int .i64 lv, .int .u64 ge', .int .i64 fr, .int .i64 lf, .int .i64 du, .int .i64 td] 68
          have HI4 := Lib.hid ((HI3.out.below bx).later b0 b1)
          have HU4 := Lib.hid bn
          have HX4 := Lib.hid (ex_below HX3.out bx)
          have HUM : Hid (W5.heap.size ≤ W2.heap.size ∧ w.heap.size + 1 < W2.heap.size ∧ W2.heap.size ≠ W5.heap.size) := Lib.hid (by have := ex_lt HI3.out.tk; omega)
          have HUL : Hid (W2.heap.size ≠ L.C) := Lib.hid (by have := HI3.out.ck.pl.lt; omega)
          have HML2 : Hid (W5.heap.size ≠ L.C) := Lib.hid (by have := HC0.out.pl.lt; omega)
          have HFAR : Hid (∀ x, 0 < n → a = some x → x.block ≠ L.C) := Lib.hid (fun x h1 h2 => by have := HSP.out.2.2 x h1 h2; omega)
          clear bx bn bz HI2 HX2
          have y0 := cells_heap HX4.out 0
          go_upto_block 2 with fail
          generalize W2.alloc (.cells #[.int .u64 1, .int .i64 2, .int .i64 st, .int .i64 lv, .int .u64 ge', .int .i64 fr, .int .i64 lf, .int .i64 du, .int .i64 td] 68) = W3 at HI4 HU4 HX4 y0 ⊢
          clear c0 c1 c2 c3 c4 c5 c6 c7 c8 x0 x1 y0
          go_cut [12, 13, 14, 18, 74] from 74 to 182 (fun s12 s13 s14 s18 s74 wc => ∃ (er' nx' td' a0 a1 a2 a3 a4 a5 a6 a7 a8 : Int), s12 = .int .i64 er' ∧ s13 = .int .i64 nx' ∧ s14 = .int .i64 td' ∧ s74 = .int .i64 i ∧ Hid (wc.heap[W2.heap.size]? = some (.cells #[.int .u64 a0, .int .i64 a1, .int .i64 a2, .int .i64 a3, .int .u64 a4, .int .i64 a5, .int .i64 a6, .int .i64 a7, .int .i64 a8] 68 (0, 0))) ∧ Hid (LI L D w wc W5.heap.size n #[.int .i64 c, .slice a n ca, .int .i64 r, .int .i64 b] (i + 1) (nw + wt) nx td st lv ge' fr lf du) ∧ Hid ((er' = 0 → a0 = 1 ∧ a1 = 2 ∧ a4 = 0 ∧ a8 = td' ∧ 0 ≤ td' ∧ td' ≤ ((i + 1 : Nat) : Int) ∧ TS D n (nw + wt) nx' a2 a3 a5 a6 a7) ∧ (er' ≠ 0 → nx' = nx ∧ td' = td)))
          case first =>
            have e5 : IntKind.i64.wrap (nx + 1) = nx + 1 := IntWalk.i64_in _ (by have h1 := HI4.out.ts.2.2.1; have h2 := HI4.out.ts.2.2.2; have := HN6.out; have := HI4.out.ts.2.1; omega)
            have e6 : IntKind.i64.wrap (td + 1) = td + 1 := IntWalk.i64_in _ (by have := HI4.out.t0; omega)
            have HSW := Lib.hid (HSP.out.1.kept HI4.out.bel)
            obtain ⟨c0, c1, c2, c3, c4, c5, c6, c7, c8⟩ := nine_at HI4.out.tk
            obtain ⟨g0, g1, g2, g3, -⟩ := four_at HI4.out.con
            obtain ⟨q1, h1⟩ : ∃ x, (kd == 1) = x := ⟨_, rfl⟩
            obtain ⟨q2, h2⟩ : ∃ x, (kd == 2) = x := ⟨_, rfl⟩
            obtain ⟨q3, h3⟩ : ∃ x, (kd == 3) = x := ⟨_, rfl⟩
            obtain ⟨q4, h4⟩ : ∃ x, (kd == 4) = x := ⟨_, rfl⟩
            cases q1
            case true =>
              clear h2 h3 h4
              go_wp2_with fail
              refine (act_resume HI4.out.ck HD.out HDN.out HI4.out.ts ge' td).mono ?_
              rintro e W4 ⟨a0, a1, a2, a3, a4, a5, a6, a7, a8, er', rfl, hg, hC, ho⟩
              have HGO := Lib.hid hg
              have HI5 := Lib.hid (HI4.out.only HL0 HN1.out HML2.out hC ho)
              have HU5 := Lib.hid (ex_only HU4.out ho HUL.out)
              clear hg hC ho c0 c1 c2 c3 c4 c5 c6 c7 c8 g0 g1 g2 g3
              obtain ⟨z0, z1, z2, z3, z4, z5, z6, z7, z8⟩ := nine_at HU5.out
              obtain ⟨y0, y1, y2, y3, y4, y5, y6, y7, y8⟩ := nine_fr HU5.out
              unfold tkV
              go_wp2_with fail
              go_meet
              exact ⟨er', nx, td, a0, a1, a2, a3, a4, a5, a6, a7, a8, rfl, rfl, rfl, rfl, Lib.hid (put9_at HU5.out (.int .u64 a0) (.int .i64 a1) (.int .i64 a2) (.int .i64 a3) (.int .u64 a4) (.int .i64 a5) (.int .i64 a6) (.int .i64 a7) (.int .i64 a8)).1, Lib.hid (HI5.out.put HC0.out HM0.out HUM.out.1 HUM.out.2.1 HUM.out.2.2 HU5.out (.int .u64 a0) (.int .i64 a1) (.int .i64 a2) (.int .i64 a3) (.int .u64 a4) (.int .i64 a5) (.int .i64 a6) (.int .i64 a7) (.int .i64 a8)), Lib.hid ⟨fun h => by obtain ⟨h1, h2, h3, h4, h5⟩ := HGO.out h; exact ⟨h1, h2, h3, h4, HI5.out.t0.1, HI5.out.t0.2, h5⟩, fun _ => ⟨rfl, rfl⟩⟩⟩
            cases q2
            case true =>
              clear h3 h4
              go_wp2_with fail
              refine (act_resolve HI4.out.ck HD.out HI4.out.ts ge' td).mono ?_
              rintro e W4 ⟨a0, a1, a2, a3, a4, a5, a6, a7, a8, er', rfl, hg, hC, ho⟩
              have HGO := Lib.hid hg
              have HI5 := Lib.hid (HI4.out.only HL0 HN1.out HML2.out hC ho)
              have HU5 := Lib.hid (ex_only HU4.out ho HUL.out)
              clear hg hC ho c0 c1 c2 c3 c4 c5 c6 c7 c8 g0 g1 g2 g3
              obtain ⟨z0, z1, z2, z3, z4, z5, z6, z7, z8⟩ := nine_at HU5.out
              obtain ⟨y0, y1, y2, y3, y4, y5, y6, y7, y8⟩ := nine_fr HU5.out
              unfold tkV
              go_wp2_with fail
              go_meet
              exact ⟨er', nx, td, a0, a1, a2, a3, a4, a5, a6, a7, a8, rfl, rfl, rfl, rfl, Lib.hid (put9_at HU5.out (.int .u64 a0) (.int .i64 a1) (.int .i64 a2) (.int .i64 a3) (.int .u64 a4) (.int .i64 a5) (.int .i64 a6) (.int .i64 a7) (.int .i64 a8)).1, Lib.hid (HI5.out.put HC0.out HM0.out HUM.out.1 HUM.out.2.1 HUM.out.2.2 HU5.out (.int .u64 a0) (.int .i64 a1) (.int .i64 a2) (.int .i64 a3) (.int .u64 a4) (.int .i64 a5) (.int .i64 a6) (.int .i64 a7) (.int .i64 a8)), Lib.hid ⟨fun h => by obtain ⟨h1, h2, h3, h4, h5⟩ := HGO.out h; exact ⟨h1, h2, h3, h4, HI5.out.t0.1, HI5.out.t0.2, h5⟩, fun _ => ⟨rfl, rfl⟩⟩⟩
            cases q3
            case true =>
              clear h4
              go_wp2_with fail
              refine (act_reopen HI4.out.ck HD.out HI4.out.ts ge' td c a ca r b B P HSW.out HSP.out.2.1).mono ?_
              rintro e W4 ⟨a0, a1, a2, a3, a4, a5, a6, a7, a8, er', rfl, hg, hC, ho⟩
              have HGO := Lib.hid hg
              have HI5 := Lib.hid (HI4.out.only HL0 HN1.out HML2.out hC ho)
              have HU5 := Lib.hid (ex_only HU4.out ho HUL.out)
              clear hg hC ho c0 c1 c2 c3 c4 c5 c6 c7 c8 g0 g1 g2 g3
              obtain ⟨z0, z1, z2, z3, z4, z5, z6, z7, z8⟩ := nine_at HU5.out
              obtain ⟨y0, y1, y2, y3, y4, y5, y6, y7, y8⟩ := nine_fr HU5.out
              unfold tkV
              by_cases he : er' = 0
              · have q5 : (er' == 0) = true := by simpa using he
                have HEE := Lib.hid he
                clear he
                go_wp2_with fail
                go_meet
                exact ⟨er', 0, td, a0, a1, a2, a3, a4, a5, a6, a7, a8, rfl, rfl, rfl, rfl, Lib.hid (put9_at HU5.out (.int .u64 a0) (.int .i64 a1) (.int .i64 a2) (.int .i64 a3) (.int .u64 a4) (.int .i64 a5) (.int .i64 a6) (.int .i64 a7) (.int .i64 a8)).1, Lib.hid (HI5.out.put HC0.out HM0.out HUM.out.1 HUM.out.2.1 HUM.out.2.2 HU5.out (.int .u64 a0) (.int .i64 a1) (.int .i64 a2) (.int .i64 a3) (.int .u64 a4) (.int .i64 a5) (.int .i64 a6) (.int .i64 a7) (.int .i64 a8)), Lib.hid ⟨fun h => by obtain ⟨h1, h2, h3, h4, h5⟩ := HGO.out h; exact ⟨h1, h2, h3, h4, HI5.out.t0.1, HI5.out.t0.2, h5⟩, fun h => absurd HEE.out h⟩⟩
              · have q5 : (er' == 0) = false := by simpa using he
                have HEE := Lib.hid he
                clear he
                go_wp2_with fail
                go_meet
                exact ⟨er', nx, td, a0, a1, a2, a3, a4, a5, a6, a7, a8, rfl, rfl, rfl, rfl, Lib.hid (put9_at HU5.out (.int .u64 a0) (.int .i64 a1) (.int .i64 a2) (.int .i64 a3) (.int .u64 a4) (.int .i64 a5) (.int .i64 a6) (.int .i64 a7) (.int .i64 a8)).1, Lib.hid (HI5.out.put HC0.out HM0.out HUM.out.1 HUM.out.2.1 HUM.out.2.2 HU5.out (.int .u64 a0) (.int .i64 a1) (.int .i64 a2) (.int .i64 a3) (.int .u64 a4) (.int .i64 a5) (.int .i64 a6) (.int .i64 a7) (.int .i64 a8)), Lib.hid ⟨fun h => absurd h HEE.out, fun _ => ⟨rfl, rfl⟩⟩⟩
            cases q4
            case true =>
              go_wp2_with fail
              refine (act_fire HI4.out.ck HD.out HI4.out.ts ge' td c a ca r b B P HSW.out HSP.out.2.1 HFAR.out HI3.out.t0.1 (by have := HI3.out.t0; omega)).mono ?_
              rintro e W4 ⟨a0, a1, a2, a3, a4, a5, a6, a7, a8, met, er', rfl, hg, hC, ho⟩
              have HGO := Lib.hid hg
              have HI5 := Lib.hid (HI4.out.only HL0 HN1.out HML2.out hC ho)
              have HU5 := Lib.hid (ex_only HU4.out ho HUL.out)
              clear hg hC ho c0 c1 c2 c3 c4 c5 c6 c7 c8 g0 g1 g2 g3
              obtain ⟨z0, z1, z2, z3, z4, z5, z6, z7, z8⟩ := nine_at HU5.out
              obtain ⟨y0, y1, y2, y3, y4, y5, y6, y7, y8⟩ := nine_fr HU5.out
              unfold tkV
              have HU6 := Lib.hid (put9_at HU5.out (.int .u64 a0) (.int .i64 a1) (.int .i64 a2) (.int .i64 a3) (.int .u64 a4) (.int .i64 a5) (.int .i64 a6) (.int .i64 a7) (.int .i64 a8)).1
              have HI6 := Lib.hid (HI5.out.put HC0.out HM0.out HUM.out.1 HUM.out.2.1 HUM.out.2.2 HU5.out (.int .u64 a0) (.int .i64 a1) (.int .i64 a2) (.int .i64 a3) (.int .u64 a4) (.int .i64 a5) (.int .i64 a6) (.int .i64 a7) (.int .i64 a8))
              unfold put9 at HU6 HI6
              go_upto_region 29 with (fail)
              generalize (((((((((W4.setCell ⟨W2.heap.size, 0, none⟩ (.int .u64 a0)).setCell ⟨W2.heap.size, 1, none⟩ (.int .i64 a1)).setCell ⟨W2.heap.size, 2, none⟩ (.int .i64 a2)).setCell ⟨W2.heap.size, 3, none⟩ (.int .i64 a3)).setCell ⟨W2.heap.size, 4, none⟩ (.int .u64 a4)).setCell ⟨W2.heap.size, 5, none⟩ (.int .i64 a5)).setCell ⟨W2.heap.size, 6, none⟩ (.int .i64 a6)).setCell ⟨W2.heap.size, 7, none⟩ (.int .i64 a7)).setCell ⟨W2.heap.size, 8, none⟩ (.int .i64 a8)) = W9 at HU6 HI6 ⊢
              clear z0 z1 z2 z3 z4 z5 z6 z7 z8 y0 y1 y2 y3 y4 y5 y6 y7 y8
              obtain ⟨-, -, z2, z3, -⟩ := nine_at HU6.out
              by_cases he : er' = 0
              · have q5 : (er' == 0) = true := by simpa using he
                have HEE := Lib.hid he
                obtain ⟨hme, _, _, _, _, _, hlv⟩ := HGO.out he
                subst hme
                clear he
                rcases hlv with ⟨q6, q7⟩ | q6
                · subst q7
                  go_wp2_with fail
                  go_meet
                  exact ⟨er', (met + 1), (td + 1), a0, a1, a2, (met + 1), a4, a5, a6, a7, a8, rfl, rfl, rfl, rfl, HU6, HI6, Lib.hid ⟨fun h => by obtain ⟨h0, h1, h2, h3, h4, h5, h6⟩ := HGO.out h; exact ⟨h1, h2, h3, h4, by have := HI3.out.t0; omega, by have := HI3.out.t0; omega, h5⟩, fun h => absurd HEE.out h⟩⟩
                · skip
                  go_wp2_with fail
                  go_meet
                  exact ⟨er', (met + 1), (td + 1), a0, a1, a2, a3, a4, a5, a6, a7, a8, rfl, rfl, rfl, rfl, HU6, HI6, Lib.hid ⟨fun h => by obtain ⟨h0, h1, h2, h3, h4, h5, h6⟩ := HGO.out h; exact ⟨h1, h2, h3, h4, by have := HI3.out.t0; omega, by have := HI3.out.t0; omega, h5⟩, fun h => absurd HEE.out h⟩⟩
              · have q5 : (er' == 0) = false := by simpa using he
                have HEE := Lib.hid he
                clear he
                go_wp2_with fail
                go_meet
                exact ⟨er', nx, td, a0, a1, a2, a3, a4, a5, a6, a7, a8, rfl, rfl, rfl, rfl, HU6, HI6, Lib.hid ⟨fun h => absurd h HEE.out, fun _ => ⟨rfl, rfl⟩⟩⟩
            case false =>
              go_wp2_with fail
              refine (act_pause HI4.out.ck HD.out HDN.out HI4.out.ts ge' td).mono ?_
              rintro e W4 ⟨a0, a1, a2, a3, a4, a5, a6, a7, a8, er', rfl, hg, hC, ho⟩
              have HGO := Lib.hid hg
              have HI5 := Lib.hid (HI4.out.only HL0 HN1.out HML2.out hC ho)
              have HU5 := Lib.hid (ex_only HU4.out ho HUL.out)
              clear hg hC ho c0 c1 c2 c3 c4 c5 c6 c7 c8 g0 g1 g2 g3
              obtain ⟨z0, z1, z2, z3, z4, z5, z6, z7, z8⟩ := nine_at HU5.out
              obtain ⟨y0, y1, y2, y3, y4, y5, y6, y7, y8⟩ := nine_fr HU5.out
              unfold tkV
              go_wp2_with fail
              go_meet
              exact ⟨er', nx, td, a0, a1, a2, a3, a4, a5, a6, a7, a8, rfl, rfl, rfl, rfl, Lib.hid (put9_at HU5.out (.int .u64 a0) (.int .i64 a1) (.int .i64 a2) (.int .i64 a3) (.int .u64 a4) (.int .i64 a5) (.int .i64 a6) (.int .i64 a7) (.int .i64 a8)).1, Lib.hid (HI5.out.put HC0.out HM0.out HUM.out.1 HUM.out.2.1 HUM.out.2.2 HU5.out (.int .u64 a0) (.int .i64 a1) (.int .i64 a2) (.int .i64 a3) (.int .u64 a4) (.int .i64 a5) (.int .i64 a6) (.int .i64 a7) (.int .i64 a8)), Lib.hid ⟨fun h => by obtain ⟨h1, h2, h3, h4, h5⟩ := HGO.out h; exact ⟨h1, h2, h3, h4, HI5.out.t0.1, HI5.out.t0.2, h5⟩, fun _ => ⟨rfl, rfl⟩⟩⟩
          case rest =>
            clear HI4 HU4 HX4
            obtain ⟨er', nx', td', a0, a1, a2, a3, a4, a5, a6, a7, a8, rfl, rfl, rfl, rfl, HU, HI6, HR6⟩ := hcut
            have e7 : IntKind.i64.wrap ((i : Int) + 1) = (i : Int) + 1 := IntWalk.i64_in _ (by omega)
            by_cases he : er' = 0
            · obtain ⟨rfl, rfl, rfl, rfl, t0', t1', hT⟩ := HR6.out.1 he
              subst he
              obtain ⟨A, A0, A1, A2, A3, A4, HAH⟩ := act_ahead hT HN6.out.2.1 0 a8 c a ca r b
              have HAH := Lib.hid HAH
              have e8 : IntKind.i64.wrap (nx' + A) = nx' + A := IntWalk.i64_in _ (by omega)
              have e9 : decide ((n : Int) < nx' + A) = false := decide_eq_false (by omega)
              have HI7 := Lib.hid (HI6.out.set HC0.out (Nat.le_refl _) HM0.out hT ⟨t0', t1'⟩)
              obtain ⟨z0, z1, z2, z3, z4, z5, z6, z7, z8⟩ := nine_at HU.out
              obtain ⟨c0, c1, c2, c3, c4, c5, c6, c7, c8⟩ := nine_at HI6.out.tk
              obtain ⟨f0, f1, f2, f3, f4, f5, f6, f7, f8⟩ := nine_fr HI6.out.tk
              clear hT HR6 A0 A1 A2 A3 A4
              unfold tkV conV at HAH
              unfold put9 at HI7
              go_wp2_with fail
              generalize (((((((((wc.setCell ⟨W5.heap.size, 0, none⟩ (.int .u64 1)).setCell ⟨W5.heap.size, 1, none⟩ (.int .i64 2)).setCell ⟨W5.heap.size, 2, none⟩ (.int .i64 a2)).setCell ⟨W5.heap.size, 3, none⟩ (.int .i64 a3)).setCell ⟨W5.heap.size, 4, none⟩ (.int .u64 0)).setCell ⟨W5.heap.size, 5, none⟩ (.int .i64 a5)).setCell ⟨W5.heap.size, 6, none⟩ (.int .i64 a6)).setCell ⟨W5.heap.size, 7, none⟩ (.int .i64 a7)).setCell ⟨W5.heap.size, 8, none⟩ (.int .i64 a8)) = W6 at HI7 ⊢
              clear c0 c1 c2 c3 c4 c5 c6 c7 c8 f0 f1 f2 f3 f4 f5 f6 f7 f8 z0 z1 z2 z3 z4 z5 z6 z7 z8 HI6 HU
              have h0 : W6.drew.heap[W5.heap.size]? = some (.cells #[.int .u64 1, .int .i64 2, .int .i64 a2, .int .i64 a3, .int .u64 0, .int .i64 a5, .int .i64 a6, .int .i64 a7, .int .i64 a8] 68 (0, 0)) ∧ W6.drew.heap[w.heap.size + 1]? = some (.cells #[.int .i64 c, .slice a n ca, .int .i64 r, .int .i64 b] 27 (0, 0)) := ⟨HI7.out.tk, HI7.out.con⟩
              refine wp_region_held_drew (S := fun w' => w'.heap[W5.heap.size]? = some (.cells #[.int .u64 1, .int .i64 2, .int .i64 a2, .int .i64 a3, .int .u64 0, .int .i64 a5, .int .i64 a6, .int .i64 a7, .int .i64 a8] 68 (0, 0)) ∧ w'.heap[w.heap.size + 1]? = some (.cells #[.int .i64 c, .slice a n ca, .int .i64 r, .int .i64 b] 27 (0, 0))) (by kernel_rfl) h0 (fun hHeld => ?_)
              refine wpAnyH_take (i := 0) (v := ?_) rfl (by kernel_rfl) (by kernel_rfl) (by kernel_rfl) (fun _ _ _ h => h) (Or.inl ⟨by rfl, ?_⟩) (by assumption) ?_
              case refine_2 => (intro w1 hS1; (try dsimp only at hS1); obtain ⟨hq1, hq2⟩ := hS1; obtain ⟨c0, c1, c2, c3, c4, c5, c6, c7, c8⟩ := nine_at hq1; obtain ⟨g0, g1, g2, g3, -⟩ := four_at hq2;  go_simp; try with_reducible rfl)
              try simp only [List.getElem_toArray, List.getElem_cons_zero, List.getElem_cons_succ, Act.put, List.setIfInBounds_toArray, List.set_cons_zero, List.set_cons_succ]
              refine wpAnyH_take (i := 1) (v := ?_) rfl (by kernel_rfl) (by kernel_rfl) (by kernel_rfl) (fun _ _ _ h => h) (Or.inl ⟨by rfl, ?_⟩) (by assumption) ?_
              case refine_2 => (intro w1 hS1; (try dsimp only at hS1); obtain ⟨hq1, hq2⟩ := hS1; obtain ⟨c0, c1, c2, c3, c4, c5, c6, c7, c8⟩ := nine_at hq1; obtain ⟨g0, g1, g2, g3, -⟩ := four_at hq2;  go_simp; try with_reducible rfl)
              try simp only [List.getElem_toArray, List.getElem_cons_zero, List.getElem_cons_succ, Act.put, List.setIfInBounds_toArray, List.set_cons_zero, List.set_cons_succ]
              refine wpAnyH_take (i := 2) (v := ?_) rfl (by kernel_rfl) (by kernel_rfl) (by kernel_rfl) (fun _ _ _ h => h) (Or.inl ⟨by rfl, ?_⟩) (by assumption) ?_
              case refine_2 => (intro w1 hS1; (try dsimp only at hS1); obtain ⟨hq1, hq2⟩ := hS1;  go_simp; try with_reducible rfl)
              try simp only [List.getElem_toArray, List.getElem_cons_zero, List.getElem_cons_succ, Act.put, List.setIfInBounds_toArray, List.set_cons_zero, List.set_cons_succ]
              refine wpAnyH_take (i := 3) (v := ?_) rfl (by kernel_rfl) (by kernel_rfl) (by kernel_rfl) (fun _ _ _ h => h) (Or.inl ⟨by rfl, ?_⟩) (by assumption) ?_
              case refine_2 => (intro w1 hS1; (try dsimp only at hS1); obtain ⟨hq1, hq2⟩ := hS1;  go_simp; try with_reducible rfl)
              try simp only [List.getElem_toArray, List.getElem_cons_zero, List.getElem_cons_succ, Act.put, List.setIfInBounds_toArray, List.set_cons_zero, List.set_cons_succ]
              refine wpAnyH_take (i := 4) (v := ?_) rfl (by kernel_rfl) (by kernel_rfl) (by kernel_rfl) (fun _ _ _ h => h) (Or.inl ⟨by rfl, ?_⟩) (by assumption) ?_
              case refine_2 => (intro w1 hS1; (try dsimp only at hS1); obtain ⟨hq1, hq2⟩ := hS1;  go_simp; try with_reducible rfl)
              try simp only [List.getElem_toArray, List.getElem_cons_zero, List.getElem_cons_succ, Act.put, List.setIfInBounds_toArray, List.set_cons_zero, List.set_cons_succ]
              refine wpAnyH_take (i := 5) (v := ?_) rfl (by kernel_rfl) (by kernel_rfl) (by kernel_rfl) (fun _ _ _ h => h) (Or.inl ⟨by rfl, ?_⟩) (by assumption) ?_
              case refine_2 => (intro w1 hS1; (try dsimp only at hS1); obtain ⟨hq1, hq2⟩ := hS1;  go_simp; try with_reducible rfl)
              try simp only [List.getElem_toArray, List.getElem_cons_zero, List.getElem_cons_succ, Act.put, List.setIfInBounds_toArray, List.set_cons_zero, List.set_cons_succ]
              refine wpAnyH_take (i := 6) (v := ?_) rfl (by kernel_rfl) (by kernel_rfl) (by kernel_rfl) (fun _ _ _ h => h) (Or.inl ⟨by rfl, ?_⟩) (by assumption) ?_
              case refine_2 => (intro w1 hS1; (try dsimp only at hS1); obtain ⟨hq1, hq2⟩ := hS1; obtain ⟨c0, c1, c2, c3, c4, c5, c6, c7, c8⟩ := nine_at hq1; obtain ⟨g0, g1, g2, g3, -⟩ := four_at hq2;  go_simp; try with_reducible rfl)
              try simp only [List.getElem_toArray, List.getElem_cons_zero, List.getElem_cons_succ, Act.put, List.setIfInBounds_toArray, List.set_cons_zero, List.set_cons_succ]
              refine wpAnyH_take (i := 7) (v := ?_) rfl (by kernel_rfl) (by kernel_rfl) (by kernel_rfl) (fun _ _ _ h => h) (Or.inl ⟨by rfl, ?_⟩) (by assumption) ?_
              case refine_2 => (intro w1 hS1; (try dsimp only at hS1); obtain ⟨hq1, hq2⟩ := hS1; obtain ⟨c0, c1, c2, c3, c4, c5, c6, c7, c8⟩ := nine_at hq1; obtain ⟨g0, g1, g2, g3, -⟩ := four_at hq2;  go_simp; try with_reducible rfl)
              try simp only [List.getElem_toArray, List.getElem_cons_zero, List.getElem_cons_succ, Act.put, List.setIfInBounds_toArray, List.set_cons_zero, List.set_cons_succ]
              refine wpAnyH_take (i := 10) (v := ?_) rfl (by kernel_rfl) (by kernel_rfl) (by kernel_rfl) (fun _ _ _ h => h) (Or.inl ⟨by rfl, ?_⟩) (by assumption) ?_
              case refine_2 => (intro w1 hS1; (try dsimp only at hS1); obtain ⟨hq1, hq2⟩ := hS1; obtain ⟨c0, c1, c2, c3, c4, c5, c6, c7, c8⟩ := nine_at hq1; obtain ⟨g0, g1, g2, g3, -⟩ := four_at hq2;  go_simp; try with_reducible rfl)
              try simp only [List.getElem_toArray, List.getElem_cons_zero, List.getElem_cons_succ, Act.put, List.setIfInBounds_toArray, List.set_cons_zero, List.set_cons_succ]
              refine wpAnyH_take (i := 11) (v := ?_) rfl (by kernel_rfl) (by kernel_rfl) (by kernel_rfl) (fun _ _ _ h => h) (Or.inl ⟨by rfl, ?_⟩) (by assumption) ?_
              case refine_2 => (intro w1 hS1; (try dsimp only at hS1); obtain ⟨hq1, hq2⟩ := hS1; obtain ⟨c0, c1, c2, c3, c4, c5, c6, c7, c8⟩ := nine_at hq1; obtain ⟨g0, g1, g2, g3, -⟩ := four_at hq2;  go_simp; try with_reducible rfl)
              try simp only [List.getElem_toArray, List.getElem_cons_zero, List.getElem_cons_succ, Act.put, List.setIfInBounds_toArray, List.set_cons_zero, List.set_cons_succ]
              refine wpAnyH_take (i := 12) (v := ?_) rfl (by kernel_rfl) (by kernel_rfl) (by kernel_rfl) (fun _ _ _ h => h) (Or.inl ⟨by rfl, ?_⟩) (by assumption) ?_
              case refine_2 => (intro w1 hS1; (try dsimp only at hS1); obtain ⟨hq1, hq2⟩ := hS1;  go_simp; try with_reducible rfl)
              try simp only [List.getElem_toArray, List.getElem_cons_zero, List.getElem_cons_succ, Act.put, List.setIfInBounds_toArray, List.set_cons_zero, List.set_cons_succ]
              refine wpAnyH_ready (rs := [8]) (by kernel_rfl) (by simp) ?_
              refine AllReadyH.cons rfl (fun K hK => ?_) AllReadyH.nil
              go_simp
              refine (HAH.out _).mono ?_
              rintro e w8 ⟨rfl, hb⟩
              have HI8 := Lib.hid ((HI7.out.below (Below.refl _ _).drew).below hb)
              clear hb
              refine hK.out _ _ (⟨HI8.out.tk, HI8.out.con⟩) (fun hHeld => ?_)
              clear hK K
              try simp only [List.getElem_toArray, List.getElem_cons_zero, List.getElem_cons_succ, Act.put, List.setIfInBounds_toArray, List.set_cons_zero, List.set_cons_succ]
              refine wpAnyH_take (i := 9) (v := ?_) rfl (by kernel_rfl) (by kernel_rfl) (by kernel_rfl) (fun _ _ _ h => h) (Or.inl ⟨by rfl, ?_⟩) (by assumption) ?_
              case refine_2 => (intro w1 hS1; (try dsimp only at hS1); obtain ⟨hq1, hq2⟩ := hS1;  go_simp; try with_reducible rfl)
              try simp only [List.getElem_toArray, List.getElem_cons_zero, List.getElem_cons_succ, Act.put, List.setIfInBounds_toArray, List.set_cons_zero, List.set_cons_succ]
              refine wpAnyH_take (i := 13) (v := ?_) rfl (by kernel_rfl) (by kernel_rfl) (by kernel_rfl) (fun _ _ _ h => h) (Or.inl ⟨by rfl, ?_⟩) (by assumption) ?_
              case refine_2 => (intro w1 hS1; (try dsimp only at hS1); obtain ⟨hq1, hq2⟩ := hS1;  go_simp; try with_reducible rfl)
              try simp only [List.getElem_toArray, List.getElem_cons_zero, List.getElem_cons_succ, Act.put, List.setIfInBounds_toArray, List.set_cons_zero, List.set_cons_succ]
              refine wpAnyH_take (i := 14) (v := ?_) rfl (by kernel_rfl) (by kernel_rfl) (by kernel_rfl) (fun _ _ _ h => h) (Or.inl ⟨by rfl, ?_⟩) (by assumption) ?_
              case refine_2 => (intro w1 hS1; (try dsimp only at hS1); obtain ⟨hq1, hq2⟩ := hS1;  go_simp; try with_reducible rfl)
              try simp only [List.getElem_toArray, List.getElem_cons_zero, List.getElem_cons_succ, Act.put, List.setIfInBounds_toArray, List.set_cons_zero, List.set_cons_succ]
              refine wpAnyH_done (by kernel_rfl) ?_ _
              go_wp2_with fail
              go_roundg (ll + 1 - (i + 1))
              case measure => omega
              case rel => exact ⟨i + 1, nw + wt, 0, nx', a8, a2, a3, 0, a5, a6, a7, rfl, rfl, rfl, rfl, by go_num, by omega, by omega, Lib.hid ⟨fun _ => rfl, HI8.out⟩⟩
            · obtain ⟨rfl, rfl⟩ := HR6.out.2 he
              have he1 : (er' == 0) = false := by simpa using he
              obtain ⟨A, A0, A1, A2, A3, A4, HAH⟩ := act_ahead HI6.out.ts HN6.out.2.1 ge' td' c a ca r b
              have HAH := Lib.hid HAH
              have e8 : IntKind.i64.wrap (nx' + A) = nx' + A := IntWalk.i64_in _ (by omega)
              have e9 : decide ((n : Int) < nx' + A) = false := decide_eq_false (by omega)
              unfold tkV conV at HAH
              clear he HR6 A0 A1 A2 A3 A4
              obtain ⟨c0, c1, c2, c3, c4, c5, c6, c7, c8⟩ := nine_at HI6.out.tk
              go_wp2_with fail
              obtain ⟨W6, hW6⟩ : ∃ x, wc = x := ⟨_, rfl⟩
              rw [hW6] at HI6 ⊢
              have HI7 := HI6
              clear c0 c1 c2 c3 c4 c5 c6 c7 c8 HI6 hW6 HU
              have h0 : W6.drew.heap[W5.heap.size]? = some (.cells #[.int .u64 1, .int .i64 2, .int .i64 st, .int .i64 lv, .int .u64 ge', .int .i64 fr, .int .i64 lf, .int .i64 du, .int .i64 td'] 68 (0, 0)) ∧ W6.drew.heap[w.heap.size + 1]? = some (.cells #[.int .i64 c, .slice a n ca, .int .i64 r, .int .i64 b] 27 (0, 0)) := ⟨HI7.out.tk, HI7.out.con⟩
              refine wp_region_held_drew (S := fun w' => w'.heap[W5.heap.size]? = some (.cells #[.int .u64 1, .int .i64 2, .int .i64 st, .int .i64 lv, .int .u64 ge', .int .i64 fr, .int .i64 lf, .int .i64 du, .int .i64 td'] 68 (0, 0)) ∧ w'.heap[w.heap.size + 1]? = some (.cells #[.int .i64 c, .slice a n ca, .int .i64 r, .int .i64 b] 27 (0, 0))) (by kernel_rfl) h0 (fun hHeld => ?_)
              refine wpAnyH_take (i := 0) (v := ?_) rfl (by kernel_rfl) (by kernel_rfl) (by kernel_rfl) (fun _ _ _ h => h) (Or.inl ⟨by rfl, ?_⟩) (by assumption) ?_
              case refine_2 => (intro w1 hS1; (try dsimp only at hS1); obtain ⟨hq1, hq2⟩ := hS1; obtain ⟨c0, c1, c2, c3, c4, c5, c6, c7, c8⟩ := nine_at hq1; obtain ⟨g0, g1, g2, g3, -⟩ := four_at hq2;  go_simp; try with_reducible rfl)
              try simp only [List.getElem_toArray, List.getElem_cons_zero, List.getElem_cons_succ, Act.put, List.setIfInBounds_toArray, List.set_cons_zero, List.set_cons_succ]
              refine wpAnyH_take (i := 1) (v := ?_) rfl (by kernel_rfl) (by kernel_rfl) (by kernel_rfl) (fun _ _ _ h => h) (Or.inl ⟨by rfl, ?_⟩) (by assumption) ?_
              case refine_2 => (intro w1 hS1; (try dsimp only at hS1); obtain ⟨hq1, hq2⟩ := hS1; obtain ⟨c0, c1, c2, c3, c4, c5, c6, c7, c8⟩ := nine_at hq1; obtain ⟨g0, g1, g2, g3, -⟩ := four_at hq2;  go_simp; try with_reducible rfl)
              try simp only [List.getElem_toArray, List.getElem_cons_zero, List.getElem_cons_succ, Act.put, List.setIfInBounds_toArray, List.set_cons_zero, List.set_cons_succ]
              refine wpAnyH_take (i := 2) (v := ?_) rfl (by kernel_rfl) (by kernel_rfl) (by kernel_rfl) (fun _ _ _ h => h) (Or.inl ⟨by rfl, ?_⟩) (by assumption) ?_
              case refine_2 => (intro w1 hS1; (try dsimp only at hS1); obtain ⟨hq1, hq2⟩ := hS1;  go_simp; try with_reducible rfl)
              try simp only [List.getElem_toArray, List.getElem_cons_zero, List.getElem_cons_succ, Act.put, List.setIfInBounds_toArray, List.set_cons_zero, List.set_cons_succ]
              refine wpAnyH_take (i := 3) (v := ?_) rfl (by kernel_rfl) (by kernel_rfl) (by kernel_rfl) (fun _ _ _ h => h) (Or.inl ⟨by rfl, ?_⟩) (by assumption) ?_
              case refine_2 => (intro w1 hS1; (try dsimp only at hS1); obtain ⟨hq1, hq2⟩ := hS1;  go_simp; try with_reducible rfl)
              try simp only [List.getElem_toArray, List.getElem_cons_zero, List.getElem_cons_succ, Act.put, List.setIfInBounds_toArray, List.set_cons_zero, List.set_cons_succ]
              refine wpAnyH_take (i := 4) (v := ?_) rfl (by kernel_rfl) (by kernel_rfl) (by kernel_rfl) (fun _ _ _ h => h) (Or.inl ⟨by rfl, ?_⟩) (by assumption) ?_
              case refine_2 => (intro w1 hS1; (try dsimp only at hS1); obtain ⟨hq1, hq2⟩ := hS1;  go_simp; try with_reducible rfl)
              try simp only [List.getElem_toArray, List.getElem_cons_zero, List.getElem_cons_succ, Act.put, List.setIfInBounds_toArray, List.set_cons_zero, List.set_cons_succ]
              refine wpAnyH_take (i := 5) (v := ?_) rfl (by kernel_rfl) (by kernel_rfl) (by kernel_rfl) (fun _ _ _ h => h) (Or.inl ⟨by rfl, ?_⟩) (by assumption) ?_
              case refine_2 => (intro w1 hS1; (try dsimp only at hS1); obtain ⟨hq1, hq2⟩ := hS1;  go_simp; try with_reducible rfl)
              try simp only [List.getElem_toArray, List.getElem_cons_zero, List.getElem_cons_succ, Act.put, List.setIfInBounds_toArray, List.set_cons_zero, List.set_cons_succ]
              refine wpAnyH_take (i := 6) (v := ?_) rfl (by kernel_rfl) (by kernel_rfl) (by kernel_rfl) (fun _ _ _ h => h) (Or.inl ⟨by rfl, ?_⟩) (by assumption) ?_
              case refine_2 => (intro w1 hS1; (try dsimp only at hS1); obtain ⟨hq1, hq2⟩ := hS1; obtain ⟨c0, c1, c2, c3, c4, c5, c6, c7, c8⟩ := nine_at hq1; obtain ⟨g0, g1, g2, g3, -⟩ := four_at hq2;  go_simp; try with_reducible rfl)
              try simp only [List.getElem_toArray, List.getElem_cons_zero, List.getElem_cons_succ, Act.put, List.setIfInBounds_toArray, List.set_cons_zero, List.set_cons_succ]
              refine wpAnyH_take (i := 7) (v := ?_) rfl (by kernel_rfl) (by kernel_rfl) (by kernel_rfl) (fun _ _ _ h => h) (Or.inl ⟨by rfl, ?_⟩) (by assumption) ?_
              case refine_2 => (intro w1 hS1; (try dsimp only at hS1); obtain ⟨hq1, hq2⟩ := hS1; obtain ⟨c0, c1, c2, c3, c4, c5, c6, c7, c8⟩ := nine_at hq1; obtain ⟨g0, g1, g2, g3, -⟩ := four_at hq2;  go_simp; try with_reducible rfl)
              try simp only [List.getElem_toArray, List.getElem_cons_zero, List.getElem_cons_succ, Act.put, List.setIfInBounds_toArray, List.set_cons_zero, List.set_cons_succ]
              refine wpAnyH_take (i := 10) (v := ?_) rfl (by kernel_rfl) (by kernel_rfl) (by kernel_rfl) (fun _ _ _ h => h) (Or.inl ⟨by rfl, ?_⟩) (by assumption) ?_
              case refine_2 => (intro w1 hS1; (try dsimp only at hS1); obtain ⟨hq1, hq2⟩ := hS1; obtain ⟨c0, c1, c2, c3, c4, c5, c6, c7, c8⟩ := nine_at hq1; obtain ⟨g0, g1, g2, g3, -⟩ := four_at hq2;  go_simp; try with_reducible rfl)
              try simp only [List.getElem_toArray, List.getElem_cons_zero, List.getElem_cons_succ, Act.put, List.setIfInBounds_toArray, List.set_cons_zero, List.set_cons_succ]
              refine wpAnyH_take (i := 11) (v := ?_) rfl (by kernel_rfl) (by kernel_rfl) (by kernel_rfl) (fun _ _ _ h => h) (Or.inl ⟨by rfl, ?_⟩) (by assumption) ?_
              case refine_2 => (intro w1 hS1; (try dsimp only at hS1); obtain ⟨hq1, hq2⟩ := hS1; obtain ⟨c0, c1, c2, c3, c4, c5, c6, c7, c8⟩ := nine_at hq1; obtain ⟨g0, g1, g2, g3, -⟩ := four_at hq2;  go_simp; try with_reducible rfl)
              try simp only [List.getElem_toArray, List.getElem_cons_zero, List.getElem_cons_succ, Act.put, List.setIfInBounds_toArray, List.set_cons_zero, List.set_cons_succ]
              refine wpAnyH_take (i := 12) (v := ?_) rfl (by kernel_rfl) (by kernel_rfl) (by kernel_rfl) (fun _ _ _ h => h) (Or.inl ⟨by rfl, ?_⟩) (by assumption) ?_
              case refine_2 => (intro w1 hS1; (try dsimp only at hS1); obtain ⟨hq1, hq2⟩ := hS1;  go_simp; try with_reducible rfl)
              try simp only [List.getElem_toArray, List.getElem_cons_zero, List.getElem_cons_succ, Act.put, List.setIfInBounds_toArray, List.set_cons_zero, List.set_cons_succ]
              refine wpAnyH_ready (rs := [8]) (by kernel_rfl) (by simp) ?_
              refine AllReadyH.cons rfl (fun K hK => ?_) AllReadyH.nil
              go_simp
              refine (HAH.out _).mono ?_
              rintro e w8 ⟨rfl, hb⟩
              have HI8 := Lib.hid ((HI7.out.below (Below.refl _ _).drew).below hb)
              clear hb
              refine hK.out _ _ (⟨HI8.out.tk, HI8.out.con⟩) (fun hHeld => ?_)
              clear hK K
              try simp only [List.getElem_toArray, List.getElem_cons_zero, List.getElem_cons_succ, Act.put, List.setIfInBounds_toArray, List.set_cons_zero, List.set_cons_succ]
              refine wpAnyH_take (i := 9) (v := ?_) rfl (by kernel_rfl) (by kernel_rfl) (by kernel_rfl) (fun _ _ _ h => h) (Or.inl ⟨by rfl, ?_⟩) (by assumption) ?_
              case refine_2 => (intro w1 hS1; (try dsimp only at hS1); obtain ⟨hq1, hq2⟩ := hS1;  go_simp; try with_reducible rfl)
              try simp only [List.getElem_toArray, List.getElem_cons_zero, List.getElem_cons_succ, Act.put, List.setIfInBounds_toArray, List.set_cons_zero, List.set_cons_succ]
              refine wpAnyH_take (i := 13) (v := ?_) rfl (by kernel_rfl) (by kernel_rfl) (by kernel_rfl) (fun _ _ _ h => h) (Or.inl ⟨by rfl, ?_⟩) (by assumption) ?_
              case refine_2 => (intro w1 hS1; (try dsimp only at hS1); obtain ⟨hq1, hq2⟩ := hS1;  go_simp; try with_reducible rfl)
              try simp only [List.getElem_toArray, List.getElem_cons_zero, List.getElem_cons_succ, Act.put, List.setIfInBounds_toArray, List.set_cons_zero, List.set_cons_succ]
              refine wpAnyH_take (i := 14) (v := ?_) rfl (by kernel_rfl) (by kernel_rfl) (by kernel_rfl) (fun _ _ _ h => h) (Or.inl ⟨by rfl, ?_⟩) (by assumption) ?_
              case refine_2 => (intro w1 hS1; (try dsimp only at hS1); obtain ⟨hq1, hq2⟩ := hS1;  go_simp; try with_reducible rfl)
              try simp only [List.getElem_toArray, List.getElem_cons_zero, List.getElem_cons_succ, Act.put, List.setIfInBounds_toArray, List.set_cons_zero, List.set_cons_succ]
              refine wpAnyH_done (by kernel_rfl) ?_ _
              go_wp2_with fail
              go_roundg (ll + 1 - (i + 1))
              case measure => omega
              case rel => exact ⟨i + 1, nw + wt, er', nx', td', st, lv, ge', fr, lf, du, rfl, rfl, rfl, rfl, by go_num, by omega, by omega, Lib.hid ⟨HGE.out.2, HI8.out⟩⟩
  · have he1 : (er != 0) = true := by simpa using he0
    have qe := fun (w : World) => eql_tket 0 0 0 0 0 0 0 0 0 w
    have qg := guard_tket .eql
    clear HRC hR he0
    unfold tkV
    obtain ⟨bx, bn, -⟩ := box1 W5 #[.int .u64 0, .int .i64 0, .int .i64 0, .int .i64 0, .int .u64 0, .int .i64 0, .int .i64 0, .int .i64 0, .int .i64 0] 68
    have HB6 := Lib.hid (HB5.out.trans (bx.mono HB5.out.size))
    have HE0_6 := Lib.hid (ex_below HE0_5.out bx)
    have HE1_6 := Lib.hid (ex_below HE1_5.out bx)
    have HE2_6 := Lib.hid bn
    have HN2 : Hid (W5.heap.size ≠ L.C) := Lib.hid (by have := HM5.out; omega)
    have HM6 := Lib.hid (Nat.lt_of_lt_of_le HM5.out bx.size)
    have HC6 := Lib.hid (HC5.out.kept bx)
    clear e0_0 e0_1 e0_2 e1_0 e1_1 e1_2 e1_3 bx bn
    have e0_0 := cells_heap HE0_6.out 0
    have e0_1 := cells_heap HE0_6.out 1
    have e0_2 := cells_heap HE0_6.out 2
    obtain ⟨e1_0, e1_1, e1_2, e1_3, -⟩ := four_at HE1_6.out
    have e2_0 := cells_heap HE2_6.out 0
    have e2_1 := cells_heap HE2_6.out 1
    have e2_2 := cells_heap HE2_6.out 2
    have e2_3 := cells_heap HE2_6.out 3
    have e2_4 := cells_heap HE2_6.out 4
    have e2_5 := cells_heap HE2_6.out 5
    have e2_6 := cells_heap HE2_6.out 6
    have e2_7 := cells_heap HE2_6.out 7
    have e2_8 := cells_heap HE2_6.out 8
    go_wp2_with fail
    generalize W5.alloc (.cells #[.int .u64 0, .int .i64 0, .int .i64 0, .int .i64 0, .int .u64 0, .int .i64 0, .int .i64 0, .int .i64 0, .int .i64 0] 68) = W6 at HB6 HE0_6 HE1_6 HE2_6 HC6 HM6 e0_0 e0_1 e0_2 e1_0 e1_1 e1_2 e1_3 e2_0 e2_1 e2_2 e2_3 e2_4 e2_5 e2_6 e2_7 e2_8 ⊢
    go_wp2_with fail
    refine (lives16 W6).mono ?_
    rintro e wl ⟨rfl, hb⟩
    have HBL := Lib.hid (HB6.out.trans (hb.mono HB6.out.size))
    clear e0_0 e0_1 e0_2 e1_0 e1_1 e1_2 e1_3 e2_0 e2_1 e2_2 e2_3 e2_4 e2_5 e2_6 e2_7 e2_8 hb
    go_wp2_with fail
    go_ret
    exact ⟨rfl, HBL.out⟩
end Go.Proofs.Ythnnbmofpmedhaa

/- VowNever. -/
import Derived.Test.YthefnakbpalecaaVyV
import Derived.Test.YthefnakbpalecaaVyU
import Derived.Deep.CutBlock
import Derived.Deep.DeepCutAuto
namespace Go.Proofs.Ythefnakbpalecaa
open Go.RowKit Go.Maps
def Nx (t : Nat) (v : Int) (t1 : Nat) (v1 : Int) : Prop := (t1 = t ∧ v1 = v) ∨ mayB t v t1 v1 = true
theorem nx_ge {t : Nat} {v : Int} {t1 : Nat} {v1 : Int} (h : Nx t v t1 v1) : ¬ (t1 : Int) < (t : Int) := by
  rcases h with h | h
  · omega
  · unfold mayB at h
    simp only [Bool.and_eq_true, Bool.or_eq_true, decide_eq_true_eq] at h
    omega
theorem nx_vote {t : Nat} {v : Int} {t1 : Nat} {v1 : Int} (h : Nx t v t1 v1) (ht : t1 = t) (hv : ¬ v1 = v) : v = -1 := by
  rcases h with h | h
  · exact absurd h.2 hv
  · unfold mayB at h
    simp only [Bool.and_eq_true, Bool.or_eq_true, decide_eq_true_eq] at h
    omega
theorem five_at {w : World} {N : Nat} {x0 x1 x2 x3 x4 : Value} {t : TypeId} (h : w.heap[N]? = some (.cells #[x0, x1, x2, x3, x4] t (0, 0))) : w.cell? ⟨N, 0, none⟩ = some x0 ∧ w.cell? ⟨N, 1, none⟩ = some x1 ∧ w.cell? ⟨N, 2, none⟩ = some x2 ∧ w.cell? ⟨N, 3, none⟩ = some x3 ∧ w.cell? ⟨N, 4, none⟩ = some x4 := by
  refine ⟨?_, ?_, ?_, ?_, ?_⟩ <;> simp [World.cell?, h]
theorem arm_up (D : Dd) (r : Int) (h : D.down = false) : (armD D r).1.fs = D.fs ∧ (armD D r).1.down = false ∧ (armD D r).1.st = D.st := by
  unfold armD
  rw [h]
  by_cases hr : r < 0
  · rw [if_neg (by simp), if_pos hr]; exact ⟨rfl, h, rfl⟩
  · rw [if_neg (by simp), if_neg hr]; exact ⟨rfl, rfl, rfl⟩
theorem resize_up (D : Dd) (r : Int) (h : D.down = false) : (resizeD D r).1.fs = D.fs ∧ (resizeD D r).1.down = false ∧ (resizeD D r).1.st = D.st := by
  unfold resizeD
  rw [h]
  by_cases hr : r < 0 ∨ 1048576 < r
  · rw [if_neg (by simp), if_pos hr]; exact ⟨rfl, h, rfl⟩
  · rw [if_neg (by simp), if_neg hr]; exact ⟨rfl, rfl, rfl⟩
/-- The law's loop, between rounds. -/
structure LN (w : World) (B b N : Nat) (S : Nat → Prop) (D : Dd) (t : Nat) (v : Int) (wr : World) : Prop where
  dk : DK S wr B D
  up : D.down = false
  fs : Ffs D.fs t v
  bk : BK wr b B t v
  nb : ¬ S b ∧ ¬ S N ∧ b ≠ N ∧ w.heap.size ≤ N ∧ w.heap.size ≤ b
  was : wr.heap[N]? = some (.cells #[.int .u64 (t : Int), .int .i64 v] 48 (0, 0))
  bel : Below w.heap.size w wr
  lo : ∀ k, S k → w.heap.size ≤ k
/-- Behind the call of a round. -/
structure CN (w : World) (B b N NO : Nat) (y : Ov) (t : Nat) (v : Int) (S : Nat → Prop) (D : Dd) (t1 : Nat) (v1 : Int) (wr : World) : Prop where
  dk : DK S wr B D
  bk : BK wr b B t1 v1
  nb : ¬ S b ∧ ¬ S N ∧ b ≠ N ∧ w.heap.size ≤ N ∧ w.heap.size ≤ b
  was : wr.heap[N]? = some (.cells #[.int .u64 (t : Int), .int .i64 v] 48 (0, 0))
  op : wr.heap[NO]? = some (.cells #[.int .i64 y.kd, .int .i64 y.n, .int .u64 (y.t : Int), .int .i64 y.v, .slice y.a y.ts.length y.c] 70 (0, 0))
  bel : Below w.heap.size w wr
  lo : ∀ k, S k → w.heap.size ≤ k
  st : (D.down = false ∧ Ffs D.fs t1 v1 ∧ Nx t v t1 v1) ∨ (D.down = true ∧ ∀ us, ∃ D' t' v', openV (bootD (crashD D us)) = (D', 0, t', v') ∧ Ffs D'.fs t' v' ∧ D'.down = false ∧ D'.st ≤ D.st + 3 ∧ Nx t v t' v')
theorem ex_open_new (r : Int) : openV (d0 r) = (d0 r, 0, 0, -1) := rfl
set_option maxRecDepth 100000 in
set_option maxHeartbeats 8000000 in
theorem vnever_main (room : Int) (a0 : Option Addr) (n c0 : Nat) (O : Nat → Ov) (w : World) (h : OpsV w a0 n O) (hr : 0 ≤ room ∧ room ≤ 1048576) :
    Calls Try.prog 8 #[.int .i64 room, .slice a0 n c0] w fun e w' => e = .returned (.bool true) ∧ Below w.heap.size w w' := by
  have HO := Lib.hid h.2
  have HNM := Lib.hid h.1
  have HRM := Lib.hid hr
  have d0' : decide (room < 0) = false := decide_eq_false (by omega)
  have d1 : decide (room > 1048576) = false := decide_eq_false (by omega)
  have d2 : decide (1048576 < room) = false := decide_eq_false (by omega)
  clear h hr
  go_enter Try.func8, Try.ntmps8
  go_wp2_with fail
  refine (light26 w.heap.size a0 n c0 O w HO.out (Nat.le_refl _) HNM.out).mono ?_
  rintro e w1 ⟨bl, rfl, hli, hb1⟩
  have HW1 := Lib.hid hb1
  have HLI := Lib.hid hli
  clear hb1 hli
  cases bl with
  | false =>
    go_wp2_with fail
    refine (lives26 w1).mono ?_
    rintro e w2 ⟨rfl, hb⟩
    have HBB := Lib.hid (HW1.out.trans (hb.mono HW1.out.size))
    clear hb
    go_wp2_with fail
    go_ret
    exact ⟨rfl, HBB.out⟩
  | true =>
    have hn := HLI.out rfl
    clear HLI d0' d1 d2
    go_wp2_with fail
    refine (new_dk room w1 HRM.out).mono ?_
    rintro e w2 ⟨B, rfl, hB, ⟨m, mt, M, V, h⟩, hb⟩
    have HOO := Lib.hid (vopen_any (D := d0 room) h (show (0 : Nat) < 900000000 by omega))
    rw [ex_open_new] at HOO
    have HSS : Hid (∀ k, (fun k => w1.heap.size ≤ k ∧ k < w2.heap.size) k → w.heap.size ≤ k) := Lib.hid (fun k hk => Nat.le_trans HW1.out.size hk.1)
    obtain ⟨S, hS⟩ : ∃ S : Nat → Prop, (fun k => w1.heap.size ≤ k ∧ k < w2.heap.size) = S := ⟨_, rfl⟩
    rw [hS] at HOO HSS
    have HB := Lib.hid (HW1.out.trans (hb.mono HW1.out.size))
    clear h hb hB hS HW1
    go_wp2_with fail
    refine HOO.out.mono ?_
    rintro e w3 ⟨S3, hdk3, hf3, ⟨hne, -⟩ | ⟨-, b, rfl, hbk, hbz, hbs⟩⟩
    · exact absurd rfl hne
    obtain ⟨hb3, hs3⟩ := fr_below HB.out HB.out.size HSS.out hf3
    have HB3 := Lib.hid hb3
    have HS3 := Lib.hid hs3
    have HDK3 := Lib.hid hdk3
    have HBK := Lib.hid hbk
    have HBS := Lib.hid hbs
    have HBZ := Lib.hid (Nat.le_trans HB.out.size hbz)
    dsimp only at HDK3 HBK
    clear hdk3 hf3 hbk hbz hbs hb3 hs3 HB HSS HOO
    go_wp2_with fail
    refine (vstate_yes HBK.out).mono ?_
    rintro e w4 ⟨rfl, hb4⟩
    obtain ⟨b5, s5, -⟩ := box1 w4 #[.int .u64 0, .int .i64 (-1)] 48
    have hbb := hb4.trans (b5.mono hb4.size)
    obtain ⟨N, hN⟩ : ∃ N, w4.heap.size = N := ⟨_, rfl⟩
    rw [hN] at s5
    have HLN : Hid (LN w B b N S3 (d0 room) 0 (-1) (w4.alloc (.cells #[.int .u64 0, .int .i64 (-1)] 48))) := Lib.hid (by
      obtain ⟨m4, mt4, M4, V4, hd4⟩ := HDK3.out
      have hbn := ex_lt HBK.out
      have hz4 := hb4.size
      have hzb := HB3.out.size
      refine ⟨⟨m4, mt4, M4, V4, hd4.below hbb⟩, rfl, .inl ⟨rfl, rfl, rfl⟩, ex_below HBK.out hbb, ⟨HBS.out, fun hs => ?_, by omega, by omega, HBZ.out⟩, s5, HB3.out.trans (hbb.mono HB3.out.size), HS3.out⟩
      have := hd4.bd _ hs; omega)
    clear hb4 b5 s5 hbb HB3 HS3 HDK3 HBK HBS HBZ
    go_wp2_with fail
    try rw [hN]
    generalize w4.alloc (.cells #[.int .u64 0, .int .i64 (-1)] 48) = W0 at HLN ⊢
    try rw [hN]
    clear hN
    go_loopg [6, 41] (n + 1) (fun kx s6 s41 wr => ∃ (i : Nat) (S : Nat → Prop) (D : Dd) (t : Nat) (v : Int) (b : Nat), s6 = .pointer (some ⟨b, 0, none⟩) ∧ s41 = .int .i64 (i : Int) ∧ i ≤ n ∧ n - i ≤ kx ∧ D.st ≤ 8 * i ∧ Hid (LN w B b N S D t v wr))
    case atStart => exact ⟨0, S3, d0 room, 0, -1, b, rfl, rfl, by omega, by omega, Nat.le_refl _, HLN⟩
    case round =>
      clear HLN
      obtain ⟨i, S, D, t, v, b, rfl, rfl, hi, hk, hst, HL⟩ := hrel
      by_cases hlt : i < n
      · have hltz : (i : Int) < (n : Int) := by omega
        have hi0 : (0 : Int) ≤ (i : Int) := by omega
        have HWI : Hid (wrap64 ((i : Int) + 1) = (i : Int) + 1) := Lib.hid (IntWalk.wrap64_in _ (by omega))
        obtain ⟨hok, htr, b0, o, rfl, hb0, -, k0, k1, k2, k3, k4⟩ := (HO.out.below HL.out.bel) i hlt
        obtain ⟨y, hy⟩ : ∃ y, O i = y := ⟨_, rfl⟩
        obtain ⟨-, htr0, -⟩ := HO.out i hlt
        rw [hy] at hok htr0 k0 k1 k2 k3 k4
        have HTR := Lib.hid htr0
        have HOK := Lib.hid hok
        obtain ⟨hb6, hs6, -⟩ := box1 wr #[.int .i64 y.kd, .int .i64 y.n, .int .u64 (y.t : Int), .int .i64 y.v, .slice y.a y.ts.length y.c] 70
        obtain ⟨NO, hNO⟩ : ∃ NO, wr.heap.size = NO := ⟨_, rfl⟩
        rw [hNO] at hs6
        obtain ⟨m5, mt5, M5, V5, hd5⟩ := HL.out.dk
        have HNO : Hid (¬ S NO) := Lib.hid (fun hs => by have := hd5.bd _ hs; omega)
        have HNOb : Hid (b ≠ NO) := Lib.hid (by have := ex_lt HL.out.bk; omega)
        have HDK6 : Hid (DK S (wr.alloc (.cells #[.int .i64 y.kd, .int .i64 y.n, .int .u64 (y.t : Int), .int .i64 y.v, .slice y.a y.ts.length y.c] 70)) B D) := Lib.hid ⟨m5, mt5, M5, V5, hd5.below hb6⟩
        have HBK6 : Hid (BK (wr.alloc (.cells #[.int .i64 y.kd, .int .i64 y.n, .int .u64 (y.t : Int), .int .i64 y.v, .slice y.a y.ts.length y.c] 70)) b B t v) := Lib.hid (ex_below HL.out.bk hb6)
        have HW6 := Lib.hid (ex_below HL.out.was hb6)
        have HO6 := Lib.hid hs6
        have HB6 := Lib.hid (HL.out.bel.trans (hb6.mono HL.out.bel.size))
        have HLO6 := Lib.hid HL.out.lo
        have HNB6 := Lib.hid HL.out.nb
        have HFS6 := Lib.hid (And.intro HL.out.up HL.out.fs)
        clear hok htr hy hb0 htr0 hb6 hs6 hd5 HL
        go_upto_block 2 with fail
        try rw [hNO]
        clear k0 k1 k2 k3 k4 hNO
        generalize wr.alloc (.cells #[.int .i64 y.kd, .int .i64 y.n, .int .u64 (y.t : Int), .int .i64 y.v, .slice y.a y.ts.length y.c] 70) = w6 at HDK6 HBK6 HW6 HO6 HB6 ⊢
        obtain ⟨x0, x1, x2, x3, x4⟩ := five_at HO6.out
        go_cut [6] (fun s6 wc => ∃ (S1 : Nat → Prop) (D1 : Dd) (t1 : Nat) (v1 : Int), s6 = .pointer (some ⟨b, 0, none⟩) ∧ D1.st ≤ 8 * i + 5 ∧ Hid (CN w B b N NO y t v S1 D1 t1 v1 wc))
        case first =>
          clear x0 x1 x2 x3 x4
          obtain ⟨o0, o1, o2, o3, o4⟩ := five_at HO6.out
          by_cases k1 : y.kd = 1
          · have e1 : decide (y.kd = 1) = true := decide_eq_true k1
            have b1 : (y.kd == 1) = true := by simp [k1]
            clear k1
            have htr : TRow S w6 y.a y.ts := fun j hj => by
              obtain ⟨b', o', h1, h2, h3, h4, h5⟩ := (HTR.out.blb HB6.out) j hj
              exact ⟨b', o', h1, h2, fun hs => h3 (HLO6.out _ hs), h4, h5⟩
            obtain ⟨m6, mt6, M6, V6, hd6⟩ := HDK6.out
            have HCR := Lib.hid (dcrash_did hd6 y.a y.c y.ts htr HOK.out.le HOK.out.wf)
            clear htr hd6
            go_wp2_with fail
            refine HCR.out.mono ?_
            rintro e w7 ⟨S7, rfl, hd7, hf7⟩
            have HD7 := Lib.hid hd7
            have HF7 := Lib.hid hf7
            clear hd7 hf7 HCR o0 o1 o2 o3 o4
            go_wp2_with fail
            go_meet
            case rel =>
              have hnb := HNB6.out
              obtain ⟨h1, h2, -⟩ := HF7.out.out (ex_lt HW6.out) hnb.2.1
              obtain ⟨h3, h4, -⟩ := HF7.out.out (ex_lt HO6.out) HNO.out
              obtain ⟨h5, h6⟩ := fr_below HB6.out HB6.out.size HLO6.out HF7.out
              obtain ⟨h7, h8⟩ := bk_out HBK6.out HF7.out hnb.1
              refine ⟨S7, crashD D y.ts, t, v, rfl, (show D.st ≤ 8 * i + 5 by omega), ⟨HD7.out, h7, ⟨h8, h2, hnb.2.2⟩, h1.trans HW6.out, h3.trans HO6.out, h5, h6, .inr ⟨rfl, fun us => ?_⟩⟩⟩
              obtain ⟨D', g1, g2, g3, -, g4⟩ := reopen_fs (D := crashD D y.ts) (HFS6.out.2.crash y.ts) us
              exact ⟨D', t, v, g1, g2, g3, g4, .inl ⟨rfl, rfl⟩⟩
          · have e1 : decide (y.kd = 1) = false := decide_eq_false k1
            have b1 : (y.kd == 1) = false := by simp [k1]
            clear k1
            by_cases k2 : y.kd = 2
            · have e2 : decide (y.kd = 2) = true := decide_eq_true k2
              have b2 : (y.kd == 2) = true := by simp [k2]
              clear k2
              obtain ⟨m6, mt6, M6, V6, hd6⟩ := HDK6.out
              have HCR := Lib.hid (darm_any hd6 (by omega) y.n (by have := HOK.out.n1; omega))
              clear hd6
              go_wp2_with fail
              refine HCR.out.mono ?_
              rintro e w7 ⟨S7, rfl, hd7, hf7⟩
              have HD7 := Lib.hid hd7
              have HF7 := Lib.hid hf7
              clear hd7 hf7 HCR o0 o1 o2 o3 o4
              go_wp2_with fail
              go_meet
              case rel =>
                have hnb := HNB6.out
                obtain ⟨h1, h2, -⟩ := HF7.out.out (ex_lt HW6.out) hnb.2.1
                obtain ⟨h3, h4, -⟩ := HF7.out.out (ex_lt HO6.out) HNO.out
                obtain ⟨h5, h6⟩ := fr_below HB6.out HB6.out.size HLO6.out HF7.out
                obtain ⟨h7, h8⟩ := bk_out HBK6.out HF7.out hnb.1
                obtain ⟨g1, g2, g3⟩ := arm_up D y.n HFS6.out.1
                refine ⟨S7, _, t, v, rfl, ?_, ⟨HD7.out, h7, ⟨h8, h2, hnb.2.2⟩, h1.trans HW6.out, h3.trans HO6.out, h5, h6, .inl ⟨g2, ?_, .inl ⟨rfl, rfl⟩⟩⟩⟩
                · show _ ≤ 8 * i + 5; (try dsimp only); omega
                · (try dsimp only); rw [g1]; exact HFS6.out.2
            · have e2 : decide (y.kd = 2) = false := decide_eq_false k2
              have b2 : (y.kd == 2) = false := by simp [k2]
              clear k2
              by_cases k3 : y.kd = 3
              · have e3 : decide (y.kd = 3) = true := decide_eq_true k3
                have b3 : (y.kd == 3) = true := by simp [k3]
                clear k3
                obtain ⟨m6, mt6, M6, V6, hd6⟩ := HDK6.out
                have HCR := Lib.hid (dresize_any hd6 y.n)
                clear hd6
                go_wp2_with fail
                refine HCR.out.mono ?_
                rintro e w7 ⟨S7, rfl, hd7, hf7⟩
                have HD7 := Lib.hid hd7
                have HF7 := Lib.hid hf7
                clear hd7 hf7 HCR o0 o1 o2 o3 o4
                go_wp2_with fail
                go_meet
                case rel =>
                  have hnb := HNB6.out
                  obtain ⟨h1, h2, -⟩ := HF7.out.out (ex_lt HW6.out) hnb.2.1
                  obtain ⟨h3, h4, -⟩ := HF7.out.out (ex_lt HO6.out) HNO.out
                  obtain ⟨h5, h6⟩ := fr_below HB6.out HB6.out.size HLO6.out HF7.out
                  obtain ⟨h7, h8⟩ := bk_out HBK6.out HF7.out hnb.1
                  obtain ⟨g1, g2, g3⟩ := resize_up D y.n HFS6.out.1
                  refine ⟨S7, _, t, v, rfl, ?_, ⟨HD7.out, h7, ⟨h8, h2, hnb.2.2⟩, h1.trans HW6.out, h3.trans HO6.out, h5, h6, .inl ⟨g2, ?_, .inl ⟨rfl, rfl⟩⟩⟩⟩
                  · show _ ≤ 8 * i + 5; (try dsimp only); omega
                  · (try dsimp only); rw [g1]; exact HFS6.out.2
              · have e3 : decide (y.kd = 3) = false := decide_eq_false k3
                have b3 : (y.kd == 3) = false := by simp [k3]
                clear k3
                obtain ⟨m6, mt6, M6, V6, hd6⟩ := HDK6.out
                have HCR := Lib.hid (vkeep_any hd6 (by omega) HBK6.out HNB6.out.1 y.t y.v)
                have HKO := Lib.hid (keep_ok HFS6.out.1 HFS6.out.2 y.t y.v)
                have hks := keep_st D t v y.t y.v
                obtain ⟨⟨D7, e7, t7, v7⟩, hr7⟩ : ∃ r, keepV D t v y.t y.v = r := ⟨_, rfl⟩
                rw [hr7] at HCR HKO hks
                dsimp only at hks
                clear hd6 hr7
                go_wp2_with fail
                refine HCR.out.mono ?_
                rintro e w7 ⟨S7, rfl, hd7, hbk7, hnb7, hss7, ho7⟩
                dsimp only at hd7 hbk7
                have HD7 := Lib.hid hd7
                have HK7 := Lib.hid hbk7
                have HX7 := Lib.hid (And.intro hnb7 (And.intro hss7 ho7))
                clear hd7 hbk7 hnb7 hss7 ho7 HCR o0 o1 o2 o3 o4
                go_wp2_with fail
                go_meet
                case rel =>
                  obtain ⟨hnb7, hss7, ho7⟩ := HX7.out
                  have hnb := HNB6.out
                  have nn : ∀ q, q < w6.heap.size → ¬ S q → ¬ S7 q := fun q h1 h2 h3 => (hss7 q h3).elim h2 (fun h => by omega)
                  have same : ∀ q, q < w6.heap.size → ¬ S q → q ≠ b → w7.heap[q]? = w6.heap[q]? := fun q h1 h2 h3 => ho7.block q h1 (fun h => h.elim h2 h3)
                  have h5 := HB6.out.trans (ho7.toBelow HB6.out.size (fun q h => h.elim (HLO6.out q) (fun h => h ▸ hnb.2.2.2.2)))
                  have hw7 := (same N (ex_lt HW6.out) hnb.2.1 (fun h => hnb.2.2.1 h.symm)).trans HW6.out
                  have ho7' := (same NO (ex_lt HO6.out) HNO.out (fun h => HNOb.out h.symm)).trans HO6.out
                  have hlo7 : ∀ q, S7 q → w.heap.size ≤ q := fun q h => (hss7 q h).elim (HLO6.out q) (fun h2 => Nat.le_trans HB6.out.size h2)
                  refine ⟨S7, D7, t7, v7, rfl, by omega, ⟨HD7.out, HK7.out, ⟨hnb7, nn N (ex_lt HW6.out) hnb.2.1, hnb.2.2⟩, hw7, ho7', h5, hlo7, ?_⟩⟩
                  have hok := HKO.out
                  unfold KeptOk at hok
                  dsimp only at hok
                  rcases hok with ⟨hup, -, hfs, ⟨-, rfl, rfl, hmy⟩ | ⟨-, rfl, rfl⟩⟩ | ⟨hdn, -, rfl, rfl, hmy, hhf⟩
                  · exact .inl ⟨hup, hfs, .inr hmy⟩
                  · exact .inl ⟨hup, hfs, .inl ⟨rfl, rfl⟩⟩
                  · refine .inr ⟨hdn, fun us => ?_⟩
                    obtain ⟨D', t', v', g1, g2, g3, -, g4, g5⟩ := reopen_half hhf us
                    refine ⟨D', t', v', g1, g2, g3, g4, ?_⟩
                    rcases g5 with ⟨rfl, rfl⟩ | ⟨rfl, rfl⟩
                    · exact .inl ⟨rfl, rfl⟩
                    · exact .inr hmy
        case rest =>
          clear x0 x1 x2 x3 x4 HDK6 HBK6 HW6 HO6 HB6 HLO6 HNB6 HFS6
          obtain ⟨S1, D1, t1, v1, rfl, hst1, HC⟩ := hcut
          go_wp2_with fail
          obtain ⟨⟨mc, mtc, Mc, Vc, hdc⟩, hbkc, hnbc, hwc, hoc, hblc, hloc, hcase⟩ := HC.out
          have HDN := Lib.hid (ddown_any hdc)
          have HDC := Lib.hid hdc
          refine HDN.out.mono ?_
          rintro e wd ⟨rfl, rfl⟩
          rcases hcase with ⟨hup, hfs, hnx⟩ | ⟨hdn, hop⟩
          · rw [hup]
            have HUP := Lib.hid (And.intro hup hfs)
            have HNX := Lib.hid hnx
            have HDK0 : Hid (DK S1 wc B D1) := Lib.hid ⟨mc, mtc, Mc, Vc, hdc⟩
            have HBK0 := Lib.hid hbkc
            have HNB := Lib.hid hnbc
            have HW0 := Lib.hid hwc
            have HBL0 := Lib.hid hblc
            have HLO := Lib.hid hloc
            clear hdc hbkc hnbc hwc hoc hblc hloc hup hfs hnx HC HDN HDC
            go_wp2_with fail
            refine (vstate_yes HBK0.out).mono ?_
            rintro e wu ⟨rfl, hbu⟩
            obtain ⟨bs, ss, -⟩ := box1 wu #[.int .u64 (t1 : Int), .int .i64 v1] 48
            have hbb := hbu.trans (bs.mono hbu.size)
            have HDK : Hid (DK S1 (wu.alloc (.cells #[.int .u64 (t1 : Int), .int .i64 v1] 48)) B D1) := Lib.hid (HDK0.out.below hbb)
            have HBK : Hid (BK (wu.alloc (.cells #[.int .u64 (t1 : Int), .int .i64 v1] 48)) b B t1 v1) := Lib.hid (ex_below HBK0.out hbb)
            have HW := Lib.hid (ex_below HW0.out hbb)
            have HBL := Lib.hid (HBL0.out.trans (hbb.mono HBL0.out.size))
            obtain ⟨xs, hxs⟩ : ∃ x, wu.heap.size = x := ⟨_, rfl⟩
            rw [hxs] at ss
            have HS := Lib.hid ss
            clear hbu bs ss hbb HDK0 HBK0 HW0 HBL0
            go_upto_region 26 with fail
            try rw [hxs]
            generalize wu.alloc (.cells #[.int .u64 (t1 : Int), .int .i64 v1] 48) = wv at HDK HBK HW HBL HS ⊢
            clear hxs
            obtain ⟨q0, q1⟩ := two_rd HS.out
            obtain ⟨r0, r1⟩ := two_rd HW.out
            have gc : decide ((t1 : Int) < (t : Int)) = false := decide_eq_false (nx_ge HNX.out)
            have hfN : ∀ o, wv.frozen? ⟨N, o, none⟩ = false := fun o => by
              have h3 := HW.out
              simp [World.frozen?, h3]
            by_cases htt : t1 = t
            · subst htt
              by_cases hvv : v1 = v
              · subst hvv
                clear gc
                go_wp2_with fail
                have hon : Only (fun q => q = N) wv ((wv.setCell ⟨N, 0, none⟩ (.int .u64 (t1 : Int))).setCell ⟨N, 1, none⟩ (.int .i64 v1)) := only_set2 (Only.refl (fun q => q = N) wv) N rfl (.int .u64 (t1 : Int)) (.int .i64 v1)
                have hln : LN w B b N S1 D1 t1 v1 ((wv.setCell ⟨N, 0, none⟩ (.int .u64 (t1 : Int))).setCell ⟨N, 1, none⟩ (.int .i64 v1)) := by
                  obtain ⟨m9, mt9, M9, VV9, hd9⟩ := HDK.out
                  have hnb := HNB.out
                  refine ⟨⟨m9, mt9, M9, VV9, hd9.only hon (fun q hq h => hnb.2.1 (h ▸ hq))⟩, HUP.out.1, HUP.out.2, ?_, hnb, set2_at HW.out _ _, HBL.out.trans (hon.toBelow HBL.out.size (fun q h => h ▸ hnb.2.2.2.1)), HLO.out⟩
                  exact (hon.block b (ex_lt HBK.out) (fun h => hnb.2.2.1 h)).trans HBK.out
                have HLN := Lib.hid hln
                clear hon hln q0 q1 r0 r1
                generalize (wv.setCell ⟨N, 0, none⟩ (.int .u64 (t1 : Int))).setCell ⟨N, 1, none⟩ (.int .i64 v1) = wf at HLN ⊢
                try go_wp2_with fail
                go_roundg (n - (i + 1))
                case measure => omega
                case rel => exact ⟨i + 1, S1, D1, t1, v1, b, rfl, by first | rfl | (rw [HWI.out]; rfl), by omega, by omega, by omega, HLN⟩
              · have hv1 := nx_vote HNX.out rfl hvv
                subst hv1
                have e3 : (v1 == -1) = false := by simp [hvv]
                have e4 : decide (v1 = -1) = false := decide_eq_false hvv
                clear gc
                go_wp2_with fail
                have hon : Only (fun q => q = N) wv ((wv.setCell ⟨N, 0, none⟩ (.int .u64 (t1 : Int))).setCell ⟨N, 1, none⟩ (.int .i64 v1)) := only_set2 (Only.refl (fun q => q = N) wv) N rfl (.int .u64 (t1 : Int)) (.int .i64 v1)
                have hln : LN w B b N S1 D1 t1 v1 ((wv.setCell ⟨N, 0, none⟩ (.int .u64 (t1 : Int))).setCell ⟨N, 1, none⟩ (.int .i64 v1)) := by
                  obtain ⟨m9, mt9, M9, VV9, hd9⟩ := HDK.out
                  have hnb := HNB.out
                  refine ⟨⟨m9, mt9, M9, VV9, hd9.only hon (fun q hq h => hnb.2.1 (h ▸ hq))⟩, HUP.out.1, HUP.out.2, ?_, hnb, set2_at HW.out _ _, HBL.out.trans (hon.toBelow HBL.out.size (fun q h => h ▸ hnb.2.2.2.1)), HLO.out⟩
                  exact (hon.block b (ex_lt HBK.out) (fun h => hnb.2.2.1 h)).trans HBK.out
                have HLN := Lib.hid hln
                clear hon hln q0 q1 r0 r1
                generalize (wv.setCell ⟨N, 0, none⟩ (.int .u64 (t1 : Int))).setCell ⟨N, 1, none⟩ (.int .i64 v1) = wf at HLN ⊢
                try go_wp2_with fail
                go_roundg (n - (i + 1))
                case measure => omega
                case rel => exact ⟨i + 1, S1, D1, t1, v1, b, rfl, by first | rfl | (rw [HWI.out]; rfl), by omega, by omega, by omega, HLN⟩
            · have e1 : ((t1 : Int) == (t : Int)) = false := by simp; omega
              have e2 : decide ((t1 : Int) = (t : Int)) = false := decide_eq_false (by omega)
              have hne : ¬ ((t1 : Int) = (t : Int)) := by omega
              have e5 : (t1 == t) = false := by simp [htt]
              have e6 : decide (t1 = t) = false := decide_eq_false htt
              have e7 : decide (t1 < t) = false := decide_eq_false (by have := nx_ge HNX.out; omega)
              have e8 : ¬ t1 < t := by have := nx_ge HNX.out; omega
              go_wp2_with fail
              have hon : Only (fun q => q = N) wv ((wv.setCell ⟨N, 0, none⟩ (.int .u64 (t1 : Int))).setCell ⟨N, 1, none⟩ (.int .i64 v1)) := only_set2 (Only.refl (fun q => q = N) wv) N rfl (.int .u64 (t1 : Int)) (.int .i64 v1)
              have hln : LN w B b N S1 D1 t1 v1 ((wv.setCell ⟨N, 0, none⟩ (.int .u64 (t1 : Int))).setCell ⟨N, 1, none⟩ (.int .i64 v1)) := by
                obtain ⟨m9, mt9, M9, VV9, hd9⟩ := HDK.out
                have hnb := HNB.out
                refine ⟨⟨m9, mt9, M9, VV9, hd9.only hon (fun q hq h => hnb.2.1 (h ▸ hq))⟩, HUP.out.1, HUP.out.2, ?_, hnb, set2_at HW.out _ _, HBL.out.trans (hon.toBelow HBL.out.size (fun q h => h ▸ hnb.2.2.2.1)), HLO.out⟩
                exact (hon.block b (ex_lt HBK.out) (fun h => hnb.2.2.1 h)).trans HBK.out
              have HLN := Lib.hid hln
              clear hon hln q0 q1 r0 r1
              generalize (wv.setCell ⟨N, 0, none⟩ (.int .u64 (t1 : Int))).setCell ⟨N, 1, none⟩ (.int .i64 v1) = wf at HLN ⊢
              try go_wp2_with fail
              go_roundg (n - (i + 1))
              case measure => omega
              case rel => exact ⟨i + 1, S1, D1, t1, v1, b, rfl, by first | rfl | (rw [HWI.out]; rfl), by omega, by omega, by omega, HLN⟩
          · rw [hdn]
            have HOP0 := Lib.hid hop
            have htr : TRow S1 wc y.a y.ts := fun j hj => by
              obtain ⟨b', o', h1, h2, h3, h4, h5⟩ := (HTR.out.blb hblc) j hj
              exact ⟨b', o', h1, h2, fun hs => h3 (hloc _ hs), h4, h5⟩
            have HCR := Lib.hid (dcrash_did hdc y.a y.c y.ts htr HOK.out.le HOK.out.wf)
            have HX := Lib.hid (And.intro hwc (And.intro hnbc (And.intro hblc hloc)))
            obtain ⟨-, -, -, -, o4⟩ := five_at hoc
            clear hdc hbkc hnbc hwc hoc hblc hloc hdn hop htr HC HDN
            go_wp2_with fail
            refine HCR.out.mono ?_
            rintro e w10 ⟨S10, rfl, ⟨m10, mt10, M10, V10, hd10⟩, hf10⟩
            obtain ⟨wx, nbx, belx, lox⟩ := HX.out
            obtain ⟨y1, y2, -⟩ := hf10.out (ex_lt wx) nbx.2.1
            obtain ⟨y5, y6⟩ := fr_below belx belx.size lox hf10
            have HQ10 := Lib.hid (And.intro (y1.trans wx) (And.intro y2 (And.intro y5 (And.intro y6 (And.intro nbx.2.2.2.1 (ex_lt wx))))))
            have HBO := Lib.hid (dboot_any hd10)
            have HZ10 := Lib.hid hf10.1.size
            clear wx nbx belx lox y1 y2 y5 y6 hd10 hf10 HCR HX o4
            go_wp2_with fail
            refine HBO.out.mono ?_
            rintro e w11 ⟨S11, rfl, ⟨m11, mt11, M11, V11, hd11⟩, hf11⟩
            obtain ⟨wx, nx1, belx, lox, hnx, hlx⟩ := HQ10.out
            obtain ⟨y1, y2, -⟩ := hf11.out (ex_lt wx) nx1
            obtain ⟨y5, y6⟩ := fr_below belx belx.size lox hf11
            have HQ11 := Lib.hid (And.intro (y1.trans wx) (And.intro y2 (And.intro y5 (And.intro y6 hnx))))
            obtain ⟨D12, t12, v12, ho12, hfs12, hup12, hst12, hnx12⟩ := HOP0.out y.ts
            have HOP := Lib.hid (vopen_any hd11 (show (bootD (crashD D1 y.ts)).st < 900000000 from show D1.st < 900000000 by omega))
            rw [ho12] at HOP
            have HUP := Lib.hid (And.intro hup12 hfs12)
            have HNX := Lib.hid hnx12
            clear wx nx1 belx lox hnx hlx y1 y2 y5 y6 hd11 hf11 HBO HQ10 ho12 hup12 hfs12 hnx12 HOP0
            go_wp2_with fail
            refine HOP.out.mono ?_
            rintro e w12 ⟨S12, hdk12, hf12, ⟨hne, -⟩ | ⟨-, b12, rfl, hbk12, hz12, hnb12⟩⟩
            · exact absurd rfl hne
            obtain ⟨wx, nx1, belx, lox, hnx⟩ := HQ11.out
            obtain ⟨y1, y2, -⟩ := hf12.out (ex_lt wx) nx1
            obtain ⟨y5, y6⟩ := fr_below belx belx.size lox hf12
            have hNb : N < b12 := Nat.lt_of_lt_of_le (ex_lt wx) hz12
            have HW0 := Lib.hid (y1.trans wx)
            have HNB : Hid (¬ S12 b12 ∧ ¬ S12 N ∧ b12 ≠ N ∧ w.heap.size ≤ N ∧ w.heap.size ≤ b12) := Lib.hid ⟨hnb12, y2, by omega, hnx, by omega⟩
            have HBL0 := Lib.hid y5
            have HLO := Lib.hid y6
            have HDK0 := Lib.hid hdk12
            have HBK0 := Lib.hid hbk12
            dsimp only at HDK0 HBK0
            clear wx nx1 belx lox hnx y1 y2 y5 y6 hf12 hdk12 hbk12 hz12 hnb12 hNb HOP HQ11
            go_wp2_with fail
            refine (vstate_yes HBK0.out).mono ?_
            rintro e wu ⟨rfl, hbu⟩
            obtain ⟨bs, ss, -⟩ := box1 wu #[.int .u64 (t12 : Int), .int .i64 v12] 48
            have hbb := hbu.trans (bs.mono hbu.size)
            have HDK : Hid (DK S12 (wu.alloc (.cells #[.int .u64 (t12 : Int), .int .i64 v12] 48)) B D12) := Lib.hid (HDK0.out.below hbb)
            have HBK : Hid (BK (wu.alloc (.cells #[.int .u64 (t12 : Int), .int .i64 v12] 48)) b12 B t12 v12) := Lib.hid (ex_below HBK0.out hbb)
            have HW := Lib.hid (ex_below HW0.out hbb)
            have HBL := Lib.hid (HBL0.out.trans (hbb.mono HBL0.out.size))
            obtain ⟨xs, hxs⟩ : ∃ x, wu.heap.size = x := ⟨_, rfl⟩
            rw [hxs] at ss
            have HS := Lib.hid ss
            clear hbu bs ss hbb HDK0 HBK0 HW0 HBL0
            go_upto_region 26 with fail
            try rw [hxs]
            generalize wu.alloc (.cells #[.int .u64 (t12 : Int), .int .i64 v12] 48) = wv at HDK HBK HW HBL HS ⊢
            clear hxs
            obtain ⟨q0, q1⟩ := two_rd HS.out
            obtain ⟨r0, r1⟩ := two_rd HW.out
            have gc : decide ((t12 : Int) < (t : Int)) = false := decide_eq_false (nx_ge HNX.out)
            have hfN : ∀ o, wv.frozen? ⟨N, o, none⟩ = false := fun o => by
              have h3 := HW.out
              simp [World.frozen?, h3]
            by_cases htt : t12 = t
            · subst htt
              by_cases hvv : v12 = v
              · subst hvv
                clear gc
                go_wp2_with fail
                have hon : Only (fun q => q = N) wv ((wv.setCell ⟨N, 0, none⟩ (.int .u64 (t12 : Int))).setCell ⟨N, 1, none⟩ (.int .i64 v12)) := only_set2 (Only.refl (fun q => q = N) wv) N rfl (.int .u64 (t12 : Int)) (.int .i64 v12)
                have hln : LN w B b12 N S12 D12 t12 v12 ((wv.setCell ⟨N, 0, none⟩ (.int .u64 (t12 : Int))).setCell ⟨N, 1, none⟩ (.int .i64 v12)) := by
                  obtain ⟨m9, mt9, M9, VV9, hd9⟩ := HDK.out
                  have hnb := HNB.out
                  refine ⟨⟨m9, mt9, M9, VV9, hd9.only hon (fun q hq h => hnb.2.1 (h ▸ hq))⟩, HUP.out.1, HUP.out.2, ?_, hnb, set2_at HW.out _ _, HBL.out.trans (hon.toBelow HBL.out.size (fun q h => h ▸ hnb.2.2.2.1)), HLO.out⟩
                  exact (hon.block b12 (ex_lt HBK.out) (fun h => hnb.2.2.1 h)).trans HBK.out
                have HLN := Lib.hid hln
                clear hon hln q0 q1 r0 r1
                generalize (wv.setCell ⟨N, 0, none⟩ (.int .u64 (t12 : Int))).setCell ⟨N, 1, none⟩ (.int .i64 v12) = wf at HLN ⊢
                try go_wp2_with fail
                go_roundg (n - (i + 1))
                case measure => omega
                case rel => exact ⟨i + 1, S12, D12, t12, v12, b12, rfl, by first | rfl | (rw [HWI.out]; rfl), by omega, by omega, by omega, HLN⟩
              · have hv1 := nx_vote HNX.out rfl hvv
                subst hv1
                have e3 : (v12 == -1) = false := by simp [hvv]
                have e4 : decide (v12 = -1) = false := decide_eq_false hvv
                clear gc
                go_wp2_with fail
                have hon : Only (fun q => q = N) wv ((wv.setCell ⟨N, 0, none⟩ (.int .u64 (t12 : Int))).setCell ⟨N, 1, none⟩ (.int .i64 v12)) := only_set2 (Only.refl (fun q => q = N) wv) N rfl (.int .u64 (t12 : Int)) (.int .i64 v12)
                have hln : LN w B b12 N S12 D12 t12 v12 ((wv.setCell ⟨N, 0, none⟩ (.int .u64 (t12 : Int))).setCell ⟨N, 1, none⟩ (.int .i64 v12)) := by
                  obtain ⟨m9, mt9, M9, VV9, hd9⟩ := HDK.out
                  have hnb := HNB.out
                  refine ⟨⟨m9, mt9, M9, VV9, hd9.only hon (fun q hq h => hnb.2.1 (h ▸ hq))⟩, HUP.out.1, HUP.out.2, ?_, hnb, set2_at HW.out _ _, HBL.out.trans (hon.toBelow HBL.out.size (fun q h => h ▸ hnb.2.2.2.1)), HLO.out⟩
                  exact (hon.block b12 (ex_lt HBK.out) (fun h => hnb.2.2.1 h)).trans HBK.out
                have HLN := Lib.hid hln
                clear hon hln q0 q1 r0 r1
                generalize (wv.setCell ⟨N, 0, none⟩ (.int .u64 (t12 : Int))).setCell ⟨N, 1, none⟩ (.int .i64 v12) = wf at HLN ⊢
                try go_wp2_with fail
                go_roundg (n - (i + 1))
                case measure => omega
                case rel => exact ⟨i + 1, S12, D12, t12, v12, b12, rfl, by first | rfl | (rw [HWI.out]; rfl), by omega, by omega, by omega, HLN⟩
            · have e1 : ((t12 : Int) == (t : Int)) = false := by simp; omega
              have e2 : decide ((t12 : Int) = (t : Int)) = false := decide_eq_false (by omega)
              have hne : ¬ ((t12 : Int) = (t : Int)) := by omega
              have e5 : (t12 == t) = false := by simp [htt]
              have e6 : decide (t12 = t) = false := decide_eq_false htt
              have e7 : decide (t12 < t) = false := decide_eq_false (by have := nx_ge HNX.out; omega)
              have e8 : ¬ t12 < t := by have := nx_ge HNX.out; omega
              go_wp2_with fail
              have hon : Only (fun q => q = N) wv ((wv.setCell ⟨N, 0, none⟩ (.int .u64 (t12 : Int))).setCell ⟨N, 1, none⟩ (.int .i64 v12)) := only_set2 (Only.refl (fun q => q = N) wv) N rfl (.int .u64 (t12 : Int)) (.int .i64 v12)
              have hln : LN w B b12 N S12 D12 t12 v12 ((wv.setCell ⟨N, 0, none⟩ (.int .u64 (t12 : Int))).setCell ⟨N, 1, none⟩ (.int .i64 v12)) := by
                obtain ⟨m9, mt9, M9, VV9, hd9⟩ := HDK.out
                have hnb := HNB.out
                refine ⟨⟨m9, mt9, M9, VV9, hd9.only hon (fun q hq h => hnb.2.1 (h ▸ hq))⟩, HUP.out.1, HUP.out.2, ?_, hnb, set2_at HW.out _ _, HBL.out.trans (hon.toBelow HBL.out.size (fun q h => h ▸ hnb.2.2.2.1)), HLO.out⟩
                exact (hon.block b12 (ex_lt HBK.out) (fun h => hnb.2.2.1 h)).trans HBK.out
              have HLN := Lib.hid hln
              clear hon hln q0 q1 r0 r1
              generalize (wv.setCell ⟨N, 0, none⟩ (.int .u64 (t12 : Int))).setCell ⟨N, 1, none⟩ (.int .i64 v12) = wf at HLN ⊢
              try go_wp2_with fail
              go_roundg (n - (i + 1))
              case measure => omega
              case rel => exact ⟨i + 1, S12, D12, t12, v12, b12, rfl, by first | rfl | (rw [HWI.out]; rfl), by omega, by omega, by omega, HLN⟩
      · have hltz : ¬ (i : Int) < (n : Int) := by omega
        obtain rfl : i = n := by omega
        have HBB := Lib.hid HL.out.bel
        clear HL hi hk hst
        go_wp2_with fail
        refine (lives26 wr).mono ?_
        rintro e w2 ⟨rfl, hb⟩
        have HBE := Lib.hid (HBB.out.trans (hb.mono HBB.out.size))
        clear hb
        go_wp2_with fail
        go_ret
        exact ⟨rfl, HBE.out⟩
set_option maxRecDepth 100000 in
theorem vnever_out (room : Int) (a0 : Option Addr) (n c0 : Nat) (w : World) (hr : ¬ (0 ≤ room ∧ room ≤ 1048576)) :
    Calls Try.prog 8 #[.int .i64 room, .slice a0 n c0] w fun e w' => e = .returned (.bool true) ∧ Below w.heap.size w w' := by
  by_cases h1 : room < 0
  · have g1 : decide (room < 0) = true := decide_eq_true h1
    clear hr
    go_enter Try.func8, Try.ntmps8
    go_wp2_with fail
    refine (lives26 w).mono ?_
    rintro e w1 ⟨rfl, hb⟩
    go_wp2_with fail
    go_ret
    exact ⟨rfl, hb⟩
  · have g1 : decide (room < 0) = false := decide_eq_false h1
    have g2 : decide (room > 1048576) = true := decide_eq_true (by omega)
    have g3 : decide (1048576 < room) = true := decide_eq_true (by omega)
    clear hr h1
    go_enter Try.func8, Try.ntmps8
    go_wp2_with fail
    refine (lives26 w).mono ?_
    rintro e w1 ⟨rfl, hb⟩
    go_wp2_with fail
    go_ret
    exact ⟨rfl, hb⟩
theorem vnever_law (room : Int) (a0 : Option Addr) (n c0 : Nat) (O : Nat → Ov) (w : World) (h : OpsV w a0 n O) :
    Calls Try.prog 8 #[.int .i64 room, .slice a0 n c0] w fun e w' => e = .returned (.bool true) ∧ Below w.heap.size w w' := by
  by_cases hr : 0 ≤ room ∧ room ≤ 1048576
  · exact vnever_main room a0 n c0 O w h hr
  · exact vnever_out room a0 n c0 w hr
end Go.Proofs.Ythefnakbpalecaa

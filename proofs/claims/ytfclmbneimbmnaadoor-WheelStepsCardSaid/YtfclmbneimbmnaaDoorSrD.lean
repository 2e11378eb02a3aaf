/- The reference's Sorted. -/
import Derived.Test.YtfclmbneimbmnaaDoorSrC
import Derived.Deep.Cut
import Derived.Deep.CutRange
import Derived.Deep.CutBlock
namespace Go.Proofs.YtfclmbneimbmnaaDoor
open Go.RowKit

abbrev zR : Rt := ((0, 0, 0), 0)
theorem srt_step (l : List Rt) (i : Nat) (hi : i < l.length) : srt ltR zR (l.take (i + 1)) = insR ltR zR l[i] (srt ltR zR (l.take i)) := by
  have e : l.take (i + 1) = l.take i ++ [l[i]] := by rw [List.take_add_one, List.getElem?_eq_getElem hi]; rfl
  rw [e]
  unfold srt
  rw [List.foldl_append]
  rfl
theorem srt_len (l : List Rt) : (srt ltR zR l).length = l.length := (srt_perm ltR zR l).length_eq

set_option maxRecDepth 100000 in
set_option maxHeartbeats 8000000 in
theorem sorted_any (a : Option Addr) (c : Nat) (l : List Rt) (w : World) (hR : RS w a l) (hm : l.length ≤ 300) :
    Calls Tryd.prog 21 #[.slice a l.length c] w fun e w' => ∃ v, e = .returned v ∧ OR w' w.heap.size v (srt ltR zR l) ∧ Below w.heap.size w w' := by
  have HR := Lib.hid hR
  have mixed := insTh.mixed
  clear hR
  go_enter Tryd.func21, Tryd.ntmps21
  go_wp2
  go_loopg [3, 4, 5, 6] l.length (fun kx s3 s4 s5 s6 wr => ∃ (i : Nat) (va : Option Addr) (vc : Nat), s3 = .slice va (srt ltR zR (l.take i)).length vc ∧ s4 = .int .i64 i ∧ i ≤ l.length ∧ l.length - i ≤ kx ∧ Hid (OR wr w.heap.size (.slice va (srt ltR zR (l.take i)).length vc) (srt ltR zR (l.take i))) ∧ Hid (Below w.heap.size w wr))
  case atStart => exact ⟨0, none, 0, rfl, rfl, by omega, by omega, OR.nil _ _, Below.refl _ _⟩
  case round =>
    obtain ⟨i, va, vc, rfl, rfl, hi, hkx, HO, HB⟩ := hrel
    by_cases hlt : i < l.length
    · have hltz : (i : Int) < (l.length : Int) := by omega
      have hi0 : (0 : Int) ≤ (i : Int) := by omega
      obtain ⟨L, hL⟩ : ∃ L, srt ltR zR (l.take i) = L := ⟨_, rfl⟩
      have hLn : L.length = i := by rw [← hL, srt_len]; simp; omega
      have HLn := Lib.hid hLn
      have hL100 : L.length ≤ 300 := by omega
      clear hLn
      have hst := srt_step l i hlt
      rw [hL] at HO hst
      rw [hL]
      obtain ⟨x, hx⟩ : ∃ x, l[i] = x := ⟨_, rfl⟩
      rw [hx] at hst
      have HST := Lib.hid hst
      clear hst
      obtain ⟨a', c', ev, hnone, hRL, hcap⟩ := HO.out.shape
      injection ev with ev1 _ ev3
      subst ev1 ev3
      obtain ⟨B, o, rfl, d0, d1, d2, d3⟩ := (HR.out.below HB.out) i hlt
      rw [hx] at d0 d1 d2 d3
      have HX : Hid (∀ w', Below wr.heap.size wr w' → w'.cell? ⟨B, o + i * 4, none⟩ = some (.int .u64 x.1.1) ∧ w'.cell? ⟨B, o + i * 4 + 1, none⟩ = some (.int .u64 x.1.2.1) ∧ w'.cell? ⟨B, o + i * 4 + 2, none⟩ = some (.int .i64 x.1.2.2) ∧ w'.cell? ⟨B, o + i * 4 + 3, none⟩ = some (.int .i64 x.2)) := fun w' hb => by
        have hB : B < wr.heap.size := by have := cell_lt d0; exact this
        exact ⟨(hb.cell (p := ⟨B, _, none⟩) hB).trans d0, (hb.cell (p := ⟨B, _, none⟩) hB).trans d1, (hb.cell (p := ⟨B, _, none⟩) hB).trans d2, (hb.cell (p := ⟨B, _, none⟩) hB).trans d3⟩
      have HZ : Hid (∀ w', Below wr.heap.size wr w' → OR w' w.heap.size (.slice va L.length vc) L ∧ RS w' va L ∧ Below w.heap.size w w') := fun w' hb => ⟨HO.out.keep hb, hRL.below hb, HB.out.trans (hb.mono HB.out.size)⟩
      clear d0 d1 d2 d3 hRL
      obtain ⟨w0, hw0⟩ : ∃ w0, wr = w0 := ⟨_, rfl⟩
      rw [hw0] at HX HZ
      rw [hw0]
      clear hw0
      go_upto_block 2 with (fail)
      go_cut [5] from 15 to 30 (fun s5 wc => ∃ q : Nat, s5 = .int .i64 q ∧ q ≤ L.length ∧ Hid (rp ltR x L zR L.length = q) ∧ Hid (Below w0.heap.size w0 wc))
      case first =>
        go_wp2_with fail
        go_loopg [5] L.length (fun kx s5 w2 => ∃ q : Nat, s5 = .int .i64 q ∧ q ≤ L.length ∧ q ≤ kx ∧ Hid (rp ltR x L zR L.length = rp ltR x L zR q) ∧ Hid (Below w0.heap.size w0 w2))
        case atStart => exact ⟨L.length, rfl, Nat.le_refl _, Nat.le_refl _, rfl, Below.refl _ _⟩
        case round =>
          obtain ⟨q, rfl, hq, hkq, HQ, HB2⟩ := hrel
          by_cases hq0 : q = 0
          · have hqz : ¬ (0 : Int) < (q : Int) := by omega
            have hqd : decide ((q : Int) > 0) = false := decide_eq_false (by omega)
            have hqd2 : decide (0 < q) = false := decide_eq_false (by omega)
            have HQ0 := Lib.hid hq0
            clear hq0
            go_wp2_with fail
            go_big_region_o
            have HQB : Hid (Below w0.heap.size w0 wr.drew) := Lib.hid HB2.out.drew
            have HP : Hid (rp ltR x L zR L.length = q) := by rw [HQ.out, HQ0.out]; exact Lib.hid rfl
            clear HB2 HQ hqz hqd hqd2
            go_wp2
            go_meet
            exact ⟨q, rfl, hq, HP, HQB⟩
          · obtain ⟨q', hq'⟩ : ∃ q', q = q' + 1 := ⟨q - 1, by omega⟩
            have hql : q' < L.length := by omega
            obtain ⟨hOq, hRq, hBq⟩ := HZ.out _ HB2.out
            obtain ⟨g, hg⟩ : ∃ g, va = some ⟨g, 0, none⟩ := by
              rcases hOq.addr with ⟨_, hLe, _⟩ | h
              · rw [hLe] at hql; simp at hql
              · exact h
            subst hg
            obtain ⟨B1, o1, eB, b0, b1, b2, b3⟩ := hRq q' hql
            injection eB with eB
            injection eB with eB1 eB2
            subst eB1 eB2
            rw [Nat.zero_add] at b0 b1 b2 b3
            have HQ' := Lib.hid hq'
            obtain ⟨c0, c1, c2, c3⟩ := HX.out _ HB2.out
            obtain ⟨y, hy⟩ : ∃ y, L[q'] = y := ⟨_, rfl⟩
            rw [hy] at b0 b1 b2 b3
            have hyl : L.getD q' zR = y := by rw [List.getD_eq_getElem?_getD, List.getElem?_eq_getElem hql, hy]; rfl
            obtain ⟨x1, hx1⟩ : ∃ z, x.1.1 = z := ⟨_, rfl⟩
            obtain ⟨x2, hx2⟩ : ∃ z, x.1.2.1 = z := ⟨_, rfl⟩
            obtain ⟨x3, hx3⟩ : ∃ z, x.1.2.2 = z := ⟨_, rfl⟩
            obtain ⟨x4, hx4⟩ : ∃ z, x.2 = z := ⟨_, rfl⟩
            obtain ⟨y1, hy1⟩ : ∃ z, y.1.1 = z := ⟨_, rfl⟩
            obtain ⟨y2, hy2⟩ : ∃ z, y.1.2.1 = z := ⟨_, rfl⟩
            obtain ⟨y3, hy3⟩ : ∃ z, y.1.2.2 = z := ⟨_, rfl⟩
            obtain ⟨y4, hy4⟩ : ∃ z, y.2 = z := ⟨_, rfl⟩
            have hltx : ltR x (L.getD q' zR) = ltT (x1, x2, x3) (y1, y2, y3) := by rw [hyl]; unfold ltR; rw [← hx1, ← hx2, ← hx3, ← hy1, ← hy2, ← hy3]
            rw [hx1] at c0; rw [hx2] at c1; rw [hx3] at c2; rw [hx4] at c3
            rw [hy1] at b0; rw [hy2] at b1; rw [hy3] at b2; rw [hy4] at b3
            clear hx1 hx2 hx3 hx4 hy1 hy2 hy3 hy4 hy hyl hOq hRq hBq
            obtain ⟨bv, hbv⟩ : ∃ b, ltT (x1, x2, x3) (y1, y2, y3) = b := ⟨_, rfl⟩
            have hrb := rbefore_any x1 x2 x3 x4 y1 y2 y3 y4 wr.drew
            rw [hbv] at hltx hrb
            have HLT := Lib.hid hltx
            clear hltx hbv
            have hB : B < wr.heap.size := by have := cell_lt c0; exact this
            have hB1 : g < wr.heap.size := by have := cell_lt b0; exact this
            have hqz : (0 : Int) < (q : Int) := by omega
            have hqd : decide ((q : Int) > 0) = true := decide_eq_true (by omega)
            have hqd2 : decide (0 < q) = true := decide_eq_true (by omega)
            have hqw : IntKind.i64.wrap ((q : Int) - 1) = (q' : Int) := by rw [IntKind.wrap_i64]; omega
            have hqw2 : IntKind.i64.wrap (q' : Int) = (q' : Int) := by rw [IntKind.wrap_i64]; omega
            have hq0' : (0 : Int) ≤ (q' : Int) := by omega
            have hqL : (q' : Int) < (L.length : Int) := by omega
            have HS : Hid (∀ w', Below wr.heap.size wr w' → w'.cell? ⟨B, o + i * 4, none⟩ = some (.int .u64 x1) ∧ w'.cell? ⟨B, o + i * 4 + 1, none⟩ = some (.int .u64 x2) ∧ w'.cell? ⟨B, o + i * 4 + 2, none⟩ = some (.int .i64 x3) ∧ w'.cell? ⟨B, o + i * 4 + 3, none⟩ = some (.int .i64 x4) ∧ w'.cell? ⟨g, q' * 4, none⟩ = some (.int .u64 y1) ∧ w'.cell? ⟨g, q' * 4 + 1, none⟩ = some (.int .u64 y2) ∧ w'.cell? ⟨g, q' * 4 + 2, none⟩ = some (.int .i64 y3) ∧ w'.cell? ⟨g, q' * 4 + 3, none⟩ = some (.int .i64 y4)) := fun w' hb =>
              ⟨(hb.cell (p := ⟨B, _, none⟩) hB).trans c0, (hb.cell (p := ⟨B, _, none⟩) hB).trans c1, (hb.cell (p := ⟨B, _, none⟩) hB).trans c2, (hb.cell (p := ⟨B, _, none⟩) hB).trans c3, (hb.cell (p := ⟨g, _, none⟩) hB1).trans b0, (hb.cell (p := ⟨g, _, none⟩) hB1).trans b1, (hb.cell (p := ⟨g, _, none⟩) hB1).trans b2, (hb.cell (p := ⟨g, _, none⟩) hB1).trans b3⟩
            clear c0 c1 c2 c3 b0 b1 b2 b3 hq'
            go_wp2_with fail
            have hS0 := HS.out _ ((Below.refl wr.heap.size wr).drew)
            go_region_held3 (fun w' => w'.cell? ⟨B, o + i * 4, none⟩ = some (.int .u64 x1) ∧ w'.cell? ⟨B, o + i * 4 + 1, none⟩ = some (.int .u64 x2) ∧ w'.cell? ⟨B, o + i * 4 + 2, none⟩ = some (.int .i64 x3) ∧ w'.cell? ⟨B, o + i * 4 + 3, none⟩ = some (.int .i64 x4) ∧ w'.cell? ⟨g, q' * 4, none⟩ = some (.int .u64 y1) ∧ w'.cell? ⟨g, q' * 4 + 1, none⟩ = some (.int .u64 y2) ∧ w'.cell? ⟨g, q' * 4 + 2, none⟩ = some (.int .i64 y3) ∧ w'.cell? ⟨g, q' * 4 + 3, none⟩ = some (.int .i64 y4))
              (first | exact hS0 | assumption)
              (first | (go_at_call 18; refine hrb.mono ?_; rintro e w3 ⟨rfl, hb3⟩; have hS3 := HS.out _ ((Below.refl wr.heap.size wr).drew.trans hb3); have HB3 := Lib.hid ((Below.refl wr.heap.size wr).drew.trans hb3); clear hb3))
            have HQB : Hid (Below w0.heap.size w0 w3) := Lib.hid (HB2.out.trans (HB3.out.mono HB2.out.size))
            cases bv
            · have HP : Hid (rp ltR x L zR L.length = q) := by rw [HQ.out, HQ'.out, rp, if_neg (by rw [HLT.out]; simp)]; exact Lib.hid rfl
              clear HB2 HB3 HQ hS3 HLT hqw hqw2 hS0 HS hqd hqd2 hqz
              go_wp2
              go_meet
              exact ⟨q, rfl, hq, HP, HQB⟩
            · go_wp2
              go_roundg q'
              case measure => have := HQ'.out; omega
              case rel => exact ⟨q', by first | rfl | go_num, by have := HQ'.out; omega, Nat.le_refl _, (show Hid _ from by rw [HQ.out, HQ'.out, rp, if_pos HLT.out]; exact Lib.hid rfl), HQB⟩
      case rest =>
        obtain ⟨q, rfl, hq, HP, HQB⟩ := hcut
        obtain ⟨wq, hwq⟩ : ∃ z, wc = z := ⟨_, rfl⟩
        rw [hwq] at HQB ⊢
        clear hwq
        obtain ⟨hOq, hRq, hBq⟩ := HZ.out _ HQB.out
        have HXq := Lib.hid (HX.out _ HQB.out)
        have hBs : B < wq.heap.size := by have := cell_lt HXq.out.1; exact this
        have HE := Lib.hid (OR.empty wq wq.heap.size (Nat.le_refl _))
        have bE : Below wq.heap.size wq (wq.alloc (.cells #[] 29)) := (Below.refl _ _).alloc (Nat.le_refl _) _
        have HBE := Lib.hid bE
        have HBq := Lib.hid hBq
        clear bE
        have HST2 : Hid (srt ltR zR (l.take (i + 1)) = L.take q ++ x :: L.drop q) := by rw [HST.out, insR, HP.out]; exact Lib.hid rfl
        have HLQ : Hid ((L.take q).length ≤ 300 ∧ (L.drop q).length ≤ 300) := by simp; exact Lib.hid ⟨by omega, by omega⟩
        obtain ⟨e0, hLe, e1⟩ | ⟨g, hg⟩ := hOq.addr
        · subst e0 e1
          obtain rfl : L = [] := hLe
          obtain rfl : q = 0 := by simpa using hq
          have HO0 := Lib.hid ((OR.empty wq wq.heap.size (Nat.le_refl _)).keep ((Below.refl _ _).alloc (Nat.le_refl _) (.cells #[.int .u64 x.1.1, .int .u64 x.1.2.1, .int .i64 x.1.2.2, .int .i64 x.2] 29)))
          obtain ⟨z0, z1, z2, z3⟩ := Lib.hid (And.intro ((HBE.out.cell (p := ⟨B, o + i * 4, none⟩) hBs).trans HXq.out.1) (And.intro ((HBE.out.cell (p := ⟨B, o + i * 4 + 1, none⟩) hBs).trans HXq.out.2.1) (And.intro ((HBE.out.cell (p := ⟨B, o + i * 4 + 2, none⟩) hBs).trans HXq.out.2.2.1) ((HBE.out.cell (p := ⟨B, o + i * 4 + 3, none⟩) hBs).trans HXq.out.2.2.2))))
          go_upto_region 9 with (fail)
          have HSZ : Hid (wq.heap.size ≤ (wq.alloc (.cells #[] 29)).heap.size) := Lib.hid HBE.out.size
          generalize wq.alloc (.cells #[] 29) = wz at HBE HO0 z0 z1 z2 z3 HSZ ⊢
          have HN : Hid (Below wz.heap.size wz (wz.alloc (.cells #[.int .u64 x.1.1, .int .u64 x.1.2.1, .int .i64 x.1.2.2, .int .i64 x.2] 29)) ∧ RS (wz.alloc (.cells #[.int .u64 x.1.1, .int .u64 x.1.2.1, .int .i64 x.1.2.2, .int .i64 x.2] 29)) (some ⟨wz.heap.size, 0, none⟩) [x]) := Lib.hid ⟨(Below.refl _ _).alloc (Nat.le_refl _) _, RS.one (World.cell?_alloc_at _ _ _ _ rfl) (World.cell?_alloc_at _ _ _ _ rfl) (World.cell?_alloc_at _ _ _ _ rfl) (World.cell?_alloc_at _ _ _ _ rfl)⟩
          obtain ⟨X, hX⟩ : ∃ X, wq.heap.size = X := ⟨_, rfl⟩
          rw [hX] at HO0 HSZ ⊢
          have HBX : Hid (Below X wq wz) := by rw [← hX]; exact HBE
          have HWX : Hid (w.heap.size ≤ X) := by rw [← hX]; exact Lib.hid HBq.out.size
          clear HBE hX
          go_wp2_with (first
            | (at_builtin; refine append_rt rfl (.tmp 36) (.tmp 41) rfl X (.slice (some ⟨X, 0, none⟩) 0 0) [] [x] wz.heap.size 0 1 1 rfl rfl rfl HO0.out HN.out.2 (by simp) (Nat.le_trans HSZ.out HN.out.1.size) ?_; intro v2 w2 hO2 hs2 hB2; have HO2 := Lib.hid hO2; have HB2' := Lib.hid (hB2 wq (HBX.out.trans (HN.out.1.mono HSZ.out))); clear hO2 hB2)
            | (at_builtin; refine append_rt_none rfl (.tmp 43) (.tmp 46) rfl X v2 ([] ++ [x]) rfl rfl HO2.out ?_))
          obtain ⟨a3, c3, ev3, _, _, _⟩ := HO2.out.shape
          subst ev3
          go_wp2
          go_roundg (l.length - (i + 1))
          case measure => omega
          case rel =>
            have e : ([] ++ [x] : List Rt) = srt ltR zR (l.take (i + 1)) := by rw [HST2.out]; simp
            rw [e] at HO2 ⊢
            exact ⟨i + 1, a3, c3, rfl, by go_num, by omega, by omega, Lib.hid (HO2.out.mono HWX.out), Lib.hid (HBq.out.trans (HB2'.out.mono HWX.out))⟩
        · subst hg
          have HRT := Lib.hid ((hRq.below HBE.out).take q)
          have HRd := Lib.hid hRq
          have hqv : q ≤ vc := by omega
          have hqv' : (q : Int) ≤ (vc : Int) := by omega
          have hq00 : (0 : Int) ≤ (q : Int) := by omega
          have hqT : q = (L.take q).length := by simp; omega
          have HQT := Lib.hid hqT
          clear hqT hRq hOq hBq
          have HDL : Hid (L.length - q = (L.drop q).length) := Lib.hid (by simp)
          have HL3 : Hid ((L.take q ++ [x]).length + (L.drop q).length ≤ 100000) := Lib.hid (by simp; omega)
          by_cases hvc : vc = q
          · subst hvc
            have HDL0 : Hid (0 = (L.drop vc).length) := Lib.hid (by simp; omega)
            have HE0 : Hid (∀ w', RS w' (some ⟨g, 0, none⟩) (L.drop vc)) := Lib.hid (fun w' k hk => absurd hk (by simp; omega))
            go_wp2_with (first
              | (at_builtin; refine append_rt rfl (.tmp 31) (.tmp 34) rfl wq.heap.size _ [] (L.take vc) g 0 vc vc rfl HQT.out rfl HE.out HRT.out (Nat.le_trans (by rw [List.length_nil, Nat.zero_add]; exact HLQ.out.1) (by omega)) HBE.out.size ?_; intro v1 w1 hO1 hs1 hB1; have HO1 := Lib.hid hO1; have HB1 := Lib.hid (hB1 wq HBE.out); clear hO1 hB1; obtain ⟨z0, z1, z2, z3⟩ := Lib.hid (And.intro ((HB1.out.cell (p := ⟨B, o + i * 4, none⟩) hBs).trans HXq.out.1) (And.intro ((HB1.out.cell (p := ⟨B, o + i * 4 + 1, none⟩) hBs).trans HXq.out.2.1) (And.intro ((HB1.out.cell (p := ⟨B, o + i * 4 + 2, none⟩) hBs).trans HXq.out.2.2.1) ((HB1.out.cell (p := ⟨B, o + i * 4 + 3, none⟩) hBs).trans HXq.out.2.2.2))));
                 have HN : Hid (Below w1.heap.size w1 (w1.alloc (.cells #[.int .u64 x.1.1, .int .u64 x.1.2.1, .int .i64 x.1.2.2, .int .i64 x.2] 29)) ∧ RS (w1.alloc (.cells #[.int .u64 x.1.1, .int .u64 x.1.2.1, .int .i64 x.1.2.2, .int .i64 x.2] 29)) (some ⟨w1.heap.size, 0, none⟩) [x]) := Lib.hid ⟨(Below.refl _ _).alloc (Nat.le_refl _) _, RS.one (World.cell?_alloc_at _ _ _ _ rfl) (World.cell?_alloc_at _ _ _ _ rfl) (World.cell?_alloc_at _ _ _ _ rfl) (World.cell?_alloc_at _ _ _ _ rfl)⟩;
                 have HO1' : Hid (OR (w1.alloc (.cells #[.int .u64 x.1.1, .int .u64 x.1.2.1, .int .i64 x.1.2.2, .int .i64 x.2] 29)) wq.heap.size v1 (L.take vc)) := Lib.hid (HO1.out.keep HN.out.1);
                 have HS1 : Hid (wq.heap.size ≤ w1.heap.size) := Lib.hid HB1.out.size)
              | (at_builtin; refine append_rt rfl (.tmp 36) (.tmp 41) rfl wq.heap.size v1 (L.take vc) [x] w1.heap.size 0 1 1 rfl rfl rfl HO1'.out HN.out.2 (Nat.le_trans (Nat.add_le_add_right HLQ.out.1 _) (by simp)) (Nat.le_trans HS1.out HN.out.1.size) ?_; intro v2 w2 hO2 hs2 hB2; have HO2 := Lib.hid hO2; have HB2' := Lib.hid (hB2 wq (HB1.out.trans (HN.out.1.mono HS1.out))); clear hO2 hB2)
              | (at_builtin; refine append_rt rfl (.tmp 43) (.tmp 46) rfl wq.heap.size v2 (L.take vc ++ [x]) (L.drop vc) g 0 0 _ rfl HDL0.out rfl HO2.out (HE0.out _) HL3.out HB2'.out.size ?_; intro v3 w3 hO3 hs3 hB3; have HO3 := Lib.hid hO3; have HB3' := Lib.hid (hB3 wq HB2'.out); clear hO3 hB3))
            obtain ⟨a3, c3, ev3, _, _, _⟩ := HO3.out.shape
            subst ev3
            go_wp2
            go_roundg (l.length - (i + 1))
            case measure => omega
            case rel =>
              have e : L.take vc ++ [x] ++ L.drop vc = srt ltR zR (l.take (i + 1)) := by rw [HST2.out]; simp
              rw [e] at HO3 ⊢
              exact ⟨i + 1, a3, c3, rfl, by go_num, by omega, by omega, Lib.hid (HO3.out.mono HBq.out.size), Lib.hid (HBq.out.trans (HB3'.out.mono HBq.out.size))⟩
          · have hvq : q < vc := by omega
            go_wp2_with (first
              | (at_builtin; refine append_rt rfl (.tmp 31) (.tmp 34) rfl wq.heap.size _ [] (L.take q) g 0 q vc rfl HQT.out rfl HE.out HRT.out (Nat.le_trans (by rw [List.length_nil, Nat.zero_add]; exact HLQ.out.1) (by omega)) HBE.out.size ?_; intro v1 w1 hO1 hs1 hB1; have HO1 := Lib.hid hO1; have HB1 := Lib.hid (hB1 wq HBE.out); clear hO1 hB1; obtain ⟨z0, z1, z2, z3⟩ := Lib.hid (And.intro ((HB1.out.cell (p := ⟨B, o + i * 4, none⟩) hBs).trans HXq.out.1) (And.intro ((HB1.out.cell (p := ⟨B, o + i * 4 + 1, none⟩) hBs).trans HXq.out.2.1) (And.intro ((HB1.out.cell (p := ⟨B, o + i * 4 + 2, none⟩) hBs).trans HXq.out.2.2.1) ((HB1.out.cell (p := ⟨B, o + i * 4 + 3, none⟩) hBs).trans HXq.out.2.2.2))));
                 have HN : Hid (Below w1.heap.size w1 (w1.alloc (.cells #[.int .u64 x.1.1, .int .u64 x.1.2.1, .int .i64 x.1.2.2, .int .i64 x.2] 29)) ∧ RS (w1.alloc (.cells #[.int .u64 x.1.1, .int .u64 x.1.2.1, .int .i64 x.1.2.2, .int .i64 x.2] 29)) (some ⟨w1.heap.size, 0, none⟩) [x]) := Lib.hid ⟨(Below.refl _ _).alloc (Nat.le_refl _) _, RS.one (World.cell?_alloc_at _ _ _ _ rfl) (World.cell?_alloc_at _ _ _ _ rfl) (World.cell?_alloc_at _ _ _ _ rfl) (World.cell?_alloc_at _ _ _ _ rfl)⟩;
                 have HO1' : Hid (OR (w1.alloc (.cells #[.int .u64 x.1.1, .int .u64 x.1.2.1, .int .i64 x.1.2.2, .int .i64 x.2] 29)) wq.heap.size v1 (L.take q)) := Lib.hid (HO1.out.keep HN.out.1);
                 have HS1 : Hid (wq.heap.size ≤ w1.heap.size) := Lib.hid HB1.out.size)
              | (at_builtin; refine append_rt rfl (.tmp 36) (.tmp 41) rfl wq.heap.size v1 (L.take q) [x] w1.heap.size 0 1 1 rfl rfl rfl HO1'.out HN.out.2 (Nat.le_trans (Nat.add_le_add_right HLQ.out.1 _) (by simp)) (Nat.le_trans HS1.out HN.out.1.size) ?_; intro v2 w2 hO2 hs2 hB2; have HO2 := Lib.hid hO2; have HB2' := Lib.hid (hB2 wq (HB1.out.trans (HN.out.1.mono HS1.out))); clear hO2 hB2)
              | (at_builtin; refine append_rt rfl (.tmp 43) (.tmp 46) rfl wq.heap.size v2 (L.take q ++ [x]) (L.drop q) g (q * 4) (L.length - q) _ rfl HDL.out rfl HO2.out ((HRd.out.below HB2'.out).drop q) HL3.out HB2'.out.size ?_; intro v3 w3 hO3 hs3 hB3; have HO3 := Lib.hid hO3; have HB3' := Lib.hid (hB3 wq HB2'.out); clear hO3 hB3))
            obtain ⟨a3, c3, ev3, _, _, _⟩ := HO3.out.shape
            subst ev3
            go_wp2
            go_roundg (l.length - (i + 1))
            case measure => omega
            case rel =>
              have e : L.take q ++ [x] ++ L.drop q = srt ltR zR (l.take (i + 1)) := by rw [HST2.out]; simp
              rw [e] at HO3 ⊢
              exact ⟨i + 1, a3, c3, rfl, by go_num, by omega, by omega, Lib.hid (HO3.out.mono HBq.out.size), Lib.hid (HBq.out.trans (HB3'.out.mono HBq.out.size))⟩
    · have hltz : ¬ (i : Int) < (l.length : Int) := by omega
      obtain rfl : i = l.length := by omega
      go_wp2
      go_ret
      refine ⟨_, rfl, ?_, HB.out⟩
      have h := HO.out
      rw [List.take_length] at h
      exact h
end Go.Proofs.YtfclmbneimbmnaaDoor

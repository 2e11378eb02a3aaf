/- The disk that no call made: the law's walk, whole. -/
import Derived.Test.YtdkkpabemimmlaaDnB
namespace Go.Proofs.Ytdkkpabemimmlaa
open Go.RowKit Go.Maps
theorem nod_nil (w : World) : NoD w (.pointer none) := .inl rfl
theorem nod_plain {w : World} {T : Nat} {t : TypeId} {x0 x2 x3 x4 x5 : Value} (h : w.heap[T]? = some (.cells #[x0, .map none, x2, x3, x4, x5] t (0, 0))) : NoD w (.pointer (some ⟨T, 0, none⟩)) := .inr ⟨T, rfl, by simp [World.cell?, h]⟩
set_option maxRecDepth 100000 in
set_option maxHeartbeats 8000000 in
theorem nobody23 (kd n : Int) (nm tt tx : List UInt8) (a : Option Addr) (l c : Nat) (w : World) : Calls Try.prog 6 #[.agg #[.int .i64 kd, .int .i64 n, encStr nm, encStr tt, encStr tx, .slice a l c]] w fun e w' => e = .returned (.bool true) ∧ Below w.heap.size w w' := by
  obtain ⟨hb0, ha, hs, hz⟩ := box2 w #[.int .i64 kd, .int .i64 n, encStr nm, encStr tt, encStr tx, .slice a l c] #[.int .i64 kd, .int .i64 n, encStr nm, encStr tt, encStr tx, .slice a l c] 34 34
  have HL := Lib.hid (light_one kd n nm tt tx a l c _ _ (opat_new hs))
  have HO0 := Lib.hid (opat_new ha)
  have HB00 := Lib.hid hb0
  clear hb0 ha hs hz
  go_enter Try.func6, Try.ntmps6
  go_wp2_with fail
  refine HL.out.mono ?_
  rintro e w1 ⟨b, rfl, hb1⟩
  have HO1 := Lib.hid (HO0.out.below hb1)
  have HB1 := Lib.hid (HB00.out.trans (hb1.mono HB00.out.size))
  clear hb1 HL HO0 HB00
  cases b with
  | false =>
    go_wp2_with fail
    refine (lives23 w1).mono ?_
    rintro e w2 ⟨rfl, hb2⟩
    have H2 := Lib.hid (HB1.out.trans (hb2.mono HB1.out.size))
    clear hb2
    go_wp2_with fail
    go_ret
    exact ⟨rfl, H2.out⟩
  | true =>
    obtain ⟨hb2, ha2, hs2, hz2⟩ := box2 w1 #[.int .i64 0, .map none, .pointer none, .bool false, .bool false, .int .u64 0] #[.pointer none, .pointer (some ⟨w1.heap.size, 0, none⟩)] 65 24
    go_wp2_with fail
    generalize hW : ((w1.alloc (.cells #[.int .i64 0, .map none, .pointer none, .bool false, .bool false, .int .u64 0] 65)).alloc (.cells #[.pointer none, .pointer (some ⟨w1.heap.size, 0, none⟩)] 24)) = W0 at hb2 ha2 hs2 hz2 ⊢
    have HB0 := Lib.hid (HB1.out.trans (hb2.mono HB1.out.size))
    have HOP := Lib.hid (HO1.out.below hb2)
    obtain ⟨T, hT⟩ : ∃ T, w1.heap.size = T := ⟨_, rfl⟩
    obtain ⟨N, hN⟩ : ∃ N, w.heap.size = N := ⟨_, rfl⟩
    have HV : Hid (∀ k : Nat, k < 2 → ∃ v : Option Addr, W0.cell? ⟨T + 1, k, none⟩ = some (.pointer v) ∧ NoD W0 (.pointer v)) := Lib.hid (fun k hk => by
      rw [← hT]
      match k, hk with
      | 0, _ => exact ⟨none, (two_at hs2).1, nod_nil W0⟩
      | 1, _ => exact ⟨some ⟨w1.heap.size, 0, none⟩, (two_at hs2).2.1, nod_plain ha2⟩)
    rw [hN] at HOP ⊢
    rw [hT]
    clear hb2 ha2 hs2 hz2 hW HB1 HO1 hT
    go_loopg [18] 2 (fun kx s18 wr => ∃ k : Nat, s18 = .int .i64 k ∧ k ≤ 2 ∧ 2 - k ≤ kx ∧ Hid (Below W0.heap.size W0 wr))
    case atStart => exact ⟨0, rfl, by omega, by omega, Below.refl _ _⟩
    case round =>
      obtain ⟨k, rfl, hk, hkx, H0⟩ := hrel
      by_cases hk2 : k < 2
      · have hk2z : (k : Int) < 2 := by omega
        have hk0 : (0 : Int) ≤ (k : Int) := by omega
        obtain ⟨v, hv, hno⟩ := HV.out k hk2
        have cv := (H0.out.cell (p := ⟨T + 1, k, none⟩) (cell_spot hv).2).trans hv
        have HNO := Lib.hid hno
        clear hv hno
        obtain ⟨c0, c1, c2, c3, c4, c5⟩ := HOP.out.below H0.out
        go_wp2_with fail
        refine (dread_no (.pointer v) nm wr (HNO.out.below H0.out)).mono ?_
        rintro e w10 ⟨rfl, hb⟩
        have H1 := Lib.hid (H0.out.trans (hb.mono H0.out.size))
        clear hb c0 c1 c2 c3 c4 c5 cv
        obtain ⟨v1, wc, hcv, hbc⟩ := str_any w10 tx
        obtain ⟨c0, c1, c2, c3, c4, c5⟩ := HOP.out.below H1.out
        have H2 := Lib.hid (H1.out.trans (hbc.mono H1.out.size))
        clear hbc
        go_wp2_with fail
        refine (dappend_no (.pointer v) nm v1 wc (HNO.out.below H2.out)).mono ?_
        rintro e wx ⟨rfl, rfl⟩
        clear hcv c0 c1 c2 c3 c4 c5 H1
        obtain ⟨c0, c1, c2, c3, c4, c5⟩ := HOP.out.below H2.out
        go_wp2_with fail
        refine (dsync_no (.pointer v) nm wc (HNO.out.below H2.out)).mono ?_
        rintro e w12 ⟨rfl, hb⟩
        have H3 := Lib.hid (H2.out.trans (hb.mono H2.out.size))
        clear hb c0 c1 c2 c3 c4 c5 H2
        obtain ⟨c0, c1, c2, c3, c4, c5⟩ := HOP.out.below H3.out
        go_wp2_with fail
        refine (dcut_no (.pointer v) nm n w12 (HNO.out.below H3.out)).mono ?_
        rintro e w13 ⟨rfl, hb⟩
        have H4 := Lib.hid (H3.out.trans (hb.mono H3.out.size))
        clear hb c0 c1 c2 c3 c4 c5 H3
        obtain ⟨c0, c1, c2, c3, c4, c5⟩ := HOP.out.below H4.out
        go_wp2_with fail
        refine (dremove_no (.pointer v) nm w13 (HNO.out.below H4.out)).mono ?_
        rintro e w14 ⟨rfl, hb⟩
        have H5 := Lib.hid (H4.out.trans (hb.mono H4.out.size))
        clear hb c0 c1 c2 c3 c4 c5 H4
        obtain ⟨c0, c1, c2, c3, c4, c5⟩ := HOP.out.below H5.out
        go_wp2_with fail
        refine (dmove_no (.pointer v) nm tt w14 (HNO.out.below H5.out)).mono ?_
        rintro e w15 ⟨rfl, hb⟩
        have H6 := Lib.hid (H5.out.trans (hb.mono H5.out.size))
        clear hb c0 c1 c2 c3 c4 c5 H5
        obtain ⟨c0, c1, c2, c3, c4, c5⟩ := HOP.out.below H6.out
        go_wp2_with fail
        refine (darm_no (.pointer v) n w15 (HNO.out.below H6.out)).mono ?_
        rintro e wx ⟨rfl, rfl⟩
        clear c0 c1 c2 c3 c4 c5
        obtain ⟨c0, c1, c2, c3, c4, c5⟩ := HOP.out.below H6.out
        go_wp2_with fail
        refine (dcrash_no (.pointer v) a l c w15 (HNO.out.below H6.out)).mono ?_
        rintro e w16 ⟨rfl, hb⟩
        have H7 := Lib.hid (H6.out.trans (hb.mono H6.out.size))
        clear hb c0 c1 c2 c3 c4 c5 H6
        obtain ⟨c0, c1, c2, c3, c4, c5⟩ := HOP.out.below H7.out
        go_wp2_with fail
        refine (dboot_no (.pointer v) w16 (HNO.out.below H7.out)).mono ?_
        rintro e wx ⟨rfl, rfl⟩
        clear c0 c1 c2 c3 c4 c5
        obtain ⟨c0, c1, c2, c3, c4, c5⟩ := HOP.out.below H7.out
        go_wp2_with fail
        refine (dresize_no (.pointer v) n w16 (HNO.out.below H7.out)).mono ?_
        rintro e wx ⟨rfl, rfl⟩
        clear c0 c1 c2 c3 c4 c5
        obtain ⟨c0, c1, c2, c3, c4, c5⟩ := HOP.out.below H7.out
        go_wp2_with fail
        refine (ddown_no (.pointer v) w16 (HNO.out.below H7.out)).mono ?_
        rintro e wx ⟨rfl, rfl⟩
        clear c0 c1 c2 c3 c4 c5
        obtain ⟨c0, c1, c2, c3, c4, c5⟩ := HOP.out.below H7.out
        go_wp2_with fail
        refine (dfree_no (.pointer v) w16 (HNO.out.below H7.out)).mono ?_
        rintro e wx ⟨rfl, rfl⟩
        clear c0 c1 c2 c3 c4 c5
        obtain ⟨c0, c1, c2, c3, c4, c5⟩ := HOP.out.below H7.out
        go_wp2_with fail
        refine (dsteps_no (.pointer v) w16 (HNO.out.below H7.out)).mono ?_
        rintro e wx ⟨rfl, rfl⟩
        clear c0 c1 c2 c3 c4 c5
        obtain ⟨c0, c1, c2, c3, c4, c5⟩ := HOP.out.below H7.out
        go_wp2_with fail
        refine (dnames_no (.pointer v) w16 (HNO.out.below H7.out)).mono ?_
        rintro e wx ⟨rfl, rfl⟩
        clear c0 c1 c2 c3 c4 c5
        obtain ⟨c0, c1, c2, c3, c4, c5⟩ := HOP.out.below H7.out
        go_wp2_with fail
        refine (dfiles_no (.pointer v) w16 (HNO.out.below H7.out)).mono ?_
        rintro e wx ⟨rfl, rfl⟩
        clear c0 c1 c2 c3 c4 c5
        go_wp2_with fail
        go_roundg (2 - (k + 1))
        case measure => omega
        case rel => exact ⟨k + 1, by go_num, by omega, by omega, H7⟩
      · have hk2z : ¬ (k : Int) < 2 := by omega
        obtain rfl : k = 2 := by omega
        have HW := Lib.hid (HB0.out.trans (H0.out.mono HB0.out.size))
        clear H0
        go_wp2_with fail
        refine (lives23 wr).mono ?_
        rintro e w1 ⟨rfl, hb1⟩
        have H1 := Lib.hid (HW.out.trans (hb1.mono HW.out.size))
        clear hb1 HW
        go_wp2_with fail
        go_ret
        exact ⟨rfl, H1.out⟩
end Go.Proofs.Ytdkkpabemimmlaa

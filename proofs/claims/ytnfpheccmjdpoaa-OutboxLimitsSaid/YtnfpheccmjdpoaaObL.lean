/- The outbox: the law of the full box, walked. -/
import Derived.Test.YtnfpheccmjdpoaaObK
namespace Go.Proofs.Ytnfpheccmjdpoaa
open Go.RowKit
set_option maxRecDepth 100000 in
set_option maxHeartbeats 8000000 in
theorem full_walk (x : Nt) (now at0 : Int) (hat : 0 ≤ at0 ∧ at0 < 256) (w : World) : Calls Try.prog 5 #[.agg #[.int .u64 x.id, .int .u64 x.tk, .int .i64 x.lv, .int .i64 x.pa, .int .i64 x.st, .int .i64 x.tr, .int .i64 x.rt, .int .i64 x.wt, .int .i64 x.nx], .int .i64 now, .int .u8 at0] w fun e w' => e = .returned (.bool true) ∧ Below w.heap.size w w' := by
  obtain ⟨B1, s0, -⟩ := box1 w #[.int .u64 x.id, .int .u64 x.tk, .int .i64 x.lv, .int .i64 x.pa, .int .i64 x.st, .int .i64 x.tr, .int .i64 x.rt, .int .i64 x.wt, .int .i64 x.nx] 36
  have HB := Lib.hid B1
  have HS := Lib.hid s0
  have HAT := Lib.hid hat
  clear B1 s0 hat
  go_enter Try.func5, Try.ntmps5
  go_wp2_with fail
  obtain ⟨N, hN⟩ : ∃ N, w.heap.size = N := ⟨_, rfl⟩
  rw [hN] at HS
  try rw [hN]
  have HN := Lib.hid hN
  clear hN
  generalize w.alloc (.cells #[.int .u64 x.id, .int .u64 x.tk, .int .i64 x.lv, .int .i64 x.pa, .int .i64 x.st, .int .i64 x.tr, .int .i64 x.rt, .int .i64 x.wt, .int .i64 x.nx] 36) = w1 at HB HS ⊢
  refine (new_box w1).mono ?_
  rintro e w2 ⟨b, rfl, hb0, hx, hb⟩
  have HX2 := Lib.hid hx
  have HBB : Hid (w.heap.size ≤ b ∧ N ≠ b) := Lib.hid (by have := ex_lt HS.out; have := HB.out.size; exact ⟨by omega, by omega⟩)
  have HB2 := Lib.hid (HB.out.trans (hb.mono HB.out.size))
  have HS2 := Lib.hid (ex_below HS.out hb)
  clear hb hb0 hx HB HS
  obtain ⟨q0, q1, q2, q3, q4, q5, q6, q7, q8⟩ := nt_at0 HS2.out
  go_wp2_with fail
  clear q0 q1 q2 q3 q4 q5 q6 q7 q8
  by_cases hok : (insN now && adrN x) = false
  · refine (put_bad b 0 [] x now w2 HX2.out hok).mono ?_
    rintro e w3 ⟨rfl, hb⟩
    have HB3 := Lib.hid (HB2.out.trans (hb.mono HB2.out.size))
    clear hb
    go_wp2_with fail
    refine (lives_any w3).mono ?_
    rintro e w4 ⟨rfl, hb⟩
    have HB4 := Lib.hid (HB3.out.trans (hb.mono HB3.out.size))
    clear hb
    go_wp2_with fail
    go_ret
    exact ⟨rfl, HB4.out⟩
  have hok2 : insN now = true ∧ adrN x = true := by
    cases h1 : insN now <;> cases h2 : adrN x <;> simp_all
  have HOK := Lib.hid hok2
  clear hok hok2
  refine (put_ok b 0 [] x now w2 HX2.out HOK.out (by decide) (by decide) (by decide)).mono ?_
  rintro e w3 ⟨rfl, hx, ho⟩
  have HX3 : Hid (BX w3 b ((1 : Nat) : Int) (rowL x now 1)) := Lib.hid hx
  have HB3 := Lib.hid (ho.in HB2.out HBB.out.1 HB2.out.size)
  have HS3 := Lib.hid ((ho.block N (ex_lt HS2.out) HBB.out.2).trans HS2.out)
  clear hx ho HX2 HB2 HS2
  go_wp2_with fail
  go_loopg [36] 127 (fun kx s36 wr => ∃ (j : Nat), s36 = .int .i64 (j : Int) ∧ j ≤ 127 ∧ 127 - j ≤ kx ∧ Hid (BX wr b ((j + 1 : Nat) : Int) (rowL x now (j + 1))) ∧ Hid (Below w.heap.size w wr) ∧ Hid (wr.heap[N]? = some (.cells #[.int .u64 x.id, .int .u64 x.tk, .int .i64 x.lv, .int .i64 x.pa, .int .i64 x.st, .int .i64 x.tr, .int .i64 x.rt, .int .i64 x.wt, .int .i64 x.nx] 36 (0, 0))))
  case atStart => exact ⟨0, rfl, by omega, by omega, HX3, HB3, HS3⟩
  case round =>
    obtain ⟨j, rfl, hj, hjx, HX, HB, HS⟩ := hrel
    by_cases hlt : j < 127
    · have hltz : (j : Int) < 127 := by omega
      have hd : decide ((j : Int) < 127) = true := decide_eq_true hltz
      obtain ⟨q0, q1, q2, q3, q4, q5, q6, q7, q8⟩ := nt_at0 HS.out
      go_wp2_with fail
      clear q0 q1 q2 q3 q4 q5 q6 q7 q8
      refine (put_ok b ((j + 1 : Nat) : Int) (rowL x now (j + 1)) x now wr HX.out HOK.out (by omega) (Nat.lt_of_le_of_lt (cntW_le _) (by rw [rowL_len]; omega)) (by rw [rowL_len]; omega)).mono ?_
      rintro e w4 ⟨rfl, hx, ho⟩
      have HX4 : Hid (BX w4 b ((j + 1 + 1 : Nat) : Int) (rowL x now (j + 1 + 1))) := Lib.hid hx
      have HB4 := Lib.hid (ho.in HB.out HBB.out.1 HB.out.size)
      have HS4 := Lib.hid ((ho.block N (ex_lt HS.out) HBB.out.2).trans HS.out)
      have hwj : wrap64 ((j : Int) + 1) = (j : Int) + 1 := IntWalk.wrap64_in _ (by omega)
      clear hx ho HX HB HS
      go_wp2_with fail
      go_roundg (127 - (j + 1))
      case measure => omega
      case rel => exact ⟨j + 1, by first | rfl | (rw [hwj]; rfl), by omega, by omega, HX4, HB4, HS4⟩
    · obtain rfl : j = 127 := by omega
      clear HX3 HB3 HS3 hlt hj hjx
      have HX5 : Hid (BX wr b 128 (rowL x now 128)) := HX
      obtain ⟨q0, q1, q2, q3, q4, q5, q6, q7, q8⟩ := nt_at0 HS.out
      go_wp2_with fail
      clear q0 q1 q2 q3 q4 q5 q6 q7 q8
      have HC5 : Hid (128 ≤ cntW (rowL x now 128)) := Lib.hid (by rw [cnt_all (fun y hy => rowL_ends hy), rowL_len]; exact Nat.le_refl _)
      refine (put_full b 128 (rowL x now 128) x now wr HX5.out HOK.out (by decide) HC5.out).mono ?_
      rintro e w5 ⟨rfl, hb⟩
      have HX6 := Lib.hid (HX5.out.below hb)
      have HB6 := Lib.hid (HB.out.trans (hb.mono HB.out.size))
      have HS6 := Lib.hid (ex_below HS.out hb)
      clear hb HX HX5 HB HS HC5
      obtain ⟨k, hk8, hke⟩ : ∃ k : Nat, k < 128 ∧ IntKind.u64.wrap ((IntKind.u64.wrap at0).tmod 128 + 1) = (k : Int) + 1 := by
        have h := HAT.out
        refine ⟨(at0 % 128).toNat, by omega, ?_⟩
        rw [IntWalk.u64_in at0 ⟨by omega, by omega⟩, Int.tmod_eq_emod_of_nonneg h.1, IntWalk.u64_in _ ⟨by omega, by omega⟩]
        omega
      go_wp2_with fail
      try rw [hke]
      have HK8 := Lib.hid hk8
      clear hke
      have hB : (1 ≤ x.rt ∧ x.rt ≤ 8) ∧ (1 ≤ x.wt ∧ x.wt ≤ 1048576) ∧ (0 ≤ now ∧ now ≤ 1125899906842624) := by
        have h1 := HOK.out.1
        have h2 := HOK.out.2
        simp only [insN, adrN, rg, Bool.and_eq_true, decide_eq_true_eq] at h1 h2
        exact ⟨h2.2.2.1, h2.2.2.2, h1⟩
      have hkl : k < (rowL x now 128).length := by rw [rowL_len]; exact hk8
      have hg := rowL_get x now 128 k hkl
      refine (try_ok b 128 (rowL x now 128) ((k : Int) + 1) now w5 HX6.out k hkl (by rw [hg]; rfl) (fun y hy => by obtain ⟨i, hi, rfl⟩ := rowL_take hy; show (i : Int) + 1 ≠ (k : Int) + 1; omega) (by rw [hg]; rfl) (by rw [hg]; exact decide_eq_false (by show ¬ x.rt ≤ 0; omega)) (by rw [hg]; exact Int.le_refl _) (by rw [hg]; exact ⟨Int.le_refl _, hB.1.2⟩) (by rw [hg]; exact hB.2.1) hB.2.2.1).mono ?_
      rintro e w6 ⟨rfl, hx, ho⟩
      obtain ⟨y, hy⟩ : ∃ y, tried3 (rowL x now 128)[k] now = y := ⟨_, rfl⟩
      have HY : Hid (y.id = (k : Int) + 1 ∧ endN y = false ∧ 0 < y.tr) := Lib.hid (by rw [← hy, hg]; exact ⟨rfl, rfl, by show (0 : Int) < 0 + 1; decide⟩)
      rw [hy] at hx ⊢
      rw [show y.V = .agg #[.int .u64 y.id, .int .u64 y.tk, .int .i64 y.lv, .int .i64 y.pa, .int .i64 y.st, .int .i64 y.tr, .int .i64 y.rt, .int .i64 y.wt, .int .i64 y.nx] from rfl]
      have HX7 := Lib.hid hx
      have HB7 := Lib.hid (ho.in HB6.out HBB.out.1 HB6.out.size)
      have HS7 := Lib.hid ((ho.block N (ex_lt HS6.out) HBB.out.2).trans HS6.out)
      clear hx ho hy hg hkl hB hk8 HX6 HB6 HS6
      go_wp2_with fail
      obtain ⟨B1, -, -⟩ := box1 w6 #[.int .u64 y.id, .int .u64 y.tk, .int .i64 y.lv, .int .i64 y.pa, .int .i64 y.st, .int .i64 y.tr, .int .i64 y.rt, .int .i64 y.wt, .int .i64 y.nx] 36
      have HX8 := Lib.hid (HX7.out.below B1)
      have HB8 := Lib.hid (HB7.out.trans (B1.mono HB7.out.size))
      have HS8 := Lib.hid (ex_below HS7.out B1)
      clear B1 HX7 HB7 HS7
      generalize w6.alloc (.cells #[.int .u64 y.id, .int .u64 y.tk, .int .i64 y.lv, .int .i64 y.pa, .int .i64 y.st, .int .i64 y.tr, .int .i64 y.rt, .int .i64 y.wt, .int .i64 y.nx] 36) = w7 at HX8 HB8 HS8 ⊢
      have hky : k < ((rowL x now 128).set k y).length := by rw [List.length_set, rowL_len]; exact HK8.out
      have hgy : ((rowL x now 128).set k y)[k] = y := List.getElem_set_self _
      refine (ack_ok b 128 ((rowL x now 128).set k y) ((k : Int) + 1) w7 HX8.out k hky (by rw [hgy]; exact HY.out.1) (fun z hz => by rw [take_set] at hz; obtain ⟨i, hi, rfl⟩ := rowL_take hz; show (i : Int) + 1 ≠ (k : Int) + 1; omega) (by rw [hgy]; exact HY.out.2.1) (by rw [hgy]; exact HY.out.2.2)).mono ?_
      rintro e w8 ⟨rfl, hx, ho⟩
      rw [hgy, List.set_set] at hx
      rw [hgy]
      have HZE : Hid (endN (ackN y) = true) := Lib.hid rfl
      generalize ackN y = z at hx HZE ⊢
      rw [show z.V = .agg #[.int .u64 z.id, .int .u64 z.tk, .int .i64 z.lv, .int .i64 z.pa, .int .i64 z.st, .int .i64 z.tr, .int .i64 z.rt, .int .i64 z.wt, .int .i64 z.nx] from rfl]
      have HX9 := Lib.hid hx
      have HB9 := Lib.hid (ho.in HB8.out HBB.out.1 HB8.out.size)
      have HS9 := Lib.hid ((ho.block N (ex_lt HS8.out) HBB.out.2).trans HS8.out)
      clear hx ho hky hgy HX8 HB8 HS8
      obtain ⟨B1, -, -⟩ := box1 w8 #[.int .u64 z.id, .int .u64 z.tk, .int .i64 z.lv, .int .i64 z.pa, .int .i64 z.st, .int .i64 z.tr, .int .i64 z.rt, .int .i64 z.wt, .int .i64 z.nx] 36
      have HX10 := Lib.hid (HX9.out.below B1)
      have HB10 := Lib.hid (HB9.out.trans (B1.mono HB9.out.size))
      have HS10 := Lib.hid (ex_below HS9.out B1)
      obtain ⟨q0, q1, q2, q3, q4, q5, q6, q7, q8⟩ := nt_at0 HS10.out
      clear B1 HX9 HB9 HS9
      go_wp2_with fail
      clear q0 q1 q2 q3 q4 q5 q6 q7 q8
      generalize w8.alloc (.cells #[.int .u64 z.id, .int .u64 z.tk, .int .i64 z.lv, .int .i64 z.pa, .int .i64 z.st, .int .i64 z.tr, .int .i64 z.rt, .int .i64 z.wt, .int .i64 z.nx] 36) = w9 at HX10 HB10 HS10 ⊢
      have hkz : k < ((rowL x now 128).set k z).length := by rw [List.length_set, rowL_len]; exact HK8.out
      have hgz : ((rowL x now 128).set k z)[k] = z := List.getElem_set_self _
      have hlz : ((rowL x now 128).set k z).length = 128 := by rw [List.length_set, rowL_len]
      refine (put_del b 128 ((rowL x now 128).set k z) x now w9 HX10.out HOK.out (by decide) (by have := cnt_lt (l := (rowL x now 128).set k z) (y := z) (List.mem_iff_getElem.2 ⟨k, hkz, hgz⟩) HZE.out; omega) hlz k hkz (by rw [hgz]; exact HZE.out) (fun y9 hy9 => by rw [take_set] at hy9; exact rowL_ends (List.mem_of_mem_take hy9))).mono ?_
      rintro e w10 ⟨rfl, hx, ho⟩
      rw [left_of] at hx
      have HX11 : Hid (BX w10 b 129 (leftL x now k)) := Lib.hid hx
      have HB11 := Lib.hid (ho.in HB10.out HBB.out.1 HB10.out.size)
      have HS11 := Lib.hid ((ho.block N (ex_lt HS10.out) HBB.out.2).trans HS10.out)
      clear hx ho hkz hgz hlz HX10 HB10 HS10
      go_wp2_with fail
      refine (get_none b 129 (leftL x now k) ((k : Int) + 1) w10 HX11.out (fun y9 hy9 => left_ids HK8.out hy9)).mono ?_
      rintro e w11 ⟨rfl, hb⟩
      rw [show nz.V = .agg #[.int .u64 0, .int .u64 0, .int .i64 0, .int .i64 0, .int .i64 0, .int .i64 0, .int .i64 0, .int .i64 0, .int .i64 0] from rfl]
      have HX12 := Lib.hid (HX11.out.below hb)
      have HB12 := Lib.hid (HB11.out.trans (hb.mono HB11.out.size))
      have HS12 := Lib.hid (ex_below HS11.out hb)
      clear hb HX11 HB11 HS11
      obtain ⟨B1, -, -⟩ := box1 w11 #[.int .u64 0, .int .u64 0, .int .i64 0, .int .i64 0, .int .i64 0, .int .i64 0, .int .i64 0, .int .i64 0, .int .i64 0] 36
      have HX13 := Lib.hid (HX12.out.below B1)
      have HB13 := Lib.hid (HB12.out.trans (B1.mono HB12.out.size))
      have HS13 := Lib.hid (ex_below HS12.out B1)
      obtain ⟨q0, q1, q2, q3, q4, q5, q6, q7, q8⟩ := nt_at0 HS13.out
      clear B1 HX12 HB12 HS12
      go_wp2_with fail
      clear q0 q1 q2 q3 q4 q5 q6 q7 q8
      generalize w11.alloc (.cells #[.int .u64 0, .int .u64 0, .int .i64 0, .int .i64 0, .int .i64 0, .int .i64 0, .int .i64 0, .int .i64 0, .int .i64 0] 36) = w12 at HX13 HB13 HS13 ⊢
      have HC13 : Hid (cntW (leftL x now k) = 128) := Lib.hid (by rw [cnt_all (fun y9 hy9 => left_ends hy9), left_len x now k HK8.out])
      refine (put_full b 129 (leftL x now k) x now w12 HX13.out HOK.out (by decide) (by rw [HC13.out]; exact Nat.le_refl _)).mono ?_
      rintro e w13 ⟨rfl, hb⟩
      have HX14 := Lib.hid (HX13.out.below hb)
      have HB14 := Lib.hid (HB13.out.trans (hb.mono HB13.out.size))
      clear hb HX13 HB13 HS13
      go_wp2_with fail
      refine (waiting_box b 129 (leftL x now k) w13 HX14.out).mono ?_
      rintro e w14 ⟨rfl, hb⟩
      rw [HC13.out]
      have HB15 := Lib.hid (HB14.out.trans (hb.mono HB14.out.size))
      clear hb HX14 HB14
      go_wp2_with fail
      refine (lives_any w14).mono ?_
      rintro e w15 ⟨rfl, hb⟩
      have HB16 := Lib.hid (HB15.out.trans (hb.mono HB15.out.size))
      clear hb HB15
      go_wp2_with fail
      go_ret
      exact ⟨rfl, HB16.out⟩
end Go.Proofs.Ytnfpheccmjdpoaa

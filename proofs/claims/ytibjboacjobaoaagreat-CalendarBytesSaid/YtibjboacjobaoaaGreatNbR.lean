/- Rows of spans that are read, both ways. -/
import Derived.Test.YtibjboacjobaoaaGreatMgAK
import Derived.Test.YtibjboacjobaoaaGreatMgAL
import Derived.Deep.LoopGhost
namespace Go.Proofs.YtibjboacjobaoaaGreat
open Go.RowKit
theorem OS.rd {w w' : World} {base b : Nat} {v : Value} {l : List (Int × Int)} (h : OS w base v l) (hr : Rd b w w') (hb : b < base) : OS w' base v l := by
  obtain ⟨h1, h2⟩ := h
  refine ⟨h1, ?_⟩
  rcases h2 with h2 | ⟨g, cap, cur, hv, hg, hh, r⟩
  · exact .inl h2
  · exact .inr ⟨g, cap, cur, hv, hg, by rw [hr.block g (ex_lt hh) (by omega) (by simp [Value.ownBlock])]; exact hh, r⟩
set_option maxRecDepth 100000 in
set_option maxHeartbeats 8000000 in
theorem spans_rd (b : Nat) (ds : List Nat) (bad : Bool) (w : World) (hr : RR w b ds bad) :
    Calls Tryz.prog 55 #[.pointer (some ⟨b, 0, none⟩)] w fun e w' => ∃ v, e = .returned v ∧ OS w' w.heap.size v (pL 1125899906842624 1125899906842624 (nN 32 ds) (nR 32 ds)) ∧ RR w' b (pR 1125899906842624 1125899906842624 (nN 32 ds) (nR 32 ds)) (pB 1125899906842624 1125899906842624 (nN 32 ds) (nB 32 ds) (nR 32 ds)) ∧ Rd b w w' := by
  have hbl := hr.lt
  have HBL := Lib.hid hbl
  have hn32 := nN_le 32 ds
  have H0 : Hid (Calls Tryz.prog 70 #[.pointer (some ⟨b, 0, none⟩), .int .u64 32] w fun e w' => e = .returned (.int .u64 ((nN 32 ds : Nat) : Int)) ∧ RR w' b (nR 32 ds) (nB 32 ds) ∧ Rd b w w') := Lib.hid (num_rd1 b 32 ds bad w hr)
  have HN : Hid (∀ W es bd, RR W b es bd → Calls Tryz.prog 70 #[.pointer (some ⟨b, 0, none⟩), .int .u64 1125899906842624] W fun e w' => e = .returned (.int .u64 ((nN 1125899906842624 es : Nat) : Int)) ∧ RR w' b (nR 1125899906842624 es) (nB 1125899906842624 es) ∧ Rd b W w') := Lib.hid (fun W es bd h => num_rd1 b 1125899906842624 es bd W h)
  obtain ⟨n, hn⟩ : ∃ n, nN 32 ds = n := ⟨_, rfl⟩
  obtain ⟨d0, hd0⟩ : ∃ d, nR 32 ds = d := ⟨_, rfl⟩
  obtain ⟨b0, hb0⟩ : ∃ d, nB 32 ds = d := ⟨_, rfl⟩
  rw [hn, hd0, hb0] at H0 ⊢
  rw [hn] at hn32
  obtain ⟨L, hL⟩ : ∃ x, pL 1125899906842624 1125899906842624 n d0 = x := ⟨_, rfl⟩
  obtain ⟨R, hR⟩ : ∃ x, pR 1125899906842624 1125899906842624 n d0 = x := ⟨_, rfl⟩
  obtain ⟨Z, hZ⟩ : ∃ x, pB 1125899906842624 1125899906842624 n b0 d0 = x := ⟨_, rfl⟩
  rw [hL, hR, hZ]
  have HLRZ := Lib.hid (And.intro hL (And.intro hR hZ))
  clear hn hd0 hb0 hr hbl hL hR hZ
  go_enter Tryz.func55, Tryz.ntmps55
  go_wp2_with fail
  refine H0.out.mono ?_
  rintro e w1 ⟨rfl, hr1, ht1⟩
  have HR1 := Lib.hid hr1
  have HT1 := Lib.hid ht1
  clear hr1 ht1 H0
  go_wp2_with fail
  go_loopg [3, 6] n (fun kx s3 s6 wr => ∃ (k : Nat) (D : List (Int × Int)) (es : List Nat) (bd : Bool), s6 = .int .u64 k ∧ k ≤ n ∧ n - k ≤ kx ∧ Hid (D.length = k ∧ D ++ pL 1125899906842624 1125899906842624 (n - k) es = L ∧ pR 1125899906842624 1125899906842624 (n - k) es = R ∧ pB 1125899906842624 1125899906842624 (n - k) bd es = Z) ∧ Hid (OS wr w.heap.size s3 D) ∧ Hid (RR wr b es bd) ∧ Hid (Rd b w wr))
  case atStart => exact ⟨0, [], d0, b0, rfl, by omega, by omega, Lib.hid ⟨rfl, HLRZ.out.1, HLRZ.out.2.1, HLRZ.out.2.2⟩, OS.nil _ _, HR1, HT1⟩
  case round =>
    obtain ⟨k, D, es, bd, rfl, hk, hkx, HD, HO, HR, HT⟩ := hrel
    by_cases hlt : k < n
    · have hltz : (k : Int) < (n : Int) := by omega
      have hnk : n - k = (n - (k + 1)) + 1 := by omega
      have HD2 : Hid (D.length = k ∧ (D ++ [(((nN 1125899906842624 es : Nat) : Int), ((nN 1125899906842624 (nR 1125899906842624 es) : Nat) : Int))]) ++ pL 1125899906842624 1125899906842624 (n - (k + 1)) (nR 1125899906842624 (nR 1125899906842624 es)) = L ∧ pR 1125899906842624 1125899906842624 (n - (k + 1)) (nR 1125899906842624 (nR 1125899906842624 es)) = R ∧ pB 1125899906842624 1125899906842624 (n - (k + 1)) (nB 1125899906842624 (nR 1125899906842624 es)) (nR 1125899906842624 (nR 1125899906842624 es)) = Z) := by
        have h := HD.out
        rw [hnk, pL, pR, pB] at h
        exact Lib.hid ⟨h.1, by rw [List.append_assoc]; exact h.2.1, h.2.2.1, h.2.2.2⟩
      have h1 := nN_le 1125899906842624 es
      have h2 := nN_le 1125899906842624 (nR 1125899906842624 es)
      have hn1 := HN.out wr es bd HR.out
      have hn2 := HN.out
      obtain ⟨n1, e1⟩ : ∃ x, nN 1125899906842624 es = x := ⟨_, rfl⟩
      obtain ⟨es1, e2⟩ : ∃ x, nR 1125899906842624 es = x := ⟨_, rfl⟩
      obtain ⟨bd1, e3⟩ : ∃ x, nB 1125899906842624 es = x := ⟨_, rfl⟩
      rw [e1, e2, e3] at hn1
      rw [e1, e2] at HD2
      rw [e1] at h1
      rw [e2] at h2
      clear e1 e2 e3
      have HN2 : Hid (∀ W, RR W b es1 bd1 → Calls Tryz.prog 70 #[.pointer (some ⟨b, 0, none⟩), .int .u64 1125899906842624] W fun e w' => e = .returned (.int .u64 ((nN 1125899906842624 es1 : Nat) : Int)) ∧ RR w' b (nR 1125899906842624 es1) (nB 1125899906842624 es1) ∧ Rd b W w') := Lib.hid (fun W h => hn2 W es1 bd1 h)
      obtain ⟨n2, e1⟩ : ∃ x, nN 1125899906842624 es1 = x := ⟨_, rfl⟩
      obtain ⟨es2, e2⟩ : ∃ x, nR 1125899906842624 es1 = x := ⟨_, rfl⟩
      obtain ⟨bd2, e3⟩ : ∃ x, nB 1125899906842624 es1 = x := ⟨_, rfl⟩
      rw [e1, e2, e3] at HN2
      rw [e1, e2, e3] at HD2
      rw [e1] at h2
      clear e1 e2 e3 hn2
      have w1z : IntKind.i64.wrap (n1 : Int) = (n1 : Int) := IntWalk.i64_in _ ⟨by omega, by omega⟩
      have w2z : IntKind.i64.wrap (n2 : Int) = (n2 : Int) := IntWalk.i64_in _ ⟨by omega, by omega⟩
      have HLD : Hid (D.length ≤ 100000) := Lib.hid (by have := HD.out.1; omega)
      clear h1 h2 hnk HD
      go_wp2_with fail
      refine hn1.mono ?_
      rintro e w2 ⟨rfl, hr2, ht2⟩
      have hn2 := HN2.out w2 hr2
      have HO2 := Lib.hid (HO.out.rd ht2 HBL.out)
      have HT2 := Lib.hid (HT.out.trans ht2)
      clear hn1 hr2 ht2 HR HO HT HN2
      go_wp2_with fail
      refine hn2.mono ?_
      rintro e w3 ⟨rfl, hr3, ht3⟩
      have HO3 := Lib.hid (HO2.out.rd ht3 HBL.out)
      have HT3 := Lib.hid (HT2.out.trans ht3)
      have HR3 := Lib.hid hr3
      clear hn2 hr3 ht3 HO2 HT2
      have B4 : Below w3.heap.size w3 (w3.alloc (.cells #[.int .i64 n1, .int .i64 n2] 101)) := (Below.refl _ _).alloc (Nat.le_refl _) _
      have HO4 := Lib.hid (HO3.out.kept B4)
      have HR4 := Lib.hid (HR3.out.kept B4)
      have HT4 := Lib.hid (HT3.out.trans (Rd.below B4))
      have HSP := Lib.hid (new_span w3 (.int .i64 n1) (.int .i64 n2) 101)
      have HSZ : Hid (w.heap.size ≤ (w3.alloc (.cells #[.int .i64 n1, .int .i64 n2] 101)).heap.size) := Lib.hid (Nat.le_trans HT3.out.size B4.size)
      clear B4 HO3 HR3 HT3
      go_wp2_with (at_builtin; go_must (refine append_span rfl (.tmp 8) (.tmp 16) rfl w.heap.size u3 D n1 n2 ⟨w3.heap.size, 0, none⟩ 1 rfl rfl HO4.out HSP.out HLD.out HSZ.out ?_); intro v5 w5 hO5 hst; have HO5 := Lib.hid hO5; have HR5 := Lib.hid (HR4.out.under (hst.2 _ (Below.refl _ _)) HBL.out); have HT5 := Lib.hid (HT4.out.under (hst.2 _ (Below.refl _ _)) (Nat.le_refl _)); clear hO5 hst)
      go_roundg (n - (k + 1))
      case measure => omega
      case rel => exact ⟨k + 1, D ++ [((n1 : Int), (n2 : Int))], es2, bd2, by go_num, by omega, by omega, Lib.hid ⟨by rw [List.length_append, HD2.out.1]; rfl, HD2.out.2.1, HD2.out.2.2.1, HD2.out.2.2.2⟩, HO5, HR5, HT5⟩
    · have hltz : ¬ (k : Int) < (n : Int) := by omega
      obtain rfl : k = n := by omega
      have h := HD.out
      rw [Nat.sub_self, pL, pR, pB, List.append_nil] at h
      obtain ⟨_, rfl, rfl, rfl⟩ := h
      clear HLRZ HD
      go_wp2_with fail
      go_ret
      exact ⟨_, rfl, HO.out, HR.out, HT.out⟩
set_option maxRecDepth 100000 in
set_option maxHeartbeats 8000000 in
theorem spans_rf (b : Nat) (ds : List Nat) (bad : Bool) (w : World) (hr : RF w b ds bad) :
    Calls Tryz.prog 62 #[.pointer (some ⟨b, 0, none⟩)] w fun e w' => ∃ v, e = .returned v ∧ OS w' w.heap.size v (pL 1125899906842624 1125899906842624 (nN 32 ds) (nR 32 ds)) ∧ RF w' b (pR 1125899906842624 1125899906842624 (nN 32 ds) (nR 32 ds)) (pB 1125899906842624 1125899906842624 (nN 32 ds) (nB 32 ds) (nR 32 ds)) ∧ Rd b w w' := by
  have hbl := hr.lt
  have HBL := Lib.hid hbl
  have hn32 := nN_le 32 ds
  have H0 : Hid (Calls Tryz.prog 72 #[.pointer (some ⟨b, 0, none⟩), .int .u64 32] w fun e w' => e = .returned (.int .u64 ((nN 32 ds : Nat) : Int)) ∧ RF w' b (nR 32 ds) (nB 32 ds) ∧ Rd b w w') := Lib.hid (num_rf1 b 32 ds bad w hr)
  have HN : Hid (∀ W es bd, RF W b es bd → Calls Tryz.prog 72 #[.pointer (some ⟨b, 0, none⟩), .int .u64 1125899906842624] W fun e w' => e = .returned (.int .u64 ((nN 1125899906842624 es : Nat) : Int)) ∧ RF w' b (nR 1125899906842624 es) (nB 1125899906842624 es) ∧ Rd b W w') := Lib.hid (fun W es bd h => num_rf1 b 1125899906842624 es bd W h)
  obtain ⟨n, hn⟩ : ∃ n, nN 32 ds = n := ⟨_, rfl⟩
  obtain ⟨d0, hd0⟩ : ∃ d, nR 32 ds = d := ⟨_, rfl⟩
  obtain ⟨b0, hb0⟩ : ∃ d, nB 32 ds = d := ⟨_, rfl⟩
  rw [hn, hd0, hb0] at H0 ⊢
  rw [hn] at hn32
  obtain ⟨L, hL⟩ : ∃ x, pL 1125899906842624 1125899906842624 n d0 = x := ⟨_, rfl⟩
  obtain ⟨R, hR⟩ : ∃ x, pR 1125899906842624 1125899906842624 n d0 = x := ⟨_, rfl⟩
  obtain ⟨Z, hZ⟩ : ∃ x, pB 1125899906842624 1125899906842624 n b0 d0 = x := ⟨_, rfl⟩
  rw [hL, hR, hZ]
  have HLRZ := Lib.hid (And.intro hL (And.intro hR hZ))
  clear hn hd0 hb0 hr hbl hL hR hZ
  go_enter Tryz.func62, Tryz.ntmps62
  go_wp2_with fail
  refine H0.out.mono ?_
  rintro e w1 ⟨rfl, hr1, ht1⟩
  have HR1 := Lib.hid hr1
  have HT1 := Lib.hid ht1
  clear hr1 ht1 H0
  go_wp2_with fail
  go_loopg [3, 5, 6, 7] n (fun kx s3 s5 s6 s7 wr => ∃ (k : Nat) (D : List (Int × Int)) (es : List Nat) (bd : Bool), s5 = .int .u64 k ∧ (∃ y, s6 = y) ∧ (∃ y, s7 = y) ∧ k ≤ n ∧ n - k ≤ kx ∧ Hid (D.length = k ∧ D ++ pL 1125899906842624 1125899906842624 (n - k) es = L ∧ pR 1125899906842624 1125899906842624 (n - k) es = R ∧ pB 1125899906842624 1125899906842624 (n - k) bd es = Z) ∧ Hid (OS wr w.heap.size s3 D) ∧ Hid (RF wr b es bd) ∧ Hid (Rd b w wr))
  case atStart => exact ⟨0, [], d0, b0, rfl, ⟨_, rfl⟩, ⟨_, rfl⟩, by omega, by omega, Lib.hid ⟨rfl, HLRZ.out.1, HLRZ.out.2.1, HLRZ.out.2.2⟩, OS.nil _ _, HR1, HT1⟩
  case round =>
    obtain ⟨k, D, es, bd, rfl, ⟨y6, rfl⟩, ⟨y7, rfl⟩, hk, hkx, HD, HO, HR, HT⟩ := hrel
    by_cases hlt : k < n
    · have hltz : (k : Int) < (n : Int) := by omega
      have hnk : n - k = (n - (k + 1)) + 1 := by omega
      have HD2 : Hid (D.length = k ∧ (D ++ [(((nN 1125899906842624 es : Nat) : Int), ((nN 1125899906842624 (nR 1125899906842624 es) : Nat) : Int))]) ++ pL 1125899906842624 1125899906842624 (n - (k + 1)) (nR 1125899906842624 (nR 1125899906842624 es)) = L ∧ pR 1125899906842624 1125899906842624 (n - (k + 1)) (nR 1125899906842624 (nR 1125899906842624 es)) = R ∧ pB 1125899906842624 1125899906842624 (n - (k + 1)) (nB 1125899906842624 (nR 1125899906842624 es)) (nR 1125899906842624 (nR 1125899906842624 es)) = Z) := by
        have h := HD.out
        rw [hnk, pL, pR, pB] at h
        exact Lib.hid ⟨h.1, by rw [List.append_assoc]; exact h.2.1, h.2.2.1, h.2.2.2⟩
      have h1 := nN_le 1125899906842624 es
      have h2 := nN_le 1125899906842624 (nR 1125899906842624 es)
      have hn1 := HN.out wr es bd HR.out
      have hn2 := HN.out
      obtain ⟨n1, e1⟩ : ∃ x, nN 1125899906842624 es = x := ⟨_, rfl⟩
      obtain ⟨es1, e2⟩ : ∃ x, nR 1125899906842624 es = x := ⟨_, rfl⟩
      obtain ⟨bd1, e3⟩ : ∃ x, nB 1125899906842624 es = x := ⟨_, rfl⟩
      rw [e1, e2, e3] at hn1
      rw [e1, e2] at HD2
      rw [e1] at h1
      rw [e2] at h2
      clear e1 e2 e3
      have HN2 : Hid (∀ W, RF W b es1 bd1 → Calls Tryz.prog 72 #[.pointer (some ⟨b, 0, none⟩), .int .u64 1125899906842624] W fun e w' => e = .returned (.int .u64 ((nN 1125899906842624 es1 : Nat) : Int)) ∧ RF w' b (nR 1125899906842624 es1) (nB 1125899906842624 es1) ∧ Rd b W w') := Lib.hid (fun W h => hn2 W es1 bd1 h)
      obtain ⟨n2, e1⟩ : ∃ x, nN 1125899906842624 es1 = x := ⟨_, rfl⟩
      obtain ⟨es2, e2⟩ : ∃ x, nR 1125899906842624 es1 = x := ⟨_, rfl⟩
      obtain ⟨bd2, e3⟩ : ∃ x, nB 1125899906842624 es1 = x := ⟨_, rfl⟩
      rw [e1, e2, e3] at HN2
      rw [e1, e2, e3] at HD2
      rw [e1] at h2
      clear e1 e2 e3 hn2
      have w1z : IntKind.i64.wrap (n1 : Int) = (n1 : Int) := IntWalk.i64_in _ ⟨by omega, by omega⟩
      have w2z : IntKind.i64.wrap (n2 : Int) = (n2 : Int) := IntWalk.i64_in _ ⟨by omega, by omega⟩
      have HLD : Hid (D.length ≤ 100000) := Lib.hid (by have := HD.out.1; omega)
      clear h1 h2 hnk HD
      go_wp2_with fail
      refine hn1.mono ?_
      rintro e w2 ⟨rfl, hr2, ht2⟩
      have hn2 := HN2.out w2 hr2
      have HO2 := Lib.hid (HO.out.rd ht2 HBL.out)
      have HT2 := Lib.hid (HT.out.trans ht2)
      clear hn1 hr2 ht2 HR HO HT HN2
      go_wp2_with fail
      refine hn2.mono ?_
      rintro e w3 ⟨rfl, hr3, ht3⟩
      have HO3 := Lib.hid (HO2.out.rd ht3 HBL.out)
      have HT3 := Lib.hid (HT2.out.trans ht3)
      have HR3 := Lib.hid hr3
      clear hn2 hr3 ht3 HO2 HT2
      have B4 : Below w3.heap.size w3 (w3.alloc (.cells #[.int .i64 n1, .int .i64 n2] 101)) := (Below.refl _ _).alloc (Nat.le_refl _) _
      have HO4 := Lib.hid (HO3.out.kept B4)
      have HR4 := Lib.hid (HR3.out.kept B4)
      have HT4 := Lib.hid (HT3.out.trans (Rd.below B4))
      have HSP := Lib.hid (new_span w3 (.int .i64 n1) (.int .i64 n2) 101)
      have HSZ : Hid (w.heap.size ≤ (w3.alloc (.cells #[.int .i64 n1, .int .i64 n2] 101)).heap.size) := Lib.hid (Nat.le_trans HT3.out.size B4.size)
      clear B4 HO3 HR3 HT3
      go_wp2_with (at_builtin; go_must (refine append_span rfl (.tmp 19) (.tmp 25) rfl w.heap.size u3 D n1 n2 ⟨w3.heap.size, 0, none⟩ 1 rfl rfl HO4.out HSP.out HLD.out HSZ.out ?_); intro v5 w5 hO5 hst; have HO5 := Lib.hid hO5; have HR5 := Lib.hid (HR4.out.under (hst.2 _ (Below.refl _ _)) HBL.out); have HT5 := Lib.hid (HT4.out.under (hst.2 _ (Below.refl _ _)) (Nat.le_refl _)); clear hO5 hst)
      go_roundg (n - (k + 1))
      case measure => omega
      case rel => exact ⟨k + 1, D ++ [((n1 : Int), (n2 : Int))], es2, bd2, by go_num, ⟨_, rfl⟩, ⟨_, rfl⟩, by omega, by omega, Lib.hid ⟨by rw [List.length_append, HD2.out.1]; rfl, HD2.out.2.1, HD2.out.2.2.1, HD2.out.2.2.2⟩, HO5, HR5, HT5⟩
    · have hltz : ¬ (k : Int) < (n : Int) := by omega
      obtain rfl : k = n := by omega
      have h := HD.out
      rw [Nat.sub_self, pL, pR, pB, List.append_nil] at h
      obtain ⟨_, rfl, rfl, rfl⟩ := h
      clear HLRZ HD
      go_wp2_with fail
      go_ret
      exact ⟨_, rfl, HO.out, HR.out, HT.out⟩
end Go.Proofs.YtibjboacjobaoaaGreat

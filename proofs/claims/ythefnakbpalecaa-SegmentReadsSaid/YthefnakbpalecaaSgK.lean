/- Segments: the reference's Read. -/
import Derived.Test.YthefnakbpalecaaSgE
import Derived.Test.YthefnakbpalecaaSgI
import Derived.Test.YthefnakbpalecaaSgJ
import Derived.Deep.DeepCutAuto
namespace Go.Proofs.Ythefnakbpalecaa
open Go.RowKit
theorem RF.setc {w : World} {b : Nat} {ds : List Nat} {bad : Bool} (h : RF w b ds bad) {N : Nat} (hN : b < N) (j : Nat) (u : Value) : RF (w.setCell ⟨N, j, none⟩ u) b ds bad := by
  obtain ⟨v, h1, h2, h3, h4⟩ := h
  exact ⟨v, (Below.heap_setCell _ _ _ _ (show b ≠ N by omega)).trans h1, h2.keptX (Kept.setCell (X := fun q => q = N) w ⟨N, j, none⟩ u rfl) (fun k hk e => by have := h3 k hk; omega), h3, h4⟩
/-- The loop, between rounds. -/
structure RSI (w : World) (bs : List Nat) (f : Nat) (v : Value) (L : List (Ent × Value)) (g : Nat) (W : World) : Prop where
  eo : EO W w.heap.size v L
  bel : Below w.heap.size w W
  sr : sRows (rowsOf (bs.drop g)) f (L.map Prod.fst) g = sRead bs
  ll : L.length ≤ g
theorem endOf_zero (ds : List Nat) (X : Bool) : endOf ds X = if X = false ∧ ds = [] then 0 else 20 := by
  unfold endOf
  cases X <;> by_cases h : ds = [] <;> simp [h]
/-- append(s, one entry). -/
theorem append_ent {w : World} {ops : Array Oper} {rest : List Oper} {o : Oper} {a : Act} {Q : Exit → Act → World → Prop} (hgd : o.guard = none) (s x : Operand)
    (ho : o.op = .call { callee := .builtin .append, args := #[s, x], argTypes := #[23, 23] })
    (base : Nat) (v : Value) (L : List (Ent × Value)) (p : Ent × Value) (ad : Addr) (c : Nat) (hs : a.eval s = v) (hx : a.eval x = .slice (some ad) 1 c) (hown : EO w base v L)
    (hc : ∀ j u, (eC p)[j]? = some u → w.cell? (ad.add j) = some u) (hd : RB w p.2 p.1.d ∧ ∃ g c, p.2 = .slice (some ⟨g, 0, none⟩) p.1.d.length c) (hg : ∀ g, p.2.ownBlock = some g → v.ownBlock ≠ some g)
    (hlen : L.length ≤ 3000000) (hbase : base ≤ w.heap.size)
    (h : ∀ v' w', EO w' base v' (L ++ [p]) → w.grownBy w' v.ownBlock → wpList Try.prog ops Q rest (a.put o.dst v') w') : wpList Try.prog ops Q (o :: rest) a w := by
  obtain ⟨i0, hi, hz0, hz1, hz2⟩ := info_parts en_info2
  refine wpList_append_own w hgd s x 23 ho base 31 i0 (.agg #[.int .u64 0, .int .i64 0, .slice none 0 0]) 3 40 Try.underlying23 hi hz0 hz1 hz2 rfl (by decide) v L.length (eCells L) hs hown.row ad 1 c (eC p) hx rfl hc
    (by intro u hu; obtain ⟨-, g', c', e⟩ := hd; simp only [eC, List.mem_cons, List.not_mem_nil, or_false] at hu; rcases hu with rfl | rfl | rfl <;> first | rfl | (rw [e]; rfl)) (by unfold maxLen; omega) (by omega) hbase ?_
  intro v' w' h1 h2 _
  refine h v' w' ⟨by rw [eCells_append, List.length_append]; exact h1, fun q hq => ?_⟩ h2
  rcases List.mem_append.1 hq with hq | hq
  · exact ⟨hown.grown h2 q hq, (hown.dat q hq).2⟩
  · simp only [List.mem_singleton] at hq
    subst hq
    exact ⟨hd.1.keptX (X := fun b => v.ownBlock = some b) ⟨h2.size, fun b hb hx => h2.block b hb (fun e => hx e.symm)⟩ (fun b hb e => hg b hb e), hd.2⟩
def E0 (w : World) (b : Nat) (a : Option Addr) (cap : Nat) : Prop := w.heap[b]? = some (.cells #[.slice a 0 cap, .bool false] 122 (0, 0))
theorem fail_e0 (b : Nat) (a : Option Addr) (cap : Nat) (w : World) (h1 : E0 w b a cap) :
    Calls Try.prog 115 #[.pointer (some ⟨b, 0, none⟩)] w fun e w' => e = .returned (.tuple #[]) ∧ RF w' b [] true ∧ Rd b w w' := by
  unfold E0 at h1
  obtain ⟨c0, c1, f0, f1⟩ := two_cells h1
  have HE := Lib.hid h1
  clear h1
  go_enter Try.func115, Try.ntmps115
  go_wp2
  go_end0
  refine ⟨rfl, ⟨.slice none 0 0, ?_, RB.nil _, Far.nil _, fun _ => rfl⟩, Rd.set (Rd.set (Turn.refl _ _ _) 0 _) 1 _⟩
  exact heap_set (heap_set HE.out 0 _) 1 _
theorem first_e0 (b : Nat) (a : Option Addr) (cap : Nat) (w : World) (h1 : E0 w b a cap) :
    Calls Try.prog 113 #[.pointer (some ⟨b, 0, none⟩)] w fun e w' => e = .returned (.tuple #[.int .u8 0, .bool false]) ∧ w = w' := by
  unfold E0 at h1
  obtain ⟨c0, c1, f0, f1⟩ := two_cells h1
  clear h1
  go_enter Try.func113, Try.ntmps113
  go_wp2
  go_ret2
  exact ⟨rfl, rfl⟩
theorem num_e0 (b : Nat) (m : Int) (a : Option Addr) (cap : Nat) (w : World) (hr : E0 w b a cap) :
    Calls Try.prog 73 #[.pointer (some ⟨b, 0, none⟩), .int .u64 m] w fun e w' => e = .returned (.int .u64 0) ∧ RF w' b [] true ∧ Rd b w w' := by
  have HF := Lib.hid (first_e0 b a cap w hr)
  have HX := Lib.hid (fail_e0 b a cap w hr)
  clear hr
  go_enter Try.func73, Try.ntmps73
  go_wp2_with (first
    | (go_at_call 113; refine HF.out.mono ?_; rintro e w1 ⟨rfl, rfl⟩)
    | (go_at_call 115; refine HX.out.mono ?_; rintro e w2 ⟨rfl, hr2, ht2⟩))
  go_ret
  exact ⟨rfl, hr2, ht2⟩
set_option maxRecDepth 100000 in
set_option maxHeartbeats 8000000 in
theorem rsread_any (v : Value) (bs : List Nat) (w : World) (hb : RB w v bs) (hl : bs.length ≤ 2000000) :
    Calls Try.prog 25 #[v] w (SegRd w bs) := by
  have hlt := hb.1
  by_cases he : (takeOf bs).e = 0
  · have HTK := Lib.hid (reftake_far v bs w hb he)
    have hn8 := take_ok_n he
    have hkd := take_kind he hlt
    have hry := rows_yes he
    obtain ⟨tk, htk⟩ : ∃ q, takeOf bs = q := ⟨_, rfl⟩
    rw [htk] at HTK he hn8 hkd hry
    obtain ⟨kd, bd, nn, ee⟩ := tk
    dsimp only at he hn8 hkd hry
    subst he
    have HKD := Lib.hid hkd
    have HN8 := Lib.hid hn8
    obtain ⟨f, hf⟩ : ∃ q, nN 1152921504606846976 bd = q := ⟨_, rfl⟩
    obtain ⟨R, hR⟩ : ∃ q, nR 1152921504606846976 bd = q := ⟨_, rfl⟩
    obtain ⟨X, hX⟩ : ∃ q, nB 1152921504606846976 bd = q := ⟨_, rfl⟩
    have hfle : f ≤ 1152921504606846976 := by rw [← hf]; exact nN_le _ _
    have hsr : sRead bs = if (decide (kd = 1) && (decide (f ≠ 0) && ((!X) && decide (R = [])))) = true then sRows (rowsOf (bs.drop nn)) f [] nn else (0, [], 0) := by
      unfold sRead
      rw [hry, sRows_cons, if_pos rfl]
      unfold hdOk
      dsimp only
      rw [hf, hR, hX, Nat.zero_add, ← hn8.1]
    have HSR := Lib.hid hsr
    have HRN := Lib.hid (fun w b hr => num_rf3 b 1152921504606846976 1152921504606846976 (by omega) bd false w hr)
    rw [hf, hR, hX] at HRN
    have HB := Lib.hid hb
    clear hn8 hkd hry htk hf hR hX hsr hlt hb
    go_enter Try.func25, Try.ntmps25
    go_wp2_with fail
    refine HTK.out.mono ?_
    rintro e w1 ⟨v1, rfl, hr1, hf1, hb1⟩
    dsimp only at hr1 ⊢
    have HB1 := Lib.hid hb1
    have HR1 := Lib.hid hr1
    have HF1 := Lib.hid hf1
    obtain ⟨a1, c1, hv1⟩ := hr1.shapeN' (n := bd.length) rfl
    obtain ⟨bl, hbl⟩ : ∃ q, bd.length = q := ⟨_, rfl⟩
    rw [hbl] at hv1
    subst hv1
    clear hb1 hr1 hf1 HTK
    go_upto_region 3 with fail
    obtain ⟨b, hb⟩ : ∃ b, w1.heap.size = b := ⟨_, rfl⟩
    obtain ⟨b2, s2, z2⟩ := box1 w1 #[.slice a1 bl c1, .bool false] 122
    rw [hb] at s2
    have HB2 := Lib.hid (HB1.out.trans (b2.mono HB1.out.size))
    have HBZ : Hid (w.heap.size ≤ b) := Lib.hid (by rw [← hb]; exact HB1.out.size)
    have HNM := Lib.hid (HRN.out _ b ⟨_, s2, HR1.out.kept b2, by rw [← hb]; exact HF1.out, fun h => by cases h⟩)
    try rw [hb]
    clear b2 s2 z2 hb
    generalize w1.alloc (.cells #[.slice a1 bl c1, .bool false] 122) = w2 at HB2 HNM ⊢
    go_wp2_with fail
    refine HNM.out.mono ?_
    rintro e w3 ⟨rfl, hr3, ht3⟩
    have HB3 := Lib.hid (Rd.outside ht3 HB2.out HB2.out.size HBZ.out)
    have HEN := Lib.hid (end_rf b _ _ w3 hr3)
    clear hr3 ht3 HNM HB2
    rw [endOf_zero] at HEN
    by_cases hk : kd = 1
    · subst hk
      by_cases hx : X = false ∧ R = []
      · rw [if_pos hx] at HEN
        have HX := Lib.hid hx
        by_cases hf0 : f = 0
        · subst hf0
          have HSF : Hid (sRead bs = (0, [], 0)) := Lib.hid (by rw [HSR.out, if_neg (by simp)])
          clear hx
          go_wp2_with fail
          refine HEN.out.mono ?_
          rintro e w4 ⟨rfl, rfl⟩
          go_wp2_with fail
          refine bodyPost_ret (v := .tuple #[.int .u64 0, .slice none 0 0, .int .i64 0]) (by simp [results, Try.results25, go_sem]) rfl ⟨HB3.out, .slice none 0 0, [], by rw [HSF.out]; rfl, EO.nil _ _, by rw [HSF.out]; rfl⟩
        · have d1 : decide ((f : Int) < 1) = false := decide_eq_false (by omega)
          have d2 : decide (f < 1) = false := decide_eq_false (by omega)
          have d3 : decide (f = 0) = false := decide_eq_false (by omega)
          have HS2 : Hid (sRows (rowsOf (bs.drop nn)) f [] nn = sRead bs) := Lib.hid (by rw [HSR.out, if_pos (by rw [hx.1, hx.2]; simp [hf0])])
          clear hx hf0
          go_wp2_with fail
          refine HEN.out.mono ?_
          rintro e w4 ⟨rfl, rfl⟩
          go_wp2_with fail
          obtain ⟨n, hn⟩ : ∃ n, bs.length = n := ⟨_, rfl⟩
          have HNB := Lib.hid hn
          have HNN : Hid (8 ≤ nn ∧ nn ≤ n) := Lib.hid (by have := HN8.out; omega)
          obtain ⟨a0, cap0, hv⟩ := HB.out.shapeN' hn
          subst hv
          have hx0 : ∃ x, a0 = some x := by
            rcases HB.out.2.2 with ⟨h, h2⟩ | ⟨x, c, h, -⟩
            · rw [h2] at hn; have := HNN.out; simp at hn; omega
            · injection h with h; exact ⟨x, h⟩
          obtain ⟨x, rfl⟩ := hx0
          have HI : Hid (RSI w bs f (.slice none 0 0) [] nn w3) := Lib.hid ⟨EO.nil _ _, HB3.out, HS2.out, Nat.zero_le _⟩
          have hcc : n ≤ cap0 ∧ cap0 ≤ maxLen := by
            rcases HB.out.2.2 with ⟨h, h2⟩ | ⟨x, c, h, h1, h2, -⟩
            · cases h
            · injection h with h3 h4 h5; rw [hn] at h1; exact ⟨by omega, by omega⟩
          have HCC := Lib.hid hcc
          rw [hn] at hl
          clear hn hcc HEN HS2 HSR HB3 HX HR1 HF1 HBZ HRN HKD HN8 d1 d2 d3 HB1
          go_loopg [11, 12] (n + 1) (fun kx s11 s12 wr => ∃ (va : Option Addr) (vc g : Nat) (L : List (Ent × Value)), s11 = .slice va L.length vc ∧ s12 = .int .i64 (g : Int) ∧ 8 ≤ g ∧ g ≤ n ∧ n - g ≤ kx ∧ Hid (RSI w bs f (.slice va L.length vc) L g wr))
          case atStart => exact ⟨none, 0, nn, [], rfl, rfl, HNN.out.1, HNN.out.2, by omega, HI⟩
          case round =>
            obtain ⟨va, vc, g, L, rfl, rfl, hg8, hgn, hkx, HI⟩ := hrel
            obtain ⟨ln, hln⟩ : ∃ ln, L.length = ln := ⟨_, rfl⟩
            have HLN := Lib.hid hln
            rw [hln] at HI ⊢
            clear hln
            have HRB := Lib.hid (HB.out.kept HI.out.bel)
            have hcc := HCC.out
            have s1 : (0 : Int) ≤ (g : Int) := by omega
            have s2 : (g : Int) ≤ (n : Int) := by omega
            have s3 : (n : Int) ≤ (cap0 : Int) := by omega
            by_cases hcn : cap0 = g
            · obtain rfl : n = g := by omega
              have HV : Hid (sRead bs = (f, L.map Prod.fst, n)) := Lib.hid (by
                have h := HI.out.sr
                rw [List.drop_eq_nil_of_le (by rw [HNB.out]; exact Nat.le_refl _), rowsOf_nil, sRows_nil] at h
                exact h.symm)
              subst hcn
              go_upto_region 9 with fail
              refine (reftake_any _ [] wr ⟨by simp, by simp, .inr ⟨x, 0, rfl, by simp, by unfold maxLen; omega, fun i hi => by simp at hi⟩⟩).mono ?_
              rintro e w1 ⟨v1, rfl, -, hb1⟩
              rw [ftake_nil]
              dsimp only
              have HB1 := Lib.hid hb1
              clear hb1
              go_wp2_with fail
              obtain ⟨g, hg⟩ : ∃ g, cap0 = g := ⟨_, rfl⟩
              subst hg
              refine bodyPost_ret (v := .tuple #[.int .u64 (f : Int), .slice va ln vc, .int .i64 (cap0 : Int)]) (by simp [results, Try.results25, go_sem]) rfl ⟨HI.out.bel.trans (HB1.out.mono HI.out.bel.size), .slice va ln vc, L, by rw [HV.out], HI.out.eo.below HB1.out, by rw [HV.out]⟩
            · have HRD := Lib.hid (rb_drop HRB.out g (by rw [HNB.out]; exact hgn) (.inl rfl) (k := n - g) (c := cap0 - g) (by rw [HNB.out]) (by omega) (by omega))
              by_cases he : (takeOf (bs.drop g)).e = 0
              · have HTK := Lib.hid (reftake_far _ _ wr HRD.out he)
                have hn8 := take_ok_n he
                have hry := rows_yes he
                rw [List.length_drop, HNB.out] at hn8
                rw [List.drop_drop] at hry
                have hlt := HRD.out.1
                have hkd := take_kind he hlt
                obtain ⟨tk, htk⟩ : ∃ q, takeOf (bs.drop g) = q := ⟨_, rfl⟩
                rw [htk] at HTK he hn8 hry hkd
                obtain ⟨kd, bd, nn, ee⟩ := tk
                dsimp only at he hn8 hry hkd
                subst he
                obtain ⟨z, hz⟩ : ∃ z, lnOk kd bd (f + ln) = z := ⟨_, rfl⟩
                have hV : sRead bs = if z = true then sRows (rowsOf (bs.drop (g + nn))) f (L.map Prod.fst ++ [entOf bd]) (g + nn) else (f, L.map Prod.fst, g) := by
                  have h := HI.out.sr
                  rw [hry, sRows_cons, if_neg (show ¬ g = 0 by omega), List.length_map, HLN.out] at h
                  dsimp only at h
                  rw [hz, ← hn8.1] at h
                  exact h.symm
                have HV2 := Lib.hid hV
                have HN8 := Lib.hid hn8
                have HZ := Lib.hid hz
                clear hV hn8 hry hz htk hlt
                go_upto_region 9 with fail
                refine HTK.out.mono ?_
                rintro e w1 ⟨v1, rfl, hr1, hf1, hb1⟩
                dsimp only at hr1 ⊢
                have HB1 := Lib.hid hb1
                have HR1 := Lib.hid hr1
                have HF1 := Lib.hid hf1
                obtain ⟨a4, c4, hv1⟩ := hr1.shapeN' (n := bd.length) rfl
                obtain ⟨bl2, hbl2⟩ : ∃ q, bd.length = q := ⟨_, rfl⟩
                rw [hbl2] at hv1
                subst hv1
                clear hb1 hr1 hf1 HTK s1 s2 s3 hbl2
                by_cases hk : kd = 2
                · subst hk
                  obtain ⟨ix, hix⟩ : ∃ T, nN 18446744073709551615 bd = T := ⟨_, rfl⟩
                  obtain ⟨T, hT⟩ : ∃ T, nN 1152921504606846976 (en1 bd) = T := ⟨_, rfl⟩
                  obtain ⟨K, hK⟩ : ∃ T, nN 3 (en2 bd) = T := ⟨_, rfl⟩
                  obtain ⟨d, hd⟩ : ∃ T, tN 4096 (en3 bd) = T := ⟨_, rfl⟩
                  obtain ⟨R2, hR2⟩ : ∃ T, tR 4096 (en3 bd) = T := ⟨_, rfl⟩
                  obtain ⟨X2, hX2⟩ : ∃ T, tB 4096 (en3 bd) = T := ⟨_, rfl⟩
                  have hK3 : K ≤ 3 := by rw [← hK]; exact nN_le _ _
                  have hix2 : ix ≤ 18446744073709551615 := by rw [← hix]; exact nN_le _ _
                  have hEN : entOf bd = ⟨T, (K : Int), d⟩ := by unfold entOf; rw [hT, hK, hd]
                  have HH : Hid (z = (decide (ix = f + ln) && ((!X2 && decide (R2 = [])) && sdE T (K : Int) d.length))) := Lib.hid (by rw [← HZ.out]; unfold lnOk; rw [hEN, hix, hR2, hX2]; simp)
                  rw [hEN] at HV2
                  obtain ⟨hd1, hd2⟩ := tN_ok 4096 (en3 bd) (nR_lt _ _ (nR_lt _ _ (nR_lt _ _ HR1.out.1)))
                  rw [show ((4096 : Nat) : Int) = 4096 from rfl, hd] at hd1 hd2
                  have HIX := Lib.hid hix
                  have HT := Lib.hid hT
                  have HK := Lib.hid hK
                  have HD := Lib.hid hd
                  have HR2 := Lib.hid hR2
                  have HX2 := Lib.hid hX2
                  have HD1 := Lib.hid hd1
                  have HD2 := Lib.hid hd2
                  clear hix hT hK hd hR2 hX2 hEN hd1 hd2 HZ
                  obtain ⟨q, hq⟩ : ∃ q, w1.heap.size = q := ⟨_, rfl⟩
                  obtain ⟨b2, s2, z2⟩ := box1 w1 #[.slice a4 bl2 c4, .bool false] 122
                  rw [hq] at s2
                  have HB2 := Lib.hid (HB1.out.trans (b2.mono HB1.out.size))
                  have HBZ : Hid (wr.heap.size ≤ q) := Lib.hid (by rw [← hq]; exact HB1.out.size)
                  have HRF2 : Hid (RF (w1.alloc (.cells #[.slice a4 bl2 c4, .bool false] 122)) q bd false) := Lib.hid ⟨_, s2, HR1.out.kept b2, by rw [← hq]; exact HF1.out, fun h => by cases h⟩
                  have HZ2 : Hid (q < (w1.alloc (.cells #[.slice a4 bl2 c4, .bool false] 122)).heap.size) := Lib.hid (ex_lt s2)
                  clear b2 s2 z2
                  go_upto_region 12 with fail
                  try rw [hq]
                  clear hq
                  generalize w1.alloc (.cells #[.slice a4 bl2 c4, .bool false] 122) = w2 at HB2 HRF2 HZ2 ⊢
                  have HN1 := Lib.hid (num_rf3 q 18446744073709551615 18446744073709551615 (by omega) bd false w2 HRF2.out)
                  rw [HIX.out] at HN1
                  go_wp2_with fail
                  refine HN1.out.mono ?_
                  rintro e w3 ⟨rfl, hr3, ht3⟩
                  have HB3 := Lib.hid (Rd.outside ht3 HB2.out HB2.out.size HBZ.out)
                  have HZ3 : Hid (q < w3.heap.size) := Lib.hid (by have := ht3.size; have := HZ2.out; omega)
                  have HN2 := Lib.hid (num_rf3 q 1152921504606846976 1152921504606846976 (by omega) _ _ w3 hr3)
                  have hT3 := HT.out
                  unfold en1 at hT3
                  rw [hT3] at HN2
                  clear hr3 ht3 hT3 HN1 HB2 HZ2 HRF2
                  go_wp2_with fail
                  refine HN2.out.mono ?_
                  rintro e w4 ⟨rfl, hr4, ht4⟩
                  have HB4 := Lib.hid (Rd.outside ht4 HB3.out HB3.out.size HBZ.out)
                  have HZ4 : Hid (q < w4.heap.size) := Lib.hid (by have := ht4.size; have := HZ3.out; omega)
                  obtain ⟨N, hN⟩ : ∃ N, w4.heap.size = N := ⟨_, rfl⟩
                  have HNQ : Hid (q < N ∧ wr.heap.size ≤ N) := Lib.hid ⟨by have := HZ4.out; omega, by have := HB4.out.size; omega⟩
                  obtain ⟨b5, s5, z5⟩ := box1 w4 #[.int .u64 (T : Int), .int .i64 0, .slice none 0 0] 31
                  rw [hN] at s5
                  have HB5 := Lib.hid (HB4.out.trans (b5.mono HB4.out.size))
                  have HS5 := Lib.hid s5
                  have HN3 := Lib.hid (num_rf3 q 3 3 (by omega) _ _ _ (hr4.kept b5))
                  have hK4 := HK.out
                  unfold en2 en1 at hK4
                  rw [hK4] at HN3
                  clear hr4 ht4 hK4 HN2 HB3 HZ3 b5 s5 z5
                  go_upto_region 14 with fail
                  try rw [hN]
                  clear hN
                  generalize w4.alloc (.cells #[.int .u64 (T : Int), .int .i64 0, .slice none 0 0] 31) = w5 at HB5 HS5 HN3 ⊢
                  go_wp2_with fail
                  refine HN3.out.mono ?_
                  rintro e w6 ⟨rfl, hr6, ht6⟩
                  have HB6 := Lib.hid (Rd.outside ht6 HB5.out HB5.out.size HBZ.out)
                  have HS6 := Lib.hid (Rd.keep ht6 HS5.out (by have := HNQ.out; omega))
                  have hq6 := HNQ.out
                  have HTX := Lib.hid (text_rf1 q 4096 _ _ (w6.setCell ⟨N, 1, none⟩ (.int .i64 (K : Int))) (hr6.setc hq6.1 1 _) (by omega) (by have h := hr6; obtain ⟨_, _, h2, _⟩ := h; exact h2.2.1))
                  have hD5 := HD.out
                  have hR5 := HR2.out
                  have hX5 := HX2.out
                  unfold en3 en2 en1 at hD5 hR5 hX5
                  rw [hD5, hR5, hX5] at HTX
                  have HB6' := Lib.hid (below_two HB6.out hq6.2 1 (.int .i64 (K : Int)))
                  have HS6' := Lib.hid (heap_set HS6.out 1 (.int .i64 (K : Int)))
                  have kw : IntKind.i64.wrap ((K : Nat) : Int) = ((K : Nat) : Int) := IntWalk.i64_in _ (by omega)
                  obtain ⟨k0, k1, k2⟩ := three_rd HS6.out
                  have f6 : ∀ o, w6.frozen? ⟨N, o, none⟩ = false := fun o => by have h3 := HS6.out; simp only [World.frozen?, h3]; rfl
                  clear hr6 ht6 hq6 hD5 hR5 hX5 HN3 HB5 HS5 HB4 HZ4
                  go_wp2_with fail
                  clear k0 k1 k2 f6 kw
                  generalize w6.setCell ⟨N, 1, none⟩ (.int .i64 (K : Int)) = w6' at HTX HB6' HS6' ⊢
                  refine HTX.out.mono ?_
                  rintro e w7 ⟨rfl, hr7, ht7⟩
                  have HB7 := Lib.hid (Rd.outside ht7 HB6'.out HB6'.out.size HBZ.out)
                  have HS7 : Hid (w7.heap[N]? = some (.cells #[.int .u64 (T : Int), .int .i64 (K : Int), .slice none 0 0] 31 (0, 0))) := Lib.hid (Rd.keep ht7 HS6'.out (by have := HNQ.out; omega))
                  obtain ⟨gd, cap, w8, hcv, hrb8, hg1, hg2, hb8⟩ := bytes_fresh w7 d HD2.out (by have := HD1.out; omega)
                  have HB8 := Lib.hid (HB7.out.trans (hb8.mono HB7.out.size))
                  have HS8 := Lib.hid (ex_below HS7.out hb8)
                  have HRB8 := Lib.hid hrb8
                  have HGD : Hid (wr.heap.size ≤ gd ∧ gd < w8.heap.size ∧ N < gd) := Lib.hid ⟨Nat.le_trans HB7.out.size hg1, hg2, by have := ex_lt HS7.out; omega⟩
                  obtain ⟨dl, hdl⟩ : ∃ x, d.length = x := ⟨_, rfl⟩
                  have HDL := Lib.hid hdl
                  rw [hdl] at hcv HRB8 HH
                  have hq8 := HNQ.out
                  have HR9 := Lib.hid ((hr7.kept hb8).setc hq8.1 2 (.slice (some ⟨gd, 0, none⟩) dl cap))
                  have HB9 := Lib.hid (below_two HB8.out hq8.2 2 (.slice (some ⟨gd, 0, none⟩) dl cap))
                  have HS9 : Hid ((w8.setCell ⟨N, 2, none⟩ (.slice (some ⟨gd, 0, none⟩) dl cap)).heap[N]? = some (.cells #[.int .u64 (T : Int), .int .i64 (K : Int), .slice (some ⟨gd, 0, none⟩) dl cap] 31 (0, 0))) := Lib.hid (heap_set HS8.out 2 _)
                  have HRB9 : Hid (RB (w8.setCell ⟨N, 2, none⟩ (.slice (some ⟨gd, 0, none⟩) dl cap)) (.slice (some ⟨gd, 0, none⟩) dl cap) d) := Lib.hid (HRB8.out.keptX (Kept.setCell (X := fun q => q = N) w8 ⟨N, 2, none⟩ _ rfl) (fun k hk e => by have := HGD.out.2.2; simp only [Value.ownBlock, Option.some.injEq] at hk; omega))
                  have HZ9 : Hid (gd < (w8.setCell ⟨N, 2, none⟩ (.slice (some ⟨gd, 0, none⟩) dl cap)).heap.size) := Lib.hid (by rw [World.size_setCell]; exact HGD.out.2.1)
                  obtain ⟨k0, k1, k2⟩ := three_rd HS8.out
                  have f8 : ∀ o, w8.frozen? ⟨N, o, none⟩ = false := fun o => by have h3 := HS8.out; simp only [World.frozen?, h3]; rfl
                  clear hr7 ht7 hrb8 hg1 hg2 hb8 HTX HB6 HS6 HB7 HS7 HB6' HS6' hdl hq8
                  go_upto_region 16 with fail
                  clear k0 k1 k2 f8 hcv
                  generalize w8.setCell ⟨N, 2, none⟩ (.slice (some ⟨gd, 0, none⟩) dl cap) = w9 at HR9 HB9 HS9 HRB9 HZ9 ⊢
                  have HEN := Lib.hid (end_rf q R2 X2 w9 HR9.out)
                  rw [endOf_zero] at HEN
                  by_cases hx : X2 = false ∧ R2 = []
                  · rw [if_pos hx] at HEN
                    obtain ⟨y, hy⟩ : ∃ y, sdE T (K : Int) dl = y := ⟨_, rfl⟩
                    have HHY : Hid (z = (decide (ix = f + ln) && y)) := Lib.hid (by rw [HH.out, hx.1, hx.2, hy]; simp)
                    have HSN : Hid (Calls Try.prog 22 #[.agg #[.int .u64 (T : Int), .int .i64 (K : Int), .slice (some ⟨gd, 0, none⟩) dl cap]] w9 fun e w' => e = .returned (.bool y) ∧ Below w9.heap.size w9 w') := Lib.hid (by rw [← hy]; exact rssound_any T (K : Int) (some ⟨gd, 0, none⟩) dl cap w9)
                    obtain ⟨k0, k1, k2⟩ := three_rd HS9.out
                    clear hx hy
                    go_wp2_with fail
                    refine HEN.out.mono ?_
                    rintro e w10 ⟨rfl, rfl⟩
                    go_wp2_with fail
                    refine HSN.out.mono ?_
                    rintro e w11 ⟨rfl, hb11⟩
                    have HB11 := Lib.hid (HB9.out.trans (hb11.mono HB9.out.size))
                    have HS11 := Lib.hid (ex_below HS9.out hb11)
                    have HRB11 := Lib.hid (HRB9.out.kept hb11)
                    have HZ11 : Hid (gd < w11.heap.size) := Lib.hid (by have := hb11.size; have := HZ9.out; omega)
                    clear k0 k1 k2 hb11 HEN HSN
                    cases y with
                    | false =>
                      have HV : Hid (sRead bs = (f, L.map Prod.fst, g)) := Lib.hid (by rw [HV2.out, HHY.out, Bool.and_false]; rfl)
                      go_wp2_with fail
                      refine bodyPost_ret (v := .tuple #[.int .u64 (f : Int), .slice va ln vc, .int .i64 (g : Int)]) (by simp [results, Try.results25, go_sem]) rfl ⟨HI.out.bel.trans (HB11.out.mono HI.out.bel.size), .slice va ln vc, L, by rw [HV.out], HI.out.eo.below HB11.out, by rw [HV.out]⟩
                    | true =>
                      have hll := HI.out.ll
                      rw [HLN.out] at hll
                      have u1 : IntKind.u64.wrap ((ln : Nat) : Int) = ((ln : Nat) : Int) := IntWalk.u64_in _ (by omega)
                      have u2 : IntKind.u64.wrap ((f : Int) + (ln : Int)) = ((f + ln : Nat) : Int) := (IntWalk.u64_in _ (by omega)).trans (by omega)
                      by_cases hix : ix = f + ln
                      · have HV3 : Hid (sRead bs = sRows (rowsOf (bs.drop (g + nn))) f (L.map Prod.fst ++ [⟨T, (K : Int), d⟩]) (g + nn)) := Lib.hid (by rw [HV2.out, HHY.out, if_pos (by simp [hix])])
                        have d1 : ((ix : Int) != ((f + ln : Nat) : Int)) = false := by simp; omega
                        have d2 : ((ix : Int) != (f : Int) + (ln : Int)) = false := by simp; omega
                        have d3 : ((ix : Int) == ((f + ln : Nat) : Int)) = true := by simp; omega
                        obtain ⟨k0, k1, k2⟩ := three_rd HS11.out
                        obtain ⟨x11, hx11⟩ : ∃ x, w11.heap.size = x := ⟨_, rfl⟩
                        obtain ⟨b12, s12, z12⟩ := box1 w11 #[.int .u64 (T : Int), .int .i64 (K : Int), .slice (some ⟨gd, 0, none⟩) dl cap] 31
                        rw [hx11] at s12
                        have HB12 := Lib.hid (HB11.out.trans (b12.mono HB11.out.size))
                        have HD12 := Lib.hid (HRB11.out.kept b12)
                        have HEO12 := Lib.hid (HI.out.eo.below HB12.out)
                        have HNW : Hid (∀ j u, (eC ((⟨T, (K : Int), d⟩ : Ent), Value.slice (some ⟨gd, 0, none⟩) dl cap))[j]? = some u → (w11.alloc (.cells #[.int .u64 (T : Int), .int .i64 (K : Int), .slice (some ⟨gd, 0, none⟩) dl cap] 31)).cell? ((⟨x11, 0, none⟩ : Addr).add j) = some u) := Lib.hid (fun j u hj => by
                          obtain ⟨q0, q1, q2⟩ := three_rd s12
                          rw [add_at]
                          rcases j with _ | _ | _ | j
                          · injection hj with hj; subst hj; exact q0
                          · injection hj with hj; subst hj; exact q1
                          · injection hj with hj; subst hj; exact q2
                          · cases hj)
                        have HWL : Hid (w.heap.size ≤ (w11.alloc (.cells #[.int .u64 (T : Int), .int .i64 (K : Int), .slice (some ⟨gd, 0, none⟩) dl cap] 31)).heap.size) := Lib.hid (by have h1 := HI.out.bel.size; have h2 := HB12.out.size; omega)
                        have HAP : Hid (∀ k, (Value.slice va ln vc).ownBlock = some k → w.heap.size ≤ k ∧ k < wr.heap.size) := Lib.hid (HI.out.eo.own)
                        have HLL : Hid (L.length ≤ 3000000) := Lib.hid (by have := HLN.out; omega)
                        clear b12 s12 z12 hll hix
                        go_wp2_with (at_builtin; refine append_ent rfl (.tmp 97) (.tmp 99) rfl w.heap.size (.slice va ln vc) L ((⟨T, (K : Int), d⟩ : Ent), Value.slice (some ⟨gd, 0, none⟩) dl cap) ⟨x11, 0, none⟩ 1 rfl rfl HEO12.out HNW.out ⟨HD12.out, gd, cap, by rw [HDL.out]⟩ (fun k hk hk2 => by have h1 := (HAP.out k hk2).2; have h2 := HGD.out.1; simp only [Value.ownBlock, Option.some.injEq] at hk; omega) HLL.out HWL.out ?_; intro v13 w13 hO13 hg13; refine Hid.out ?_)
                        have HO13 := Lib.hid hO13
                        have HG13 := Lib.hid hg13
                        clear hO13 hg13 u1 u2 d1 d2 d3 k0 k1 k2 hx11
                        obtain ⟨va13, vc13, hv13⟩ := HO13.out.shape
                        obtain ⟨l13, hl13⟩ : ∃ q, (L ++ [((⟨T, (K : Int), d⟩ : Ent), Value.slice (some ⟨gd, 0, none⟩) dl cap)]).length = q := ⟨_, rfl⟩
                        rw [hl13] at hv13
                        subst hv13
                        have HL13 := Lib.hid hl13
                        clear hl13
                        have hnn : nn ≤ 2000000 := by have := HN8.out; omega
                        have hgg : g ≤ 2000000 := by omega
                        refine Lib.hid ?_
                        go_wp2_with fail
                        go_roundg (n - (g + nn))
                        case measure => have := HN8.out; omega
                        case rel =>
                          have hn8 := HN8.out
                          have hln := HL13.out
                          have hll := HI.out.ll
                          have hb13 : Below w.heap.size w w13 := (HI.out.bel.trans (HB12.out.mono HI.out.bel.size)).trans (Only.toBelow (X := fun b => (Value.slice va ln vc).ownBlock = some b) ⟨HG13.out.os, HG13.out.tape, HG13.out.output, HG13.out.size, fun b hb hx => HG13.out.block b hb fun e => hx e.symm⟩ HWL.out (fun k hk => (HAP.out k hk).1))
                          refine ⟨va13, vc13, g + nn, L ++ [((⟨T, (K : Int), d⟩ : Ent), Value.slice (some ⟨gd, 0, none⟩) dl cap)], by rw [hln], ?_, by omega, by omega, by omega, Lib.hid ⟨?_, hb13, ?_, ?_⟩⟩
                          · first | rfl | go_num
                          · rw [hln]; exact HO13.out
                          · rw [HV3.out, List.map_append]; rfl
                          · rw [List.length_append, List.length_singleton]; omega
                      · have d1 : ((ix : Int) != ((f + ln : Nat) : Int)) = true := by simp; omega
                        have d2 : ((ix : Int) != (f : Int) + (ln : Int)) = true := by simp; omega
                        have HV : Hid (sRead bs = (f, L.map Prod.fst, g)) := Lib.hid (by rw [HV2.out, HHY.out, if_neg (by simp [hix])])
                        clear hix hll
                        go_wp2_with fail
                        refine bodyPost_ret (v := .tuple #[.int .u64 (f : Int), .slice va ln vc, .int .i64 (g : Int)]) (by simp [results, Try.results25, go_sem]) rfl ⟨HI.out.bel.trans (HB11.out.mono HI.out.bel.size), .slice va ln vc, L, by rw [HV.out], HI.out.eo.below HB11.out, by rw [HV.out]⟩
                  · rw [if_neg hx] at HEN
                    have HV : Hid (sRead bs = (f, L.map Prod.fst, g)) := Lib.hid (by
                      rw [HV2.out, HH.out, if_neg]
                      intro h
                      simp only [Bool.and_eq_true, decide_eq_true_eq, Bool.not_eq_true'] at h
                      exact hx h.2.1)
                    clear hx
                    go_wp2_with fail
                    refine HEN.out.mono ?_
                    rintro e w10 ⟨rfl, rfl⟩
                    go_wp2_with fail
                    refine bodyPost_ret (v := .tuple #[.int .u64 (f : Int), .slice va ln vc, .int .i64 (g : Int)]) (by simp [results, Try.results25, go_sem]) rfl ⟨HI.out.bel.trans (HB9.out.mono HI.out.bel.size), .slice va ln vc, L, by rw [HV.out], HI.out.eo.below HB9.out, by rw [HV.out]⟩
                · have d1 : ((kd : Int) != 2) = true := by simp; omega
                  have d2 : ((kd : Int) == 2) = false := by simp; omega
                  have HV : Hid (sRead bs = (f, L.map Prod.fst, g)) := Lib.hid (by
                    have hz : z = false := by rw [← HZ.out]; unfold lnOk; simp [hk]
                    rw [HV2.out, hz]; rfl)
                  clear hk
                  go_wp2_with fail
                  refine bodyPost_ret (v := .tuple #[.int .u64 (f : Int), .slice va ln vc, .int .i64 (g : Int)]) (by simp [results, Try.results25, go_sem]) rfl ⟨HI.out.bel.trans (HB1.out.mono HI.out.bel.size), .slice va ln vc, L, by rw [HV.out], HI.out.eo.below HB1.out, by rw [HV.out]⟩
              · have h0 := take_e _ he
                have HV : Hid (sRead bs = (f, L.map Prod.fst, g)) := Lib.hid (by
                  have h := HI.out.sr
                  rw [rows_no he, sRows_nil] at h
                  exact h.symm)
                have HTK := Lib.hid (reftake_any _ _ wr HRD.out)
                obtain ⟨h1, h2, h3⟩ := h0
                obtain ⟨ee, hee⟩ : ∃ q, (takeOf (bs.drop g)).e = q := ⟨_, rfl⟩
                rw [hee] at he
                have e1 : ((ee : Int) != 0) = true := by simp; exact he
                have e2 : ((ee : Int) == 0) = false := by simp; exact he
                go_upto_region 9 with fail
                refine HTK.out.mono ?_
                rintro e w1 ⟨v1, rfl, -, hb1⟩
                rw [h1, h3, hee]
                have HB1 := Lib.hid hb1
                clear hb1 h1 h2 h3 hee HTK s1 s2 s3
                go_wp2_with fail
                refine bodyPost_ret (v := .tuple #[.int .u64 (f : Int), .slice va ln vc, .int .i64 (g : Int)]) (by simp [results, Try.results25, go_sem]) rfl ⟨HI.out.bel.trans (HB1.out.mono HI.out.bel.size), .slice va ln vc, L, by rw [HV.out], HI.out.eo.below HB1.out, by rw [HV.out]⟩
      · rw [if_neg hx] at HEN
        have HSF : Hid (sRead bs = (0, [], 0)) := Lib.hid (by
          rw [HSR.out, if_neg]
          intro h
          simp only [Bool.and_eq_true, decide_eq_true_eq, Bool.not_eq_true'] at h
          exact hx h.2.2)
        clear hx
        go_wp2_with fail
        refine HEN.out.mono ?_
        rintro e w4 ⟨rfl, rfl⟩
        go_wp2_with fail
        refine bodyPost_ret (v := .tuple #[.int .u64 0, .slice none 0 0, .int .i64 0]) (by simp [results, Try.results25, go_sem]) rfl ⟨HB3.out, .slice none 0 0, [], by rw [HSF.out]; rfl, EO.nil _ _, by rw [HSF.out]; rfl⟩
    · have d1 : ((kd : Int) != 1) = true := by simp; omega
      have d2 : ((kd : Int) == 1) = false := by simp; omega
      have HSF : Hid (sRead bs = (0, [], 0)) := Lib.hid (by rw [HSR.out, if_neg (by simp [hk])])
      clear hk
      go_wp2_with fail
      refine bodyPost_ret (v := .tuple #[.int .u64 0, .slice none 0 0, .int .i64 0]) (by simp [results, Try.results25, go_sem]) rfl ⟨HB3.out, .slice none 0 0, [], by rw [HSF.out]; rfl, EO.nil _ _, by rw [HSF.out]; rfl⟩
  · have h0 := take_e bs he
    have hrn := rows_no he
    have HTK := Lib.hid (reftake_any v bs w hb)
    have HSR : Hid (sRead bs = (0, [], 0)) := Lib.hid (by unfold sRead; rw [hrn]; rfl)
    obtain ⟨h1, h2, h3⟩ := h0
    obtain ⟨ee, hee⟩ : ∃ q, (takeOf bs).e = q := ⟨_, rfl⟩
    rw [hee] at he
    have e1 : ((ee : Int) != 0) = true := by simp; exact he
    have e2 : ((ee : Int) == 0) = false := by simp; exact he
    go_enter Try.func25, Try.ntmps25
    go_wp2_with fail
    refine HTK.out.mono ?_
    rintro e w1 ⟨v1, rfl, hr1, hb1⟩
    rw [h1, h3, hee]
    rw [h2] at hr1
    have HB1 := Lib.hid hb1
    have HR1 := Lib.hid hr1
    clear hb1 hr1 hrn h1 h2 h3 hee HTK hb hlt
    obtain ⟨a1, c1, rfl⟩ := HR1.out.shapeN' (n := 0) rfl
    go_upto_region 3 with fail
    obtain ⟨b, hb⟩ : ∃ b, w1.heap.size = b := ⟨_, rfl⟩
    obtain ⟨b2, s2, z2⟩ := box1 w1 #[.slice a1 0 c1, .bool false] 122
    rw [hb] at s2
    have HB2 := Lib.hid (HB1.out.trans (b2.mono HB1.out.size))
    have HBZ : Hid (w.heap.size ≤ b) := Lib.hid (by rw [← hb]; exact HB1.out.size)
    have HNM := Lib.hid (num_e0 b 1152921504606846976 a1 c1 _ s2)
    try rw [hb]
    clear b2 s2 z2 hb
    go_wp2_with fail
    refine HNM.out.mono ?_
    rintro e w3 ⟨rfl, hr3, ht3⟩
    have HB3 := Lib.hid (Rd.outside ht3 HB2.out HB2.out.size HBZ.out)
    clear hr3 ht3 HNM
    go_wp2_with fail
    refine bodyPost_ret (v := .tuple #[.int .u64 0, .slice none 0 0, .int .i64 0]) (by simp [results, Try.results25, go_sem]) rfl ⟨HB3.out, .slice none 0 0, [], by rw [HSR.out]; rfl, EO.nil _ _, by rw [HSR.out]; rfl⟩
end Go.Proofs.Ythefnakbpalecaa

import Derived.Test.YtibjboacjobaoaaGreatMgAQ
import Derived.Outline
import Derived.Test.YtibjboacjobaoaaGreatMgAN
namespace Go.Proofs.YtibjboacjobaoaaGreat
open Go.RowKit
/- Free: the function that hands out what is not closed. -/
open Go.RowKit Go.Shelf
attribute [local go_sem] Oper.semAt_some

def gap (x y : Int) : List (Int × Int) := if x < y then [(x, y)] else []
/-- What is free from at up to to, the spans from the i-th on being closed, m of them. -/
def freeG (F T : Nat → Int) (to : Int) : Nat → Nat → Int → List (Int × Int)
  | 0, _, at_ => gap at_ to
  | m + 1, i, at_ => gap at_ (min to (F i)) ++ freeG F T to m (i + 1) (T i)
theorem gap_len (x y : Int) : (gap x y).length ≤ 1 := by unfold gap; split <;> simp
theorem freeG_len (F T : Nat → Int) (to : Int) : ∀ m i at_, (freeG F T to m i at_).length ≤ m + 1 := by
  intro m
  induction m with
  | zero => intro i a; exact gap_len _ _
  | succ m ih =>
    intro i a
    have := ih (i + 1) (T i)
    have := gap_len a (min to (F i))
    simp only [freeG, List.length_append]; omega
/-- The free spans of a range. -/
def freeL (F T : Nat → Int) (n : Nat) (x y : Int) : List (Int × Int) := freeG F T y (n - idx T x n) (idx T x n) x
theorem freeL_len (F T : Nat → Int) (n : Nat) (x y : Int) (hn : n ≤ 32) : (freeL F T n x y).length ≤ 33 := by
  have := freeG_len F T y (n - idx T x n) (idx T x n) x
  unfold freeL; omega
/-- Where the loop stands: behind the j-th of the spans from the i-th on. -/
def atJ (T : Nat → Int) (x : Int) (i : Nat) : Nat → Int
  | 0 => x
  | j + 1 => T (i + j)
theorem neq_gap (f t : Int) (h : f < t) (w : World) : (binOp .neq 101 (.agg #[.int .i64 f, .int .i64 t]) (.agg #[.int .i64 0, .int .i64 0])).run Tryz.prog w = .ok (.bool true) w := by
  rw [neq_span]
  have : (f == 0 && t == 0) = false := by
    cases h1 : f == 0 <;> cases h2 : t == 0 <;> simp_all
  rw [this]; rfl
theorem neq_zero (w : World) : (binOp .neq 101 (.agg #[.int .i64 0, .int .i64 0]) (.agg #[.int .i64 0, .int .i64 0])).run Tryz.prog w = .ok (.bool false) w := by
  rw [neq_span]; rfl

theorem betw_yes (x y : Int) (w : World) (h : x < y) : Calls Tryz.prog 118 #[.int .i64 x, .int .i64 y] w fun e w' => e = .returned (.agg #[.int .i64 x, .int .i64 y]) ∧ Below w.heap.size w w' :=
  (between_span x y w).mono (by
    rintro e w' ⟨u, v, rfl, rfl, rfl, hb⟩
    exact ⟨by rw [show gapF x y = x from if_neg (by omega), show gapT x y = y from if_neg (by omega)], hb⟩)
theorem betw_no (x y : Int) (w : World) (h : ¬ x < y) : Calls Tryz.prog 118 #[.int .i64 x, .int .i64 y] w fun e w' => e = .returned (.agg #[.int .i64 0, .int .i64 0]) ∧ Below w.heap.size w w' :=
  (between_span x y w).mono (by
    rintro e w' ⟨u, v, rfl, rfl, rfl, hb⟩
    exact ⟨by rw [show gapF x y = 0 from if_pos (by omega), show gapT x y = 0 from if_pos (by omega)], hb⟩)
set_option maxRecDepth 100000 in
set_option maxHeartbeats 4000000 in
theorem free1_in (l : Nat) (P : Nat → Prop) {p a : Option Addr} {n c : Nat} {F T : Nat → Int} (fb ab tb : Nat) (x y : Int) (J : Nat → World → Prop) (Js : World → Prop) (hJ : ∀ k V V', J k V → Below V.heap.size V V' → J k V')
    (hY : Yielding l P (freeL F T n x y) J Js) (W : World) (hal : Alm p a n c F T W) (hfb : W.cell? ⟨fb, 0, none⟩ = some (.int .i64 x)) (hab : W.cell? ⟨ab, 0, none⟩ = some (.pointer p)) (htb : W.cell? ⟨tb, 0, none⟩ = some (.int .i64 y))
    (hX : P tb) (hXr : ∀ z, 0 < n → a = some z → P z.block) (h0 : J 0 W) :
    CallsIn Fence.wide 2 Tryz.prog 116 #[.func (.yield l) #[] #[], .pointer (some ⟨fb, 0, none⟩), .pointer (some ⟨ab, 0, none⟩), .pointer (some ⟨tb, 0, none⟩)] W fun e W' => (∃ v, e = .returned v) ∧ (J (freeL F T n x y).length W' ∨ Js W') := by
  have haf := after_any x hal
  have hidx := idx_le T x n
  have hlen := hal.len
  have HG := Lib.hid hal.good
  have hfl : freeL F T n x y = freeG F T y (n - idx T x n) (idx T x n) x := rfl
  have hql : (freeL F T n x y).length ≤ 33 := freeL_len F T n x y hlen
  obtain ⟨rows, hrows⟩ : ∃ r, freeL F T n x y = r := ⟨_, rfl⟩
  rw [hrows] at hY hfl hql ⊢
  obtain ⟨i, hi⟩ : ∃ i, idx T x n = i := ⟨_, rfl⟩
  rw [hi] at haf hidx hfl
  obtain ⟨m, hm⟩ : ∃ m, n - i = m := ⟨_, rfl⟩
  have haf2 : Calls Tryz.prog 117 #[.pointer p, .int .i64 x] W (fun e w' => ∃ a' c', e = .returned (.slice a' m c') ∧ Sps w' a' m (sh F i) (sh T i) ∧ (∀ z, 0 < m → a' = some z → P z.block) ∧ Below W.heap.size W w') := haf.mono (by
    rintro e w' ⟨a', c', rfl, _, hS, hbl, hb⟩
    rw [hm] at hS hbl ⊢
    refine ⟨a', c', rfl, hS, fun z hz hz2 => ?_, hb⟩
    obtain ⟨z2, hz3, hz4⟩ := hbl z hz hz2
    exact hz4 ▸ hXr z2 (by omega) hz3)
  rw [hm] at hfl
  have HFL := Lib.hid hfl
  have HJ := Lib.hid hJ
  have HY := Lib.hid hY
  have H0 := Lib.hid h0
  have HX := Lib.hid hX
  have hq := guard_span
  clear haf hal hfl hJ hY h0 hrows hi hXr hX
  refine callsIn_of_wp Tryz.func116 rfl trivial ?_
  simp only [Tryz.ntmps116, List.size_toArray, List.length_cons, List.length_nil, Nat.reduceAdd, Nat.reduceSub, Array.replicate_succ, Array.replicate_zero, List.push_toArray, List.append_toArray, List.nil_append, List.cons_append]
  gi_wp2_with (refine ⟨trivial, ?_⟩; gi_at_call 117; refine (callsIn_wide.2 haf2).mono ?_; rintro e w1 ⟨a', c', rfl, hS, hblk, hb1⟩; have htb1 := (hb1.cell (p := ⟨tb, 0, none⟩) (cell_spot htb).2).trans htb; have HS := Lib.hid hS; have HBL := Lib.hid hblk; have HJ1 := Lib.hid (HJ.out 0 _ _ H0.out hb1); have HZ := Lib.hid hb1.size; clear hS hblk hb1)
  clear hfb hab htb haf2
  gi_loopw [5, 15] (fun s t wr => ∃ (q k : Nat), s = .int .i64 (atJ T x i q) ∧ t = .int .i64 (q : Int) ∧ q ≤ m ∧ k ≤ rows.length ∧ rows.drop k = freeG F T y (m - q) (i + q) (atJ T x i q) ∧ J k wr ∧ Sps wr a' m (sh F i) (sh T i) ∧ wr.cell? ⟨tb, 0, none⟩ = some (.int .i64 y) ∧ W.heap.size ≤ wr.heap.size) (fun _ t _ => m - (intOf t).toNat)
  case atStart => exact ⟨0, 0, rfl, rfl, Nat.zero_le _, Nat.zero_le _, HFL.out, HJ1.out, HS.out, htb1, HZ.out⟩
  case round =>
    clear htb1
    obtain ⟨q, k, rfl, rfl, hqm, hk, hd, hj, hS, ht, hz⟩ := hrel
    obtain ⟨z, hze⟩ : ∃ z, atJ T x i q = z := ⟨_, rfl⟩
    rw [hze] at hd ⊢
    have HJK := Lib.hid hj
    have HSK := Lib.hid hS
    by_cases hlt : q < m
    · obtain ⟨r, hr⟩ : ∃ r, m - q = r + 1 := ⟨m - q - 1, by omega⟩
      have hd0 := hd
      rw [hr] at hd
      obtain ⟨rb, ro, rfl, hrb, hc⟩ := hS.2 (by omega)
      obtain ⟨c0, c1, b0, b1, b2, b3⟩ := hc q hlt
      have hf0 : sh F i q = F (i + q) := rfl
      have hu0 : sh T i q = T (i + q) := rfl
      have hat : atJ T x i (q + 1) = T (i + q) := rfl
      simp only [freeG] at hd
      obtain ⟨f, hf⟩ : ∃ f, F (i + q) = f := ⟨_, rfl⟩
      obtain ⟨u, hu⟩ : ∃ f, T (i + q) = f := ⟨_, rfl⟩
      rw [hf0, hf] at c0 b0 b1
      rw [hu0, hu] at c1 b2 b3
      rw [hf, hu] at hd
      rw [hu] at hat
      have HAT := Lib.hid hat
      have hm1 : m - (q + 1) = r := by omega
      have q0 : (0 : Int) ≤ (q : Int) := by omega
      have ql : (q : Int) < (m : Int) := by omega
      have qd : decide ((q : Int) < (m : Int)) = true := decide_eq_true ql
      clear hf0 hu0 hf hu hat hc hS hj hd0 hr hze
      by_cases hg : z < min y f
      · have hgap : gap z (min y f) = [(z, min y f)] := if_pos hg
        rw [hgap] at hd
        have hget : rows[k]? = some (z, min y f) := by
          have : (rows.drop k)[0]? = some (z, min y f) := by rw [hd]; rfl
          rwa [List.getElem?_drop, Nat.add_zero] at this
        have hd1 : rows.drop (k + 1) = freeG F T y r (i + q + 1) u := by rw [← List.drop_drop, hd]; rfl
        have hk1 : k + 1 ≤ rows.length := (List.getElem?_eq_some_iff.1 hget).1
        have HD := Lib.hid hd1
        have HGT := Lib.hid hget
        have hnq := neq_gap z (min y f) hg
        have HBT := Lib.hid (fun w => betw_yes z (min y f) w hg)
        have htA : (wr.alloc (.cells #[.int .i64 f, .int .i64 u] 101)).cell? ⟨tb, 0, none⟩ = some (.int .i64 y) := (World.cell?_alloc_past _ _ _ (cell_spot ht).2).trans ht
        have huA : (wr.alloc (.cells #[.int .i64 f, .int .i64 u] 101)).cell? ⟨wr.heap.size, 1, none⟩ = some (.int .i64 u) := by simp
        have hbA : Below wr.heap.size wr (wr.alloc (.cells #[.int .i64 f, .int .i64 u] 101)) := (Below.refl _ _).alloc (Nat.le_refl _) _
        have hzA : wr.heap.size < (wr.alloc (.cells #[.int .i64 f, .int .i64 u] 101)).heap.size := by simp
        have HBA := Lib.hid hbA
        have HUA := Lib.hid huA
        have HZA := Lib.hid hzA
        clear hd hd1 hget hgap huA hbA hzA
        gi_wp2_with (refine ⟨trivial, ?_⟩; gi_at_call 118; refine (callsIn_wide.2 (HBT.out _)).mono ?_; rintro e w2 ⟨rfl, hb2⟩; have HB2 := Lib.hid (HBA.out.trans (hb2.mono HBA.out.size)); have HU2 := Lib.hid ((hb2.cell (p := ⟨wr.heap.size, 1, none⟩) HZA.out).trans HUA.out); have HZ2 := Lib.hid (Nat.lt_of_lt_of_le HZA.out hb2.size); have HT2 := Lib.hid ((hb2.cell (p := ⟨tb, 0, none⟩) (cell_spot htA).2).trans htA); clear hb2)
        have hB4 : Below wr.heap.size wr (w2.alloc (.cells #[.int .i64 z, .int .i64 (min y f)] 101)) := HB2.out.alloc HB2.out.size _
        have hU4 : (w2.alloc (.cells #[.int .i64 z, .int .i64 (min y f)] 101)).cell? ⟨wr.heap.size, 1, none⟩ = some (.int .i64 u) := (World.cell?_alloc_past _ _ _ HZ2.out).trans HU2.out
        have hZ4 : wr.heap.size < (w2.alloc (.cells #[.int .i64 z, .int .i64 (min y f)] 101)).heap.size := by rw [World.size_alloc]; have := HZ2.out; omega
        have hT4 : (w2.alloc (.cells #[.int .i64 z, .int .i64 (min y f)] 101)).cell? ⟨tb, 0, none⟩ = some (.int .i64 y) := (World.cell?_alloc_past _ _ _ (cell_spot HT2.out).2).trans HT2.out
        generalize (w2.alloc (.cells #[.int .i64 z, .int .i64 (min y f)] 101)) = W4 at *
        obtain ⟨fn, tmps, assign, body', hy, hRd⟩ := HY.out k z (min y f) wr W4 HGT.out HJK.out hB4
        have HB4 := Lib.hid hB4
        have HU4 := Lib.hid hU4
        have HT4 := Lib.hid hT4
        have HZ4 := Lib.hid hZ4
        clear hB4 hU4 hT4 hZ4 htA ht
        rw [hy]
        gi_wp2
        refine hRd.mono ?_
        rintro e W3 ⟨b, rfl, hyes, hno⟩
        clear hy hRd
        cases b
        · have hjs := Lib.hid (hno rfl)
          clear hyes hno
          gi_wp2
          refine bodyPost_ret (results_none rfl _ _ _) rfl ⟨⟨_, rfl⟩, .inr hjs.out⟩
        · obtain ⟨hJ3, hk3⟩ := hyes rfl
          have hnx : ¬ Turns P wr wr.heap.size := fun h => by have := h.2; omega
          have hu3 : W3.cell? ⟨wr.heap.size, 1, none⟩ = some (.int .i64 u) := (hk3.cell (p := ⟨wr.heap.size, 1, none⟩) HZ4.out hnx).trans HU4.out
          have hK : Kept (Turns P wr) wr W3 := (Kept.below HB4.out).trans hk3
          have HS3 := Lib.hid (HSK.out.keptX hK fun z' h1 h2 h3 => h3.1 (HBL.out z' (by omega) h2))
          have HT3 := Lib.hid ((hk3.cell (p := ⟨tb, 0, none⟩) (cell_spot HT4.out).2 (fun h => h.1 HX.out)).trans HT4.out)
          have HJ3 := Lib.hid hJ3
          have HZ3 := Lib.hid (Nat.le_trans hz hK.size)
          clear hyes hno hJ3 hk3 hK hnx
          gi_wp2
          go_roundw
          case rel => exact ⟨q + 1, k + 1, by rw [HAT.out], by go_num, by omega, hk1, by rw [hm1, ← Nat.add_assoc, HAT.out]; exact HD.out, HJ3.out, HS3.out, HT3.out, HZ3.out⟩
          case measure => simp [intOf]; omega
      · have hgap : gap z (min y f) = [] := if_neg hg
        rw [hgap, List.nil_append] at hd
        have HD := Lib.hid hd
        have hnq := neq_zero
        have HBT := Lib.hid (fun w => betw_no z (min y f) w hg)
        have htA : (wr.alloc (.cells #[.int .i64 f, .int .i64 u] 101)).cell? ⟨tb, 0, none⟩ = some (.int .i64 y) := (World.cell?_alloc_past _ _ _ (cell_spot ht).2).trans ht
        have huA : (wr.alloc (.cells #[.int .i64 f, .int .i64 u] 101)).cell? ⟨wr.heap.size, 1, none⟩ = some (.int .i64 u) := by simp
        have hbA : Below wr.heap.size wr (wr.alloc (.cells #[.int .i64 f, .int .i64 u] 101)) := (Below.refl _ _).alloc (Nat.le_refl _) _
        have hzA : wr.heap.size < (wr.alloc (.cells #[.int .i64 f, .int .i64 u] 101)).heap.size := by simp
        have HBA := Lib.hid hbA
        have HUA := Lib.hid huA
        have HZA := Lib.hid hzA
        clear hd hgap huA hbA hzA
        gi_wp2_with (refine ⟨trivial, ?_⟩; gi_at_call 118; refine (callsIn_wide.2 (HBT.out _)).mono ?_; rintro e w2 ⟨rfl, hb2⟩; have HB2 := Lib.hid (HBA.out.trans (hb2.mono HBA.out.size)); have hu2 := (hb2.cell (p := ⟨wr.heap.size, 1, none⟩) HZA.out).trans HUA.out; have HZ2 := Lib.hid (Nat.lt_of_lt_of_le HZA.out hb2.size); have hu4 : (w2.alloc (.cells #[.int .i64 0, .int .i64 0] 101)).cell? ⟨wr.heap.size, 1, none⟩ = some (.int .i64 u) := (World.cell?_alloc_past _ _ _ HZ2.out).trans hu2; clear hb2 hu2)
        have hB4 : Below wr.heap.size wr (w2.alloc (.cells #[.int .i64 0, .int .i64 0] 101)) := HB2.out.alloc HB2.out.size _
        have HB4 := Lib.hid hB4
        clear hB4
        refine ⟨fun _ h => (by cases h), ?_⟩
        gi_wp2
        go_roundw
        case rel => exact ⟨q + 1, k, by rw [HAT.out], by go_num, by omega, hk, by rw [hm1, ← Nat.add_assoc, HAT.out]; exact HD.out, HJ.out _ _ _ HJK.out HB4.out, HSK.out.kept HB4.out, (HB4.out.cell (p := ⟨tb, 0, none⟩) (cell_spot ht).2).trans ht, Nat.le_trans hz HB4.out.size⟩
        case measure => simp [intOf]; omega
    · obtain rfl : q = m := by omega
      rw [Nat.sub_self] at hd
      simp only [freeG] at hd
      have qd : decide ((q : Int) < (q : Int)) = false := decide_eq_false (by omega)
      obtain ⟨sa, sc, hsv⟩ : ∃ sa sc, a' = sa ∧ c' = sc := ⟨_, _, rfl, rfl⟩
      clear hS hj hze
      by_cases hg : z < y
      · have hgap : gap z y = [(z, y)] := if_pos hg
        rw [hgap] at hd
        have hget : rows[k]? = some (z, y) := by
          have : (rows.drop k)[0]? = some (z, y) := by rw [hd]; rfl
          rwa [List.getElem?_drop, Nat.add_zero] at this
        have hd1 : k + 1 = rows.length := by
          have : (rows.drop k).length = 1 := by rw [hd]; rfl
          rw [List.length_drop] at this; omega
        have HGT := Lib.hid hget
        have HD := Lib.hid hd1
        have hnq := neq_gap z y hg
        have HBT := Lib.hid (fun w => betw_yes z y w hg)
        have HZR : Hid (wr.heap.size ≤ wr.heap.size) := Lib.hid (Nat.le_refl _)
        clear hd hget hgap hd1
        gi_wp2_with (refine ⟨trivial, ?_⟩; gi_at_call 118; refine (callsIn_wide.2 (HBT.out _)).mono ?_; rintro e w2 ⟨rfl, hb2⟩; have HB2 := Lib.hid hb2; clear hb2)
        have hB4 : Below wr.heap.size wr (w2.alloc (.cells #[.int .i64 z, .int .i64 y] 101)) := HB2.out.alloc HB2.out.size _
        generalize (w2.alloc (.cells #[.int .i64 z, .int .i64 y] 101)) = W4 at *
        obtain ⟨fn, tmps, assign, body', hy, hRd⟩ := HY.out k z y wr W4 HGT.out HJK.out hB4
        clear hB4
        rw [hy]
        gi_wp2
        refine hRd.mono ?_
        rintro e W3 ⟨b, rfl, hyes, hno⟩
        have HYN : Hid (J rows.length W3 ∨ Js W3) := Lib.hid (by
          cases b
          · exact .inr (hno rfl)
          · exact .inl (by rw [← HD.out]; exact (hyes rfl).1))
        clear hy hRd hyes hno
        gi_wp2
        refine bodyPost_end (results_none rfl _ _ _) rfl ⟨⟨_, rfl⟩, HYN.out⟩
      · have hgap : gap z y = [] := if_neg hg
        rw [hgap] at hd
        have hd1 : k = rows.length := by
          have : (rows.drop k).length = 0 := by rw [hd]; rfl
          rw [List.length_drop] at this; omega
        have HD := Lib.hid hd1
        have hnq := neq_zero
        have HBT := Lib.hid (fun w => betw_no z y w hg)
        clear hd hgap hd1
        gi_wp2_with (refine ⟨trivial, ?_⟩; gi_at_call 118; refine (callsIn_wide.2 (HBT.out _)).mono ?_; rintro e w2 ⟨rfl, hb2⟩; have HB2 := Lib.hid hb2; clear hb2)
        have hB4 : Below wr.heap.size wr (w2.alloc (.cells #[.int .i64 0, .int .i64 0] 101)) := HB2.out.alloc HB2.out.size _
        have HB4 := Lib.hid hB4
        clear hB4
        refine bodyPost_end (results_none rfl _ _ _) rfl ⟨⟨_, rfl⟩, .inl (by rw [← HD.out]; exact HJ.out _ _ _ HJK.out HB4.out)⟩
theorem free1_enters : ∀ args w, (callFunc 116 args).run Tryz.prog w = .ok (.enter 116 args) w := enters_of Tryz.func116 (by kernel_rfl) rfl
/-- The enumeration of what is free, over whatever loop. -/
theorem free_handing (P : Nat → Prop) {p a : Option Addr} {n c : Nat} {F T : Nat → Int} (fb ab tb : Nat) (x y : Int) (w : World) (hal : Alm p a n c F T w) (hfb : w.cell? ⟨fb, 0, none⟩ = some (.int .i64 x)) (hab : w.cell? ⟨ab, 0, none⟩ = some (.pointer p)) (htb : w.cell? ⟨tb, 0, none⟩ = some (.int .i64 y))
    (hX : P tb) (hXr : ∀ z, 0 < n → a = some z → P z.block) :
    Handing 116 #[.pointer (some ⟨fb, 0, none⟩), .pointer (some ⟨ab, 0, none⟩), .pointer (some ⟨tb, 0, none⟩)] (freeL F T n x y) P w := by
  intro J Js hJ hJs l W hl hB hY h0
  have htl := (cell_spot htb).2
  exact free1_in l P fb ab tb x y J Js hJ hY W (hal.kept hB) ((hB.cell (p := ⟨fb, 0, none⟩) (cell_spot hfb).2).trans hfb) ((hB.cell (p := ⟨ab, 0, none⟩) (cell_spot hab).2).trans hab) ((hB.cell (p := ⟨tb, 0, none⟩) htl).trans htb) hX hXr h0

/-- What Free hands back: the function, over boxes of its own. -/
def Freed (p : Option Addr) (x y : Int) (w : World) (e : Ending) (w' : World) : Prop :=
  ∃ fb ab tb, e = .returned (.func (.func 116) #[] #[.pointer (some ⟨fb, 0, none⟩), .pointer (some ⟨ab, 0, none⟩), .pointer (some ⟨tb, 0, none⟩)]) ∧
    w'.cell? ⟨fb, 0, none⟩ = some (.int .i64 x) ∧ w'.cell? ⟨ab, 0, none⟩ = some (.pointer p) ∧ w'.cell? ⟨tb, 0, none⟩ = some (.int .i64 y) ∧ w.heap.size ≤ fb ∧ w.heap.size ≤ ab ∧ w.heap.size ≤ tb ∧ Below w.heap.size w w'
set_option maxRecDepth 100000 in
set_option maxHeartbeats 4000000 in
theorem freed_any (p : Option Addr) (x y : Int) (w : World) : Calls Tryz.prog 93 #[.pointer p, .int .i64 x, .int .i64 y] w (Freed p (max x 0) (min y 1125899906842624) w) := by
  have hmf : ∀ (fn : Fn) (first cap : Array Value) (w : World), (Instr.makeFunc fn first cap).run Tryz.prog w = .ok (.func fn first cap) w := fun _ _ _ _ => rfl
  go_enter Tryz.func93, Tryz.ntmps93
  go_wp2
  go_region
  go_wp2
  go_ret
  refine ⟨_, _, _, rfl, ?_, ?_, ?_, by omega, Nat.le_refl _, by omega, ?_⟩
  · show (((w.alloc _).alloc _).alloc _).cell? _ = _
    rw [World.cell?_alloc_past _ _ _ (by simp)]
    simp
  · show (((w.alloc _).alloc _).alloc _).cell? _ = _
    rw [World.cell?_alloc_past _ _ _ (by simp; omega), World.cell?_alloc_past _ _ _ (by simp)]
    simp
  · show (((w.alloc _).alloc _).alloc _).cell? _ = _
    rw [World.cell?_alloc_at _ _ _ _ (by simp)]
    rfl
  · exact ((((Below.refl _ _).alloc (Nat.le_refl _) _).alloc (by simp) _).alloc (by simp; omega) _).drew
/- The law's list of what is free. -/
open Go.RowKit Go.Shelf
attribute [local go_sem] Oper.semAt_some

theorem OS.kept_set {w : World} {base b : Nat} {v : Value} {l : List (Int × Int)} (h : OS w base v l) (hne : ∀ g, v.ownBlock = some g → g ≠ b) (u : Value) : OS (w.setCell ⟨b, 0, none⟩ u) base v l := by
  obtain ⟨h1, h2⟩ := h
  refine ⟨h1, ?_⟩
  rcases h2 with h2 | ⟨g, cap, cur, hv, hg, hh, r⟩
  · exact .inl h2
  · exact .inr ⟨g, cap, cur, hv, hg, (Below.heap_setCell _ _ _ _ (hne g (by rw [hv]; rfl))).trans hh, r⟩
theorem seq_nil (fb ab tb : Nat) (w : World) : (binOp .eql 154 (.func (.func 116) #[] #[.pointer (some ⟨fb, 0, none⟩), .pointer (some ⟨ab, 0, none⟩), .pointer (some ⟨tb, 0, none⟩)]) .nilFunc).run Tryz.prog w = .ok (.bool false) w := by
  kernel_rfl
/-- append(s, one span), under a fence. -/
theorem append_spanIn {Fn : Fence} {n : Nat} {w : World} {ops : Array Oper} {rest : List Oper} {o : Oper} {a : Act} {Q : Exit → Act → World → Prop} (hgd : o.guard = none) (s x : Operand)
    (ho : o.op = .call { callee := .builtin .append, args := #[s, x], argTypes := #[22, 22] })
    (base : Nat) (v : Value) (l : List (Int × Int)) (f t : Int) (ad : Addr) (c : Nat) (hs : a.eval s = v) (hx : a.eval x = .slice (some ad) 1 c) (hown : OS w base v l)
    (hc : ∀ j u, [Value.int .i64 f, .int .i64 t][j]? = some u → w.cell? (ad.add j) = some u)
    (hlen : l.length ≤ 100000) (hbase : base ≤ w.heap.size)
    (h : ∀ v' w', OS w' base v' (l ++ [(f, t)]) → w.grownBy w' v.ownBlock → wpListIn Fn n Tryz.prog ops Q rest (a.put o.dst v') w') : wpListIn Fn n Tryz.prog ops Q (o :: rest) a w := by
  obtain ⟨i0, hi, hz0, hz1, hz2⟩ := info_parts spans_info
  refine wpListIn_append_own w hgd s x 22 ho base 101 i0 (.agg #[.int .i64 0, .int .i64 0]) 2 16 Tryz.underlying22 hi hz0 hz1 hz2 rfl (by decide) v l.length (spc l) hs hown ad 1 c [.int .i64 f, .int .i64 t] hx rfl hc
    (by intro u hu; simp only [List.mem_cons, List.not_mem_nil, or_false] at hu; rcases hu with rfl | rfl <;> rfl) (by unfold maxLen; omega) (by omega) hbase ?_
  intro v' w' h1 h2 _
  exact h v' w' (by unfold OS; rw [List.length_append, spc_append]; exact h1) h2

/-- What the law's list of what is free is. -/
def Listed (l : List (Int × Int)) (w : World) (e : Ending) (w' : World) : Prop := ∃ v, e = .returned (.tuple #[v, .bool true]) ∧ OS w' w.heap.size v l ∧ Below w.heap.size w w'
/- Bounds of what is free; rows compared; the example of layer 9; the reference's Next. -/
open Go.RowKit

theorem freeG_mem (F T : Nat → Int) (x y : Int) : ∀ m i at_, x ≤ at_ → (∀ j, i ≤ j → j < i + m → x ≤ T j) → ∀ s ∈ freeG F T y m i at_, x ≤ s.1 ∧ s.1 < s.2 ∧ s.2 ≤ y := by
  intro m
  induction m with
  | zero =>
    intro i a ha _ s hs
    simp only [freeG, gap] at hs
    split at hs
    · simp only [List.mem_singleton] at hs
      subst hs
      exact ⟨ha, by assumption, Int.le_refl _⟩
    · cases hs
  | succ m ih =>
    intro i a ha hT s hs
    simp only [freeG, List.mem_append, gap] at hs
    rcases hs with hs | hs
    · split at hs
      · simp only [List.mem_singleton] at hs
        subst hs
        exact ⟨ha, by assumption, by show min y (F i) ≤ y; omega⟩
      · cases hs
    · exact ih (i + 1) (T i) (hT i (Nat.le_refl _) (by omega)) (fun j h1 h2 => hT j (by omega) (by omega)) s hs
theorem freeL_mem {F T : Nat → Int} {n : Nat} (x y : Int) : ∀ s ∈ freeL F T n x y, x ≤ s.1 ∧ s.1 < s.2 ∧ s.2 ≤ y := by
  have h1 := idx_le T x n
  exact freeG_mem F T x y _ _ x (Int.le_refl _) fun j h2 h3 => by
    have := idx_hi (t := x) n j h2 (by omega)
    omega
/-- Spans whose ends fit. -/
def Fits (l : List (Int × Int)) : Prop := ∀ s ∈ l, -9223372036854775808 ≤ s.1 ∧ s.1 ≤ 9223372036854775807 ∧ -9223372036854775808 ≤ s.2 ∧ s.2 ≤ 9223372036854775807
theorem free_fits (F T : Nat → Int) (n : Nat) (x y : Int) : Fits (freeL F T n (max x 0) (min y 1125899906842624)) := fun s hs => by
  have := freeL_mem _ _ s hs
  omega
theorem sps_fits {w : World} {a : Option Addr} {n : Nat} {F T : Nat → Int} (h : Sps w a n F T) : Fits (pairs F T n) := by
  intro s hs
  obtain ⟨k, hk, rfl⟩ := pairs_mem.1 hs
  obtain ⟨_, _, _, _, _, _, b⟩ := h.at (Below.refl _ _) k hk
  exact b
theorem sameB_refl (F T : Nat → Int) : ∀ n, sameB F T F T n = true := fun n => sameB_iff.2 fun k hk => ⟨rfl, rfl⟩
/-- A row of one's own against a row that has the same spans. -/
theorem rsame_row {w : World} {base : Nat} {v : Value} {a : Option Addr} {n cap : Nat} {F T : Nat → Int} (h : OS w base v (pairs F T n)) (hS : Sps w a n F T) :
    Calls Tryz.prog 49 #[v, .slice a n cap] w fun e w' => e = .returned (.bool true) ∧ ∃ q, w' = w.drewN q := by
  obtain ⟨va, vc, rfl, _, _⟩ := h.shape
  have h1 := (h.sps (sps_fits hS)).2
  rw [pairs_len] at h1 ⊢
  have h2 := rsame_any va a n vc n cap _ _ F T w h1 hS
  have e : sameL (fr (pairs F T n)) (til (pairs F T n)) F T n n = true := by
    simp only [sameL, decide_true, Bool.true_and]
    exact sameB_iff.2 fun k hk => pairs_at F T n k hk
  rw [e] at h2
  exact h2
/-- Two rows of one's own with the same spans. -/
theorem rsame_own {w : World} {base base' : Nat} {v v' : Value} {l : List (Int × Int)} (h : OS w base v l) (h' : OS w base' v' l) (hl : Fits l) :
    Calls Tryz.prog 49 #[v, v'] w fun e w' => e = .returned (.bool true) ∧ ∃ q, w' = w.drewN q := by
  obtain ⟨va, vc, rfl, _, _⟩ := h.shape
  obtain ⟨va', vc', rfl, _, _⟩ := h'.shape
  have h2 := rsame_any va va' l.length vc l.length vc' _ _ _ _ w (h.sps hl).2 (h'.sps hl).2
  have e : sameL (fr l) (til l) (fr l) (til l) l.length l.length = true := by
    simp only [sameL, decide_true, Bool.true_and]
    exact sameB_refl _ _ _
  rw [e] at h2
  exact h2

theorem lit_two (w : World) (a b c d : Int) (h : -9223372036854775808 ≤ a ∧ a ≤ 9223372036854775807 ∧ -9223372036854775808 ≤ b ∧ b ≤ 9223372036854775807 ∧ -9223372036854775808 ≤ c ∧ c ≤ 9223372036854775807 ∧ -9223372036854775808 ≤ d ∧ d ≤ 9223372036854775807) :
    Sps (w.alloc (.cells #[.int .i64 a, .int .i64 b, .int .i64 c, .int .i64 d] 101)) (some ⟨w.heap.size, 0, none⟩) 2 (fr [(a, b), (c, d)]) (til [(a, b), (c, d)]) := by
  refine ⟨by unfold maxLen; omega, fun _ => ⟨w.heap.size, 0, rfl, by simp, fun k hk => ?_⟩⟩
  rcases (by omega : k = 0 ∨ k = 1) with rfl | rfl
  · refine ⟨by simp [fr], by simp [til], ?_⟩
    simp only [fr, til, List.getD_eq_getElem?_getD, List.getElem?_cons_zero, Option.getD_some]
    omega
  · refine ⟨by simp [fr], by simp [til], ?_⟩
    simp only [fr, til, List.getD_eq_getElem?_getD, List.getElem?_cons_succ, List.getElem?_cons_zero, Option.getD_some]
    omega
theorem lit_one (w : World) (a b : Int) (h : -9223372036854775808 ≤ a ∧ a ≤ 9223372036854775807 ∧ -9223372036854775808 ≤ b ∧ b ≤ 9223372036854775807) :
    Sps (w.alloc (.cells #[.int .i64 a, .int .i64 b] 101)) (some ⟨w.heap.size, 0, none⟩) 1 (fr [(a, b)]) (til [(a, b)]) := by
  refine ⟨by unfold maxLen; omega, fun _ => ⟨w.heap.size, 0, rfl, by simp, fun k hk => ?_⟩⟩
  obtain rfl : k = 0 := by omega
  refine ⟨by simp [fr], by simp [til], ?_⟩
  simp only [fr, til, List.getD_eq_getElem?_getD, List.getElem?_cons_zero, Option.getD_some]
  omega
theorem pairs_lit2 (x y : Int × Int) : pairs (fr [x, y]) (til [x, y]) 2 = [x, y] := by
  simp [pairs, List.range_succ, fr, til]

end Go.Proofs.YtibjboacjobaoaaGreat

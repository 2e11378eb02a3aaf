/- Free: the function that hands out what is not closed. -/
import Derived.Test.YtfeegohjgecjgaaAmC
import Derived.Outline
namespace Go.Proofs.Ytfeegohjgecjgaa
open Go.RowKit Go.Shelf
attribute [local go_sem] Oper.semAt_some

def gap (x y : Int) : List (Int × Int) := if x < y then [(x, y)] else []
/-- What is free from at up to to, the spans from the i-th on being closed, m of them. -/
def freeG (F T : Nat → Int) (to : Int) : Nat → Nat → Int → List (Int × Int)
  | 0, _, at_ => gap at_ to
  | m + 1, i, at_ => gap at_ (min to (F i)) ++ freeG F T to m (i + 1) (T i)
theorem gap_len (x y : Int) : (gap x y).length ≤ 1 := by unfold gap; split <;> simp
theorem freeG_len (F T : Nat → Int) (to : Int) : ∀ m i at_, (freeG F T to m i at_).length ≤ m + 1 := by
  intro m
  induction m with
  | zero => intro i a; exact gap_len _ _
  | succ m ih =>
    intro i a
    have := ih (i + 1) (T i)
    have := gap_len a (min to (F i))
    simp only [freeG, List.length_append]; omega
/-- The free spans of a range. -/
def freeL (F T : Nat → Int) (n : Nat) (x y : Int) : List (Int × Int) := freeG F T y (n - idx T x n) (idx T x n) x
theorem freeL_len (F T : Nat → Int) (n : Nat) (x y : Int) (hn : n ≤ 32) : (freeL F T n x y).length ≤ 33 := by
  have := freeG_len F T y (n - idx T x n) (idx T x n) x
  unfold freeL; omega
/-- Where the loop stands: behind the j-th of the spans from the i-th on. -/
def atJ (T : Nat → Int) (x : Int) (i : Nat) : Nat → Int
  | 0 => x
  | j + 1 => T (i + j)
theorem neq_gap (f t : Int) (h : f < t) (w : World) : (binOp .neq 30 (.agg #[.int .i64 f, .int .i64 t]) (.agg #[.int .i64 0, .int .i64 0])).run Try.prog w = .ok (.bool true) w := by
  rw [neq_span]
  have : (f == 0 && t == 0) = false := by
    cases h1 : f == 0 <;> cases h2 : t == 0 <;> simp_all
  rw [this]; rfl
theorem neq_zero (w : World) : (binOp .neq 30 (.agg #[.int .i64 0, .int .i64 0]) (.agg #[.int .i64 0, .int .i64 0])).run Try.prog w = .ok (.bool false) w := by
  rw [neq_span]; rfl

theorem betw_yes (x y : Int) (w : World) (h : x < y) : Calls Try.prog 54 #[.int .i64 x, .int .i64 y] w fun e w' => e = .returned (.agg #[.int .i64 x, .int .i64 y]) ∧ Below w.heap.size w w' :=
  (between_span x y w).mono (by
    rintro e w' ⟨u, v, rfl, rfl, rfl, hb⟩
    exact ⟨by rw [show gapF x y = x from if_neg (by omega), show gapT x y = y from if_neg (by omega)], hb⟩)
theorem betw_no (x y : Int) (w : World) (h : ¬ x < y) : Calls Try.prog 54 #[.int .i64 x, .int .i64 y] w fun e w' => e = .returned (.agg #[.int .i64 0, .int .i64 0]) ∧ Below w.heap.size w w' :=
  (between_span x y w).mono (by
    rintro e w' ⟨u, v, rfl, rfl, rfl, hb⟩
    exact ⟨by rw [show gapF x y = 0 from if_pos (by omega), show gapT x y = 0 from if_pos (by omega)], hb⟩)
set_option maxRecDepth 100000 in
set_option maxHeartbeats 4000000 in
theorem free1_in (l : Nat) (P : Nat → Prop) {p a : Option Addr} {n c : Nat} {F T : Nat → Int} (fb ab tb : Nat) (x y : Int) (J : Nat → World → Prop) (Js : World → Prop) (hJ : ∀ k V V', J k V → Below V.heap.size V V' → J k V')
    (hY : Yielding l P (freeL F T n x y) J Js) (W : World) (hal : Alm p a n c F T W) (hfb : W.cell? ⟨fb, 0, none⟩ = some (.int .i64 x)) (hab : W.cell? ⟨ab, 0, none⟩ = some (.pointer p)) (htb : W.cell? ⟨tb, 0, none⟩ = some (.int .i64 y))
    (hX : P tb) (hXr : ∀ z, 0 < n → a = some z → P z.block) (h0 : J 0 W) :
    CallsIn Fence.wide 2 Try.prog 76 #[.func (.yield l) #[] #[], .pointer (some ⟨fb, 0, none⟩), .pointer (some ⟨ab, 0, none⟩), .pointer (some ⟨tb, 0, none⟩)] W fun e W' => (∃ v, e = .returned v) ∧ (J (freeL F T n x y).length W' ∨ Js W') := by
  have haf := after_any x hal
  have hidx := idx_le T x n
  have hlen := hal.len
  have HG := Lib.hid hal.good
  have hfl : freeL F T n x y = freeG F T y (n - idx T x n) (idx T x n) x := rfl
  have hql : (freeL F T n x y).length ≤ 33 := freeL_len F T n x y hlen
  obtain ⟨rows, hrows⟩ : ∃ r, freeL F T n x y = r := ⟨_, rfl⟩
  rw [hrows] at hY hfl hql ⊢
  obtain ⟨i, hi⟩ : ∃ i, idx T x n = i := ⟨_, rfl⟩
  rw [hi] at haf hidx hfl
  obtain ⟨m, hm⟩ : ∃ m, n - i = m := ⟨_, rfl⟩
  have haf2 : Calls Try.prog 50 #[.pointer p, .int .i64 x] W (fun e w' => ∃ a' c', e = .returned (.slice a' m c') ∧ Sps w' a' m (sh F i) (sh T i) ∧ (∀ z, 0 < m → a' = some z → P z.block) ∧ Below W.heap.size W w') := haf.mono (by
    rintro e w' ⟨a', c', rfl, _, hS, hbl, hb⟩
    rw [hm] at hS hbl ⊢
    refine ⟨a', c', rfl, hS, fun z hz hz2 => ?_, hb⟩
    obtain ⟨z2, hz3, hz4⟩ := hbl z hz hz2
    exact hz4 ▸ hXr z2 (by omega) hz3)
  rw [hm] at hfl
  have HFL := Lib.hid hfl
  have HJ := Lib.hid hJ
  have HY := Lib.hid hY
  have H0 := Lib.hid h0
  have HX := Lib.hid hX
  have hq := guard_span
  clear haf hal hfl hJ hY h0 hrows hi hXr hX
  refine callsIn_of_wp Try.func76 rfl trivial ?_
  simp only [Try.ntmps76, List.size_toArray, List.length_cons, List.length_nil, Nat.reduceAdd, Nat.reduceSub, Array.replicate_succ, Array.replicate_zero, List.push_toArray, List.append_toArray, List.nil_append, List.cons_append]
  gi_wp2_with (refine ⟨trivial, ?_⟩; gi_at_call 50; refine (callsIn_wide.2 haf2).mono ?_; rintro e w1 ⟨a', c', rfl, hS, hblk, hb1⟩; have htb1 := (hb1.cell (p := ⟨tb, 0, none⟩) (cell_spot htb).2).trans htb; have HS := Lib.hid hS; have HBL := Lib.hid hblk; have HJ1 := Lib.hid (HJ.out 0 _ _ H0.out hb1); have HZ := Lib.hid hb1.size; clear hS hblk hb1)
  clear hfb hab htb haf2
  gi_loopw [5, 15] (fun s t wr => ∃ (q k : Nat), s = .int .i64 (atJ T x i q) ∧ t = .int .i64 (q : Int) ∧ q ≤ m ∧ k ≤ rows.length ∧ rows.drop k = freeG F T y (m - q) (i + q) (atJ T x i q) ∧ J k wr ∧ Sps wr a' m (sh F i) (sh T i) ∧ wr.cell? ⟨tb, 0, none⟩ = some (.int .i64 y) ∧ W.heap.size ≤ wr.heap.size) (fun _ t _ => m - (intOf t).toNat)
  case atStart => exact ⟨0, 0, rfl, rfl, Nat.zero_le _, Nat.zero_le _, HFL.out, HJ1.out, HS.out, htb1, HZ.out⟩
  case round =>
    clear htb1
    obtain ⟨q, k, rfl, rfl, hqm, hk, hd, hj, hS, ht, hz⟩ := hrel
    obtain ⟨z, hze⟩ : ∃ z, atJ T x i q = z := ⟨_, rfl⟩
    rw [hze] at hd ⊢
    have HJK := Lib.hid hj
    have HSK := Lib.hid hS
    by_cases hlt : q < m
    · obtain ⟨r, hr⟩ : ∃ r, m - q = r + 1 := ⟨m - q - 1, by omega⟩
      have hd0 := hd
      rw [hr] at hd
      obtain ⟨rb, ro, rfl, hrb, hc⟩ := hS.2 (by omega)
      obtain ⟨c0, c1, b0, b1, b2, b3⟩ := hc q hlt
      have hf0 : sh F i q = F (i + q) := rfl
      have hu0 : sh T i q = T (i + q) := rfl
      have hat : atJ T x i (q + 1) = T (i + q) := rfl
      simp only [freeG] at hd
      obtain ⟨f, hf⟩ : ∃ f, F (i + q) = f := ⟨_, rfl⟩
      obtain ⟨u, hu⟩ : ∃ f, T (i + q) = f := ⟨_, rfl⟩
      rw [hf0, hf] at c0 b0 b1
      rw [hu0, hu] at c1 b2 b3
      rw [hf, hu] at hd
      rw [hu] at hat
      have HAT := Lib.hid hat
      have hm1 : m - (q + 1) = r := by omega
      have q0 : (0 : Int) ≤ (q : Int) := by omega
      have ql : (q : Int) < (m : Int) := by omega
      have qd : decide ((q : Int) < (m : Int)) = true := decide_eq_true ql
      clear hf0 hu0 hf hu hat hc hS hj hd0 hr hze
      by_cases hg : z < min y f
      · have hgap : gap z (min y f) = [(z, min y f)] := if_pos hg
        rw [hgap] at hd
        have hget : rows[k]? = some (z, min y f) := by
          have : (rows.drop k)[0]? = some (z, min y f) := by rw [hd]; rfl
          rwa [List.getElem?_drop, Nat.add_zero] at this
        have hd1 : rows.drop (k + 1) = freeG F T y r (i + q + 1) u := by rw [← List.drop_drop, hd]; rfl
        have hk1 : k + 1 ≤ rows.length := (List.getElem?_eq_some_iff.1 hget).1
        have HD := Lib.hid hd1
        have HGT := Lib.hid hget
        have hnq := neq_gap z (min y f) hg
        have HBT := Lib.hid (fun w => betw_yes z (min y f) w hg)
        have htA : (wr.alloc (.cells #[.int .i64 f, .int .i64 u] 30)).cell? ⟨tb, 0, none⟩ = some (.int .i64 y) := (World.cell?_alloc_past _ _ _ (cell_spot ht).2).trans ht
        have huA : (wr.alloc (.cells #[.int .i64 f, .int .i64 u] 30)).cell? ⟨wr.heap.size, 1, none⟩ = some (.int .i64 u) := by simp
        have hbA : Below wr.heap.size wr (wr.alloc (.cells #[.int .i64 f, .int .i64 u] 30)) := (Below.refl _ _).alloc (Nat.le_refl _) _
        have hzA : wr.heap.size < (wr.alloc (.cells #[.int .i64 f, .int .i64 u] 30)).heap.size := by simp
        have HBA := Lib.hid hbA
        have HUA := Lib.hid huA
        have HZA := Lib.hid hzA
        clear hd hd1 hget hgap huA hbA hzA
        gi_wp2_with (refine ⟨trivial, ?_⟩; gi_at_call 54; refine (callsIn_wide.2 (HBT.out _)).mono ?_; rintro e w2 ⟨rfl, hb2⟩; have HB2 := Lib.hid (HBA.out.trans (hb2.mono HBA.out.size)); have HU2 := Lib.hid ((hb2.cell (p := ⟨wr.heap.size, 1, none⟩) HZA.out).trans HUA.out); have HZ2 := Lib.hid (Nat.lt_of_lt_of_le HZA.out hb2.size); have HT2 := Lib.hid ((hb2.cell (p := ⟨tb, 0, none⟩) (cell_spot htA).2).trans htA); clear hb2)
        have hB4 : Below wr.heap.size wr (w2.alloc (.cells #[.int .i64 z, .int .i64 (min y f)] 30)) := HB2.out.alloc HB2.out.size _
        have hU4 : (w2.alloc (.cells #[.int .i64 z, .int .i64 (min y f)] 30)).cell? ⟨wr.heap.size, 1, none⟩ = some (.int .i64 u) := (World.cell?_alloc_past _ _ _ HZ2.out).trans HU2.out
        have hZ4 : wr.heap.size < (w2.alloc (.cells #[.int .i64 z, .int .i64 (min y f)] 30)).heap.size := by rw [World.size_alloc]; have := HZ2.out; omega
        have hT4 : (w2.alloc (.cells #[.int .i64 z, .int .i64 (min y f)] 30)).cell? ⟨tb, 0, none⟩ = some (.int .i64 y) := (World.cell?_alloc_past _ _ _ (cell_spot HT2.out).2).trans HT2.out
        generalize (w2.alloc (.cells #[.int .i64 z, .int .i64 (min y f)] 30)) = W4 at *
        obtain ⟨fn, tmps, assign, body', hy, hRd⟩ := HY.out k z (min y f) wr W4 HGT.out HJK.out hB4
        have HB4 := Lib.hid hB4
        have HU4 := Lib.hid hU4
        have HT4 := Lib.hid hT4
        have HZ4 := Lib.hid hZ4
        clear hB4 hU4 hT4 hZ4 htA ht
        rw [hy]
        gi_wp2
        refine hRd.mono ?_
        rintro e W3 ⟨b, rfl, hyes, hno⟩
        clear hy hRd
        cases b
        · have hjs := Lib.hid (hno rfl)
          clear hyes hno
          gi_wp2
          refine bodyPost_ret (results_none rfl _ _ _) rfl ⟨⟨_, rfl⟩, .inr hjs.out⟩
        · obtain ⟨hJ3, hk3⟩ := hyes rfl
          have hnx : ¬ Turns P wr wr.heap.size := fun h => by have := h.2; omega
          have hu3 : W3.cell? ⟨wr.heap.size, 1, none⟩ = some (.int .i64 u) := (hk3.cell (p := ⟨wr.heap.size, 1, none⟩) HZ4.out hnx).trans HU4.out
          have hK : Kept (Turns P wr) wr W3 := (Kept.below HB4.out).trans hk3
          have HS3 := Lib.hid (HSK.out.keptX hK fun z' h1 h2 h3 => h3.1 (HBL.out z' (by omega) h2))
          have HT3 := Lib.hid ((hk3.cell (p := ⟨tb, 0, none⟩) (cell_spot HT4.out).2 (fun h => h.1 HX.out)).trans HT4.out)
          have HJ3 := Lib.hid hJ3
          have HZ3 := Lib.hid (Nat.le_trans hz hK.size)
          clear hyes hno hJ3 hk3 hK hnx
          gi_wp2
          go_roundw
          case rel => exact ⟨q + 1, k + 1, by rw [HAT.out], by go_num, by omega, hk1, by rw [hm1, ← Nat.add_assoc, HAT.out]; exact HD.out, HJ3.out, HS3.out, HT3.out, HZ3.out⟩
          case measure => simp [intOf]; omega
      · have hgap : gap z (min y f) = [] := if_neg hg
        rw [hgap, List.nil_append] at hd
        have HD := Lib.hid hd
        have hnq := neq_zero
        have HBT := Lib.hid (fun w => betw_no z (min y f) w hg)
        have htA : (wr.alloc (.cells #[.int .i64 f, .int .i64 u] 30)).cell? ⟨tb, 0, none⟩ = some (.int .i64 y) := (World.cell?_alloc_past _ _ _ (cell_spot ht).2).trans ht
        have huA : (wr.alloc (.cells #[.int .i64 f, .int .i64 u] 30)).cell? ⟨wr.heap.size, 1, none⟩ = some (.int .i64 u) := by simp
        have hbA : Below wr.heap.size wr (wr.alloc (.cells #[.int .i64 f, .int .i64 u] 30)) := (Below.refl _ _).alloc (Nat.le_refl _) _
        have hzA : wr.heap.size < (wr.alloc (.cells #[.int .i64 f, .int .i64 u] 30)).heap.size := by simp
        have HBA := Lib.hid hbA
        have HUA := Lib.hid huA
        have HZA := Lib.hid hzA
        clear hd hgap huA hbA hzA
        gi_wp2_with (refine ⟨trivial, ?_⟩; gi_at_call 54; refine (callsIn_wide.2 (HBT.out _)).mono ?_; rintro e w2 ⟨rfl, hb2⟩; have HB2 := Lib.hid (HBA.out.trans (hb2.mono HBA.out.size)); have hu2 := (hb2.cell (p := ⟨wr.heap.size, 1, none⟩) HZA.out).trans HUA.out; have HZ2 := Lib.hid (Nat.lt_of_lt_of_le HZA.out hb2.size); have hu4 : (w2.alloc (.cells #[.int .i64 0, .int .i64 0] 30)).cell? ⟨wr.heap.size, 1, none⟩ = some (.int .i64 u) := (World.cell?_alloc_past _ _ _ HZ2.out).trans hu2; clear hb2 hu2)
        have hB4 : Below wr.heap.size wr (w2.alloc (.cells #[.int .i64 0, .int .i64 0] 30)) := HB2.out.alloc HB2.out.size _
        have HB4 := Lib.hid hB4
        clear hB4
        refine ⟨fun _ h => (by cases h), ?_⟩
        gi_wp2
        go_roundw
        case rel => exact ⟨q + 1, k, by rw [HAT.out], by go_num, by omega, hk, by rw [hm1, ← Nat.add_assoc, HAT.out]; exact HD.out, HJ.out _ _ _ HJK.out HB4.out, HSK.out.kept HB4.out, (HB4.out.cell (p := ⟨tb, 0, none⟩) (cell_spot ht).2).trans ht, Nat.le_trans hz HB4.out.size⟩
        case measure => simp [intOf]; omega
    · obtain rfl : q = m := by omega
      rw [Nat.sub_self] at hd
      simp only [freeG] at hd
      have qd : decide ((q : Int) < (q : Int)) = false := decide_eq_false (by omega)
      obtain ⟨sa, sc, hsv⟩ : ∃ sa sc, a' = sa ∧ c' = sc := ⟨_, _, rfl, rfl⟩
      clear hS hj hze
      by_cases hg : z < y
      · have hgap : gap z y = [(z, y)] := if_pos hg
        rw [hgap] at hd
        have hget : rows[k]? = some (z, y) := by
          have : (rows.drop k)[0]? = some (z, y) := by rw [hd]; rfl
          rwa [List.getElem?_drop, Nat.add_zero] at this
        have hd1 : k + 1 = rows.length := by
          have : (rows.drop k).length = 1 := by rw [hd]; rfl
          rw [List.length_drop] at this; omega
        have HGT := Lib.hid hget
        have HD := Lib.hid hd1
        have hnq := neq_gap z y hg
        have HBT := Lib.hid (fun w => betw_yes z y w hg)
        have HZR : Hid (wr.heap.size ≤ wr.heap.size) := Lib.hid (Nat.le_refl _)
        clear hd hget hgap hd1
        gi_wp2_with (refine ⟨trivial, ?_⟩; gi_at_call 54; refine (callsIn_wide.2 (HBT.out _)).mono ?_; rintro e w2 ⟨rfl, hb2⟩; have HB2 := Lib.hid hb2; clear hb2)
        have hB4 : Below wr.heap.size wr (w2.alloc (.cells #[.int .i64 z, .int .i64 y] 30)) := HB2.out.alloc HB2.out.size _
        generalize (w2.alloc (.cells #[.int .i64 z, .int .i64 y] 30)) = W4 at *
        obtain ⟨fn, tmps, assign, body', hy, hRd⟩ := HY.out k z y wr W4 HGT.out HJK.out hB4
        clear hB4
        rw [hy]
        gi_wp2
        refine hRd.mono ?_
        rintro e W3 ⟨b, rfl, hyes, hno⟩
        have HYN : Hid (J rows.length W3 ∨ Js W3) := Lib.hid (by
          cases b
          · exact .inr (hno rfl)
          · exact .inl (by rw [← HD.out]; exact (hyes rfl).1))
        clear hy hRd hyes hno
        gi_wp2
        refine bodyPost_end (results_none rfl _ _ _) rfl ⟨⟨_, rfl⟩, HYN.out⟩
      · have hgap : gap z y = [] := if_neg hg
        rw [hgap] at hd
        have hd1 : k = rows.length := by
          have : (rows.drop k).length = 0 := by rw [hd]; rfl
          rw [List.length_drop] at this; omega
        have HD := Lib.hid hd1
        have hnq := neq_zero
        have HBT := Lib.hid (fun w => betw_no z y w hg)
        clear hd hgap hd1
        gi_wp2_with (refine ⟨trivial, ?_⟩; gi_at_call 54; refine (callsIn_wide.2 (HBT.out _)).mono ?_; rintro e w2 ⟨rfl, hb2⟩; have HB2 := Lib.hid hb2; clear hb2)
        have hB4 : Below wr.heap.size wr (w2.alloc (.cells #[.int .i64 0, .int .i64 0] 30)) := HB2.out.alloc HB2.out.size _
        have HB4 := Lib.hid hB4
        clear hB4
        refine bodyPost_end (results_none rfl _ _ _) rfl ⟨⟨_, rfl⟩, .inl (by rw [← HD.out]; exact HJ.out _ _ _ HJK.out HB4.out)⟩
theorem free1_enters : ∀ args w, (callFunc 76 args).run Try.prog w = .ok (.enter 76 args) w := enters_of Try.func76 (by kernel_rfl) rfl
/-- The enumeration of what is free, over whatever loop. -/
theorem free_handing (P : Nat → Prop) {p a : Option Addr} {n c : Nat} {F T : Nat → Int} (fb ab tb : Nat) (x y : Int) (w : World) (hal : Alm p a n c F T w) (hfb : w.cell? ⟨fb, 0, none⟩ = some (.int .i64 x)) (hab : w.cell? ⟨ab, 0, none⟩ = some (.pointer p)) (htb : w.cell? ⟨tb, 0, none⟩ = some (.int .i64 y))
    (hX : P tb) (hXr : ∀ z, 0 < n → a = some z → P z.block) :
    Handing 76 #[.pointer (some ⟨fb, 0, none⟩), .pointer (some ⟨ab, 0, none⟩), .pointer (some ⟨tb, 0, none⟩)] (freeL F T n x y) P w := by
  intro J Js hJ hJs l W hl hB hY h0
  have htl := (cell_spot htb).2
  exact free1_in l P fb ab tb x y J Js hJ hY W (hal.kept hB) ((hB.cell (p := ⟨fb, 0, none⟩) (cell_spot hfb).2).trans hfb) ((hB.cell (p := ⟨ab, 0, none⟩) (cell_spot hab).2).trans hab) ((hB.cell (p := ⟨tb, 0, none⟩) htl).trans htb) hX hXr h0

/-- What Free hands back: the function, over boxes of its own. -/
def Freed (p : Option Addr) (x y : Int) (w : World) (e : Ending) (w' : World) : Prop :=
  ∃ fb ab tb, e = .returned (.func (.func 76) #[] #[.pointer (some ⟨fb, 0, none⟩), .pointer (some ⟨ab, 0, none⟩), .pointer (some ⟨tb, 0, none⟩)]) ∧
    w'.cell? ⟨fb, 0, none⟩ = some (.int .i64 x) ∧ w'.cell? ⟨ab, 0, none⟩ = some (.pointer p) ∧ w'.cell? ⟨tb, 0, none⟩ = some (.int .i64 y) ∧ w.heap.size ≤ fb ∧ w.heap.size ≤ ab ∧ w.heap.size ≤ tb ∧ Below w.heap.size w w'
set_option maxRecDepth 100000 in
set_option maxHeartbeats 4000000 in
theorem freed_any (p : Option Addr) (x y : Int) (w : World) : Calls Try.prog 52 #[.pointer p, .int .i64 x, .int .i64 y] w (Freed p (max x 0) (min y 1125899906842624) w) := by
  have hmf : ∀ (fn : Fn) (first cap : Array Value) (w : World), (Instr.makeFunc fn first cap).run Try.prog w = .ok (.func fn first cap) w := fun _ _ _ _ => rfl
  go_enter Try.func52, Try.ntmps52
  go_wp2
  go_region
  go_wp2
  go_ret
  refine ⟨_, _, _, rfl, ?_, ?_, ?_, by omega, Nat.le_refl _, by omega, ?_⟩
  · show (((w.alloc _).alloc _).alloc _).cell? _ = _
    rw [World.cell?_alloc_past _ _ _ (by simp)]
    simp
  · show (((w.alloc _).alloc _).alloc _).cell? _ = _
    rw [World.cell?_alloc_past _ _ _ (by simp; omega), World.cell?_alloc_past _ _ _ (by simp)]
    simp
  · show (((w.alloc _).alloc _).alloc _).cell? _ = _
    rw [World.cell?_alloc_at _ _ _ _ (by simp)]
    rfl
  · exact ((((Below.refl _ _).alloc (Nat.le_refl _) _).alloc (by simp) _).alloc (by simp; omega) _).drew
end Go.Proofs.Ytfeegohjgecjgaa

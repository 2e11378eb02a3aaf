/- The law's list of what is free. -/
import Derived.Test.YtfeegohjgecjgaaAmD
namespace Go.Proofs.Ytfeegohjgecjgaa
open Go.RowKit Go.Shelf
attribute [local go_sem] Oper.semAt_some

theorem OS.kept_set {w : World} {base b : Nat} {v : Value} {l : List (Int × Int)} (h : OS w base v l) (hne : ∀ g, v.ownBlock = some g → g ≠ b) (u : Value) : OS (w.setCell ⟨b, 0, none⟩ u) base v l := by
  obtain ⟨h1, h2⟩ := h
  refine ⟨h1, ?_⟩
  rcases h2 with h2 | ⟨g, cap, cur, hv, hg, hh, r⟩
  · exact .inl h2
  · exact .inr ⟨g, cap, cur, hv, hg, (Below.heap_setCell _ _ _ _ (hne g (by rw [hv]; rfl))).trans hh, r⟩
theorem seq_nil (fb ab tb : Nat) (w : World) : (binOp .eql 84 (.func (.func 76) #[] #[.pointer (some ⟨fb, 0, none⟩), .pointer (some ⟨ab, 0, none⟩), .pointer (some ⟨tb, 0, none⟩)]) .nilFunc).run Try.prog w = .ok (.bool false) w := by
  kernel_rfl
/-- append(s, one span), under a fence. -/
theorem append_spanIn {Fn : Fence} {n : Nat} {w : World} {ops : Array Oper} {rest : List Oper} {o : Oper} {a : Act} {Q : Exit → Act → World → Prop} (hgd : o.guard = none) (s x : Operand)
    (ho : o.op = .call { callee := .builtin .append, args := #[s, x], argTypes := #[22, 22] })
    (base : Nat) (v : Value) (l : List (Int × Int)) (f t : Int) (ad : Addr) (c : Nat) (hs : a.eval s = v) (hx : a.eval x = .slice (some ad) 1 c) (hown : OS w base v l)
    (hc : ∀ j u, [Value.int .i64 f, .int .i64 t][j]? = some u → w.cell? (ad.add j) = some u)
    (hlen : l.length ≤ 100000) (hbase : base ≤ w.heap.size)
    (h : ∀ v' w', OS w' base v' (l ++ [(f, t)]) → w.grownBy w' v.ownBlock → wpListIn Fn n Try.prog ops Q rest (a.put o.dst v') w') : wpListIn Fn n Try.prog ops Q (o :: rest) a w := by
  obtain ⟨i0, hi, hz0, hz1, hz2⟩ := info_parts spans_info
  refine wpListIn_append_own w hgd s x 22 ho base 30 i0 (.agg #[.int .i64 0, .int .i64 0]) 2 16 Try.underlying22 hi hz0 hz1 hz2 rfl (by decide) v l.length (spc l) hs hown ad 1 c [.int .i64 f, .int .i64 t] hx rfl hc
    (by intro u hu; simp only [List.mem_cons, List.not_mem_nil, or_false] at hu; rcases hu with rfl | rfl <;> rfl) (by unfold maxLen; omega) (by omega) hbase ?_
  intro v' w' h1 h2 _
  exact h v' w' (by unfold OS; rw [List.length_append, spc_append]; exact h1) h2

/-- What the law's list of what is free is. -/
def Listed (l : List (Int × Int)) (w : World) (e : Ending) (w' : World) : Prop := ∃ v, e = .returned (.tuple #[v, .bool true]) ∧ OS w' w.heap.size v l ∧ Below w.heap.size w w'
set_option maxRecDepth 100000 in
set_option maxHeartbeats 4000000 in
theorem free_any {p a : Option Addr} {n c : Nat} {F T : Nat → Int} {w : World} (x y : Int) (hal : Alm p a n c F T w) :
    Calls Try.prog 23 #[.pointer p, .int .i64 x, .int .i64 y] w (Listed (freeL F T n (max x 0) (min y 1125899906842624)) w) := by
  have hql := freeL_len F T n (max x 0) (min y 1125899906842624) hal.len
  obtain ⟨w0, hw0⟩ : ∃ w0, (w.alloc (.cells #[.slice none 0 0] 22)).alloc (.cells #[.bool false] 4) = w0 := ⟨_, rfl⟩
  have hb0 : Below w.heap.size w w0 := by rw [← hw0]; exact ((Below.refl _ _).alloc (Nat.le_refl _) _).alloc (by simp) _
  have hz0 : w.heap.size + 2 = w0.heap.size := by rw [← hw0]; simp
  have v0 : Var w0 w.heap.size (.slice none 0 0) := by rw [← hw0]; exact (Var.new w _ _ rfl).kept ((Below.refl _ _).alloc (Nat.le_refl _) _)
  have v1 : Var w0 (w.heap.size + 1) (.bool false) := by rw [← hw0]; have := Var.new (w.alloc (.cells #[.slice none 0 0] 22)) (.bool false) 4 rfl; rwa [World.size_alloc] at this
  have hfr := freed_any p x y w0
  have HAL := Lib.hid hal
  have HV0 := Lib.hid v0
  have HV1 := Lib.hid v1
  have HB0 := Lib.hid hb0
  clear hal v0 v1 hb0
  refine (callsIn_wide (n := 3)).1 ?_
  refine callsIn_of_wp_marks Try.func23 rfl trivial ?_
  simp only [Try.ntmps23, List.size_toArray, List.length_cons, List.length_nil, Nat.reduceAdd, Nat.reduceSub, Array.replicate_succ, Array.replicate_zero, List.push_toArray, List.append_toArray, List.nil_append, List.cons_append]
  have hsq := seq_nil
  gi_wp2_with (refine ⟨trivial, ?_⟩; gi_at_call 52; refine (callsIn_wide.2 hfr).mono ?_; rintro e w1 ⟨fb, ab, tb, rfl, cfb, cab, ctb, lfb, lab, ltb, hb1⟩; have HB1 := Lib.hid (HB0.out.trans (hb1.mono HB0.out.size)); have HV0 := Lib.hid (HV0.out.kept hb1); have HV1 := Lib.hid (HV1.out.kept hb1))
  have hal1 := HAL.out.kept HB1.out
  have hPr : ∀ z, 0 < n → a = some z → z.block < w.heap.size := fun z hz hz2 => by
    obtain ⟨rb, ro, e, hlt, _⟩ := HAL.out.sps.2 hz
    rw [hz2] at e
    injection e with e
    subst e
    exact hlt
  have hbN : Below w1.heap.size w1 (w1.alloc (.cells #[.slice none 0 0] 22)) := (Below.refl _ _).alloc (Nat.le_refl _) _
  have hsN : (w1.alloc (.cells #[.slice none 0 0] 22)).heap.size = w1.heap.size + 1 := by simp
  have vN : Var (w1.alloc (.cells #[.slice none 0 0] 22)) w1.heap.size (.slice none 0 0) := Var.new _ _ _ rfl
  have htl := (cell_spot ctb).2
  have htl' : tb < w1.heap.size := htl
  have HH := Lib.hid (free_handing (fun b => b = tb ∨ ∃ z, 0 < n ∧ a = some z ∧ b = z.block) fb ab tb (max x 0) (min y 1125899906842624) _ (hal1.kept hbN) ((hbN.cell (p := ⟨fb, 0, none⟩) (cell_spot cfb).2).trans cfb) ((hbN.cell (p := ⟨ab, 0, none⟩) (cell_spot cab).2).trans cab) ((hbN.cell (p := ⟨tb, 0, none⟩) htl).trans ctb) (.inl rfl) (fun z h1 h2 => .inr ⟨z, h1, h2, rfl⟩))
  have HV0 := Lib.hid (HV0.out.kept hbN)
  have HV1 := Lib.hid (HV1.out.kept hbN)
  have HB1' := Lib.hid (HB1.out.trans (hbN.mono HB1.out.size))
  have hz1 := hb1.size
  obtain ⟨L, hL⟩ : ∃ L, w1.heap.size = L := ⟨_, rfl⟩
  obtain ⟨rows, hrows⟩ : ∃ r, freeL F T n (max x 0) (min y 1125899906842624) = r := ⟨_, rfl⟩
  rw [hrows] at HH hql ⊢
  rw [hL] at hsN vN htl' hz1 ⊢
  generalize (w1.alloc (.cells #[.slice none 0 0] 22)) = W0 at *
  have HVN := Lib.hid vN
  have HRW := Lib.hid hrows
  clear hsq hal1 hbN cfb cab ctb hb1 hw0 hfr vN hrows htl
  refine range_spans rfl free1_enters rows (fun b => b = tb ∨ ∃ z, 0 < n ∧ a = some z ∧ b = z.block) ?hP HH.out
    (fun k W => ∃ v, Var W L v ∧ OS W (L + 1) v (rows.take k) ∧ Var W w.heap.size (.slice none 0 0) ∧ Var W (w.heap.size + 1) (.bool false) ∧ Below w.heap.size w W) (fun _ _ => False)
    ?hI (fun _ _ _ h _ => h) ⟨_, HVN.out, OS.nil _ _, HV0.out, HV1.out, HB1'.out⟩ rfl
    (fun f t cb => { tmps := #[.pointer p, .int .i64 x, .int .i64 y, undef, undef, undef, .pointer (some ⟨w.heap.size, 0, none⟩), .pointer (some ⟨w.heap.size + 1, 0, none⟩), .func (.func 76) #[] #[.pointer (some ⟨fb, 0, none⟩), .pointer (some ⟨ab, 0, none⟩), .pointer (some ⟨tb, 0, none⟩)],
      .pointer (some ⟨L, 0, none⟩), .pointer (some ⟨cb, 0, none⟩), .pointer p, .int .i64 x, .int .i64 y, .func (.func 76) #[] #[.pointer (some ⟨fb, 0, none⟩), .pointer (some ⟨ab, 0, none⟩), .pointer (some ⟨tb, 0, none⟩)], .func (.func 76) #[] #[.pointer (some ⟨fb, 0, none⟩), .pointer (some ⟨ab, 0, none⟩), .pointer (some ⟨tb, 0, none⟩)], .bool false,
      .func (.func 76) #[] #[.pointer (some ⟨fb, 0, none⟩), .pointer (some ⟨ab, 0, none⟩), .pointer (some ⟨tb, 0, none⟩)], .agg #[.int .i64 f, .int .i64 t], undef, undef, undef, undef, undef, undef, undef, undef, undef], defers := [] }) ?assign ?body ?done ?stop
  case hP =>
    rintro b (rfl | ⟨z, h1, h2, rfl⟩)
    · omega
    · have := hPr z h1 h2; omega
  case hI =>
    rintro k V V' ⟨v, h1, h2, h3, h4, h5⟩ ht
    exact ⟨v, h1.tame ht, h2.tame ht, h3.tame ht, h4.tame ht, h5.trans (ht.belowLe (by omega) h5.size)⟩
  case assign =>
    intro l f t W K hK
    gi_wp2
    exact hK
  case body =>
    rintro l k f t cb V W hrow ⟨v, h1, h2, h3, h4, h5⟩ ht c0 c1 hcb
    have hkn : k < rows.length := (List.getElem?_eq_some_iff.1 hrow).1
    have hlk : (rows.take k).length = k := by rw [List.length_take]; omega
    have htk : rows.take (k + 1) = rows.take k ++ [(f, t)] := by rw [List.take_add_one, hrow]; rfl
    have hLV := h1.lt
    have hOV := World.ownsRow.lt h2
    have hsz := ht.size
    replace h1 := h1.tame ht
    replace h2 := h2.tame ht
    have HB5 := Lib.hid (h5.trans (ht.belowLe (by omega) h5.size))
    have HV3 := Lib.hid (h3.tame ht)
    have HV4 := Lib.hid (h4.tame ht)
    obtain ⟨va, vc, rfl, _, _⟩ := h2.shape
    have HTK := Lib.hid htk
    have HL1 : Hid ((rows.take k ++ [(f, t)]).length = k + 1) := Lib.hid (by rw [List.length_append, hlk]; rfl)
    have HO := Lib.hid (h2.kept ((Below.refl _ _).alloc (Nat.le_refl _) (.cells #[.int .i64 f, .int .i64 t] 30)))
    have HOW := Lib.hid h2
    have HOV := Lib.hid hOV
    have HLK := Lib.hid hlk
    rw [hlk] at h1 HO HOV HOW
    have cL := h1.1
    have fL := h1.2
    have HVL := Lib.hid h1
    have hd : decide (40 < (k : Int)) = false := decide_eq_false (by omega)
    have HN := Lib.hid (new_span W (.int .i64 f) (.int .i64 t) 30)
    have HLT := Lib.hid h1.lt
    have HBS : Hid (L + 1 ≤ (W.alloc (.cells #[.int .i64 f, .int .i64 t] 30)).heap.size) := Lib.hid (by rw [World.size_alloc]; have := HLT.out; omega)
    clear h1 h2 h3 h4 h5 hlk htk hrow hOV
    gi_wp2_with (gi_at_builtin; refine append_spanIn rfl (.tmp 23) (.tmp 25) rfl (L + 1) (.slice va k vc) (rows.take k) f t ⟨W.heap.size, 0, none⟩ 1 rfl rfl HO.out HN.out (by have := HLK.out; omega) HBS.out ?_; intro v' w' hO' hg'; obtain ⟨va', vc', hv', _, _⟩ := hO'.shape; rw [HL1.out] at hv'; subst hv'; have HO' := Lib.hid hO'; have HG' := Lib.hid hg'; clear hO' hg'; have hne : some L ≠ (Value.slice va k vc).ownBlock := (fun e => by have := (HOV.out L e.symm).1; omega); have eL := HG'.out.block L (by rw [World.size_alloc]; have := HLT.out; omega) hne; have cL' : w'.cell? ⟨L, 0, none⟩ = some (.slice va k vc) := (World.cell?_of_block eL).trans (((Below.refl _ W).alloc (Nat.le_refl _) _).cell (p := ⟨L, 0, none⟩) HLT.out |>.trans cL); have fL' : w'.frozen? ⟨L, 0, none⟩ = false := (World.frozen?_of_block eL).trans (((Below.refl _ W).alloc (Nat.le_refl _) _).frozen (p := ⟨L, 0, none⟩) HLT.out |>.trans fL))
    have hA : Only (fun b => b = L ∨ some b = (Value.slice va k vc).ownBlock) W w' := by
      refine (Only.below ((Below.refl _ W).alloc (Nat.le_refl _) (.cells #[.int .i64 f, .int .i64 t] 30))).trans ?_
      exact ⟨HG'.out.os, HG'.out.tape, HG'.out.output, HG'.out.size, fun b hb hx => HG'.out.block b hb fun e => hx (.inr e)⟩
    have hK : Kept (Turns (fun b => b = tb ∨ ∃ z, 0 < n ∧ a = some z ∧ b = z.block) V) W w' := (Kept.only hA).more (by
      rintro b (rfl | hb)
      · refine ⟨?_, hLV⟩
        rintro (h | ⟨z, z1, z2, h⟩)
        · omega
        · have := hPr z z1 z2; omega
      · obtain ⟨b1, b2⟩ := HOV.out b hb.symm
        refine ⟨?_, b2⟩
        rintro (h | ⟨z, z1, z2, h⟩)
        · omega
        · have := hPr z z1 z2; omega)
    have hLT : Turns (fun b => b = tb ∨ ∃ z, 0 < n ∧ a = some z ∧ b = z.block) V L := by
      refine ⟨?_, hLV⟩
      rintro (h | ⟨z, z1, z2, h⟩)
      · omega
      · have := hPr z z1 z2; omega
    have hKO : KeepsOthers W w' := (KeepsOthers.alloc W _).trans (KeepsOthers.of_grownBy HG'.out fun j o e ho => by
      obtain ⟨g, hg⟩ : ∃ g, (Value.slice va k vc).ownBlock = some g := ⟨j, e⟩
      rcases HO.out.2 with ⟨hv, _⟩ | ⟨g', cap, cur, hv, _, hh, _⟩
      · rw [hv] at e; cases e
      · rw [hv] at e
        injection e with e
        subst e
        rw [hh] at ho
        injection ho with ho
        rw [← ho]; rfl)
    have hB5 : Below w.heap.size w w' := HB5.out.trans (hA.toBelow HB5.out.size (by
      rintro b (rfl | hb)
      · omega
      · have := (HOV.out b hb.symm).1; omega))
    have hx0 : ¬ (w.heap.size = L ∨ some w.heap.size = (Value.slice va k vc).ownBlock) := by
      rintro (h | h)
      · omega
      · have := (HOV.out _ h.symm).1; omega
    have hx1 : ¬ (w.heap.size + 1 = L ∨ some (w.heap.size + 1) = (Value.slice va k vc).ownBlock) := by
      rintro (h | h)
      · omega
      · have := (HOV.out _ h.symm).1; omega
    refine ⟨hKO.trans (KeepsOthers.setCell _ _ _), hK.trans (Kept.setCell _ _ _ hLT), _, Var.set ⟨cL', fL'⟩ _ rfl rfl, ?_, (HV3.out.keptX (Kept.only hA) hx0).other (by omega) 0 _, (HV4.out.keptX (Kept.only hA) hx1).other (by omega) 0 _, hB5.setCell (p := ⟨L, 0, none⟩) (by show w.heap.size ≤ L; omega) _⟩
    rw [HTK.out]
    exact HO'.out.kept_set (b := L) (fun g hg => by
      have := (World.ownsRow.lt HO'.out g hg).1
      omega) _
  case done =>
    rintro W ⟨v, h1, h2, h3, h4, h5⟩ hD
    rw [List.take_length] at h2
    obtain ⟨va, vc, rfl, _, _⟩ := h2.shape
    have HD := Lib.hid hD
    have HO := Lib.hid h2
    have H1 := Lib.hid h1
    have H3 := Lib.hid h3
    have H4 := Lib.hid h4
    have H5 := Lib.hid h5
    have c1 := h1.1
    have c3 := h3.1
    have f3 := h3.2
    have c4 := h4.1
    have f4 := h4.2
    clear hD h1 h2 h3 h4 h5
    gi_wp2
    have hD6 : ((W.setCell ⟨w.heap.size, 0, none⟩ (.slice va rows.length vc)).setCell ⟨w.heap.size + 1, 0, none⟩ (.bool true)).heap[W0.heap.size]? = some (.deferred (some [])) :=
      ((Below.heap_setCell _ _ _ _ (by show W0.heap.size ≠ w.heap.size + 1; omega)).trans (Below.heap_setCell _ _ _ _ (by show W0.heap.size ≠ w.heap.size; omega))).trans HD.out
    have q0 : Var ((W.setCell ⟨w.heap.size, 0, none⟩ (.slice va rows.length vc)).setCell ⟨w.heap.size + 1, 0, none⟩ (.bool true)) w.heap.size (.slice va rows.length vc) := (H3.out.set _ rfl rfl).other (by omega) 0 _
    have q1 : Var ((W.setCell ⟨w.heap.size, 0, none⟩ (.slice va rows.length vc)).setCell ⟨w.heap.size + 1, 0, none⟩ (.bool true)) (w.heap.size + 1) (.bool true) := (H4.out.other (by omega) 0 _).set _ rfl rfl
    have hO6 : OS ((W.setCell ⟨w.heap.size, 0, none⟩ (.slice va rows.length vc)).setCell ⟨w.heap.size + 1, 0, none⟩ (.bool true)) (L + 1) (.slice va rows.length vc) rows :=
      (HO.out.kept_set (b := w.heap.size) (fun g hg => by have := (World.ownsRow.lt HO.out g hg).1; omega) _).kept_set (b := w.heap.size + 1) (fun g hg => by have := (World.ownsRow.lt HO.out g hg).1; omega) _
    have hB6 : Below w.heap.size w ((W.setCell ⟨w.heap.size, 0, none⟩ (.slice va rows.length vc)).setCell ⟨w.heap.size + 1, 0, none⟩ (.bool true)) :=
      (H5.out.setCell (p := ⟨w.heap.size, 0, none⟩) (Nat.le_refl _) _).setCell (p := ⟨w.heap.size + 1, 0, none⟩) (by show w.heap.size ≤ w.heap.size + 1; omega) _
    generalize ((W.setCell ⟨w.heap.size, 0, none⟩ (.slice va rows.length vc)).setCell ⟨w.heap.size + 1, 0, none⟩ (.bool true)) = W6 at *
    have ht := Tame.putObj (B := w.heap.size) W6 (.deferred none) hD6 rfl (by omega)
    have e0 := (q0.tame ht).1
    have e1 := (q1.tame ht).1
    refine ⟨by simp, .inl ⟨_, _, rfl, run_takeDeferred hD6, ?_⟩⟩
    refine ⟨.tuple #[.slice va rows.length vc, .bool true], ?_, _, rfl, ?_, hB6.trans (ht.belowLe (Nat.le_refl _) hB6.size)⟩
    · simp [results, Try.results23, go_sem, e0, e1]
    · rw [HRW.out]
      exact (hO6.tame ht).mono (by omega)
  case stop => exact fun _ _ h _ => h.elim
end Go.Proofs.Ytfeegohjgecjgaa

/- A row of things of one's own: one of them replaced, the last one gone; what a drop leaves. -/
import Derived.Test.YtfclmbneimbmnaaDoorRiA
namespace Go.Proofs.YtfclmbneimbmnaaDoor
open Go.RowKit

/-- The lookup without the second result. -/
theorem Pl.at_some {w : World} {b c s i : Nat} {M : Int → Option (Nat × Nat)} (h : Pl w b c M) {id : Int} (hid : IdOk id) (hM : M id = some (s, i)) :
    (Instr.lookup tMp (.map (some b)) (.int .u64 id) false).run Tryd.prog w = .ok (.agg #[.int .i64 s, .int .i64 i]) w := by
  obtain ⟨D, hO, _, hD⟩ := h
  obtain ⟨v, ps, hrun, hv⟩ := hO.lookup keyedU undMp (zeroPl w) (plR_mk 0 0) (keyU hid)
  have := hD id
  rw [hM] at this
  simp only at this
  rw [this.2] at hv
  rw [plR_inv hv] at hrun
  exact hrun

theorem thc_set (l : List Th) (i : Nat) (y : Th) (j : Nat) (hj : j < l.length * 3) : (thc (l.set i y))[j]? = if j / 3 = i then (enT y)[j % 3]? else (thc l)[j]? := by
  have hk : j / 3 < l.length := by omega
  have h1 := thc_at (l.set i y) (j / 3) (by simpa using hk)
  have h2 := thc_at l (j / 3) hk
  have e : (l.set i y)[j / 3]'(by simpa using hk) = if i = j / 3 then y else l[j / 3] := by rw [List.getElem_set]
  rw [e] at h1
  have hm : j % 3 = 0 ∨ j % 3 = 1 ∨ j % 3 = 2 := by omega
  by_cases hi : j / 3 = i
  · rw [if_pos hi.symm] at h1
    rw [if_pos hi]
    unfold enT
    rcases hm with hm | hm | hm
    · rw [hm, show j = j / 3 * 3 by omega]; exact h1.1
    · rw [hm, show j = j / 3 * 3 + 1 by omega]; exact h1.2.1
    · rw [hm, show j = j / 3 * 3 + 2 by omega]; exact h1.2.2
  · rw [if_neg (Ne.symm hi)] at h1
    rw [if_neg hi]
    rcases hm with hm | hm | hm
    · rw [show j = j / 3 * 3 by omega]; exact h1.1.trans h2.1.symm
    · rw [show j = j / 3 * 3 + 1 by omega]; exact h1.2.1.trans h2.2.1.symm
    · rw [show j = j / 3 * 3 + 2 by omega]; exact h1.2.2.trans h2.2.2.symm

theorem OT.set3 {w : World} {base g cap : Nat} {l : List Th} (h : OT w base (.slice (some ⟨g, 0, none⟩) l.length cap) l) (i : Nat) (y : Th) (hi : i < l.length) :
    OT (((w.setCell ⟨g, i * 3, none⟩ (.int .u64 y.1)).setCell ⟨g, i * 3 + 1, none⟩ (.int .u64 y.2.1)).setCell ⟨g, i * 3 + 2, none⟩ (.int .i64 y.2.2)) base (.slice (some ⟨g, 0, none⟩) l.length cap) (l.set i y) := by
  have h' := h
  rcases h.2 with ⟨hv, _⟩ | ⟨g', cap', cur, hv, hg, hh, hc, hm, hcs, ht⟩
  · cases hv
  · injection hv with hv1 _ hv3
    injection hv1 with hv1
    injection hv1 with hv1
    subst hv1 hv3
    have e1 := heap_setCell_same w g (i * 3) cur 27 (.int .u64 y.1) hh
    have e2 := heap_setCell_same _ g (i * 3 + 1) _ 27 (.int .u64 y.2.1) e1
    have e3 := heap_setCell_same _ g (i * 3 + 2) _ 27 (.int .i64 y.2.2) e2
    unfold OT
    rw [List.length_set]
    refine ⟨by rw [thc_len, List.length_set], .inr ⟨g, cap, _, rfl, hg, e3, hc, hm, by simpa using hcs, ?_⟩⟩
    refine List.ext_getElem? fun j => ?_
    by_cases hj : j < l.length * 3
    · have hcj : cur[j]? = (thc l)[j]? := by rw [← ht, List.getElem?_take, if_pos hj]; simp
      have hcz : cur.size = cap * 3 := hcs
      have hjc : j < cur.size := by omega
      rw [List.getElem?_take, if_pos hj, thc_set l i y j hj, ← hcj]
      simp only [Array.getElem?_toList, Array.getElem?_setIfInBounds, Array.size_setIfInBounds]
      unfold enT
      by_cases a0 : i * 3 + 2 = j
      · rw [if_pos a0, if_pos (by omega), show j % 3 = 2 by omega, if_pos (by omega)]; rfl
      · rw [if_neg a0]
        by_cases a1 : i * 3 + 1 = j
        · rw [if_pos a1, if_pos (by omega), show j % 3 = 1 by omega, if_pos (by omega)]; rfl
        · rw [if_neg a1]
          by_cases a2 : i * 3 = j
          · rw [if_pos a2, if_pos (by omega), show j % 3 = 0 by omega, if_pos (by omega)]; rfl
          · rw [if_neg a2, if_neg (by omega)]
    · rw [List.getElem?_eq_none (by simp; omega), List.getElem?_eq_none (by rw [thc_len, List.length_set]; omega)]
theorem thc_take (l : List Th) (k : Nat) : thc (l.take k) = (thc l).take (k * 3) := by
  induction l generalizing k with
  | nil => simp [thc]
  | cons x l ih =>
    cases k with
    | zero => simp [thc]
    | succ k =>
      have e : thc (x :: l) = enT x ++ thc l := by simp [thc]
      have e2 : thc ((x :: l).take (k + 1)) = enT x ++ thc (l.take k) := by simp [thc]
      rw [e2, ih, e, List.take_append, show (enT x).length = 3 from rfl, show (k + 1) * 3 - 3 = k * 3 by omega, List.take_of_length_le (l := enT x) (i := (k + 1) * 3) (by show 3 ≤ _; omega)]
theorem OT.take {w : World} {base g cap : Nat} {l : List Th} (h : OT w base (.slice (some ⟨g, 0, none⟩) l.length cap) l) (k : Nat) (hk : k ≤ l.length) :
    OT w base (.slice (some ⟨g, 0, none⟩) k cap) (l.take k) := by
  rcases h.2 with ⟨hv, _⟩ | ⟨g', cap', cur, hv, hg, hh, hc, hm, hcs, ht⟩
  · cases hv
  · injection hv with hv1 _ hv3
    injection hv1 with hv1
    injection hv1 with hv1
    subst hv1 hv3
    have e : (l.take k).length = k := by simp; omega
    unfold OT
    rw [e]
    refine ⟨by rw [thc_len, e], .inr ⟨g, cap, cur, rfl, hg, hh, by omega, hm, hcs, ?_⟩⟩
    rw [thc_take, ← ht, List.take_take, Nat.min_eq_left (by omega)]

/-- The blocks of a ring. -/
def Fp (V : Nat → Value) (r b : Nat) (k : Nat) : Prop := k = r ∨ k = b ∨ ∃ s, s < 64 ∧ (V s).ownBlock = some k
theorem Rn.lt {w : World} {r b : Nat} {V : Nat → Value} {S : Nat → List Th} {M : Int → Option (Nat × Nat)} (h : Rn w r b V S M) {k : Nat} (hk : Fp V r b k) : k < w.heap.size := by
  rcases hk with rfl | rfl | ⟨s, hs, hg⟩
  · have := cell_lt h.rg.map; exact this
  · exact h.rg.pl.lt
  · exact (h.rw.row s hs).lt hg
theorem Rn.only {X : Nat → Prop} {w w' : World} {r b : Nat} {V : Nat → Value} {S : Nat → List Th} {M : Int → Option (Nat × Nat)} (h : Rn w r b V S M) (ho : Only X w w') (hx : ∀ k, Fp V r b k → ¬ X k) : Rn w' r b V S M := by
  have hr := h.lt (.inl rfl)
  have hb := h.lt (.inr (.inl rfl))
  have xr := hx r (.inl rfl)
  have xb := hx b (.inr (.inl rfl))
  exact ⟨⟨fun k hk => (ho.cell (p := ⟨r, k, none⟩) hr xr).trans (h.rg.slot k hk), fun k hk => (ho.frozen (p := ⟨r, k, none⟩) hr xr).trans (h.rg.fro k hk), (ho.cell (p := ⟨r, 64, none⟩) hr xr).trans h.rg.map, h.rg.pl.block (ho.block _ hb xb)⟩,
    ⟨fun k hk => (h.rw.row k hk).keep fun g hg => ho.block g ((h.rw.row k hk).lt hg) (hx g (.inr (.inr ⟨k, hk, hg⟩))), h.rw.ring, h.rw.apart⟩, h.cons, h.ne, h.ok, h.few⟩

/-- What a drop leaves. -/
theorem drop_done {W5 W6 W8 : World} {r b s i g vc n : Nat} {V : Nat → Value} {S : Nat → List Th} {M M' : Int → Option (Nat × Nat)} {t y : Th}
    (h : Rn W5 r b V S M) (hs : s < 64) (ht : (S s)[i]? = some t) (hy : (S s)[n - 1]? = some y) (hn : (S s).length = n) (hV : V s = .slice (some ⟨g, 0, none⟩) n vc)
    (e6 : W6 = ((W5.setCell ⟨g, i * 3, none⟩ (.int .u64 y.1)).setCell ⟨g, i * 3 + 1, none⟩ (.int .u64 y.2.1)).setCell ⟨g, i * 3 + 2, none⟩ (.int .i64 y.2.2))
    (o68 : Only (fun k => k = b) W6 W8) (P8 : Pl W8 b (tot S 64 - 1) M') (hc : Cons idT (upd S s (swr (S s) i zT)) M') :
    Rn (W8.setCell ⟨r, s, none⟩ (.slice (some ⟨g, 0, none⟩) (n - 1) vc)) r b (upd V s (.slice (some ⟨g, 0, none⟩) (n - 1) vc)) (upd S s (swr (S s) i zT)) M' ∧ Only (Fp V r b) W5 (W8.setCell ⟨r, s, none⟩ (.slice (some ⟨g, 0, none⟩) (n - 1) vc)) := by
  have hi := (List.getElem?_eq_some_iff.1 ht).1
  have hyD : (S s).getD ((S s).length - 1) zT = y := by rw [List.getD_eq_getElem?_getD, hn, hy]; rfl
  have hrow := h.rw.row s hs
  rw [hV, ← hn] at hrow
  have hg5 : (V s).ownBlock = some g := by rw [hV]; rfl
  have hgr := h.rw.ring s g hs hg5
  have hgl := hrow.lt (g := g) rfl
  have hr := h.lt (.inl rfl)
  have hb := h.lt (.inr (.inl rfl))
  have o56 : Only (fun k => k = g) W5 W6 := by
    rw [e6]
    exact (((Only.refl (fun k => k = g) W5).setCell ⟨g, i * 3, none⟩ _ rfl).setCell ⟨g, i * 3 + 1, none⟩ _ rfl).setCell ⟨g, i * 3 + 2, none⟩ _ rfl
  have row6 := hrow.set3 i y hi
  rw [← e6] at row6
  have row8 : OT W8 0 (.slice (some ⟨g, 0, none⟩) (S s).length vc) ((S s).set i y) := row6.keep fun q hq => by
    obtain rfl : g = q := by simpa [Value.ownBlock] using hq
    exact o68.block _ (by have := o56.size; omega) hgr.2
  have e : ((S s).set i y).length = (S s).length := by simp
  rw [← e] at row8
  have row9 := row8.take ((S s).length - 1) (by simp)
  have esw : ((S s).set i y).take ((S s).length - 1) = swr (S s) i zT := by unfold swr; rw [hyD]
  rw [esw] at row9
  have o9 : Only (fun k => k = r) W8 (W8.setCell ⟨r, s, none⟩ (.slice (some ⟨g, 0, none⟩) (n - 1) vc)) := (Only.refl _ W8).setCell _ _ rfl
  have hblk : ∀ q, q < W5.heap.size → q ≠ r → q ≠ b → q ≠ g → (W8.setCell ⟨r, s, none⟩ (.slice (some ⟨g, 0, none⟩) (n - 1) vc)).heap[q]? = W5.heap[q]? := fun q hq h1 h2 h3 =>
    ((o9.block q (by have := o56.size; have := o68.size; omega) h1).trans (o68.block q (by have := o56.size; omega) h2)).trans (o56.block q hq h3)
  have c8 : ∀ o, W8.cell? ⟨r, o, none⟩ = W5.cell? ⟨r, o, none⟩ := fun o => (o68.cell (p := ⟨r, o, none⟩) (by show r < _; have := o56.size; omega) h.ne).trans (o56.cell (p := ⟨r, o, none⟩) hr (fun e => hgr.1 e.symm))
  have f8 : ∀ o, W8.frozen? ⟨r, o, none⟩ = W5.frozen? ⟨r, o, none⟩ := fun o => (o68.frozen (p := ⟨r, o, none⟩) (by show r < _; have := o56.size; omega) h.ne).trans (o56.frozen (p := ⟨r, o, none⟩) hr (fun e => hgr.1 e.symm))
  have hold : (W8.cell? ⟨r, s, none⟩).isSome = true := by rw [c8, h.rg.slot s hs]; rfl
  have htot : tot (upd S s (swr (S s) i zT)) 64 = tot S 64 - 1 := by
    have := tot_upd S s (swr (S s) i zT) 64 hs
    rw [swr_len] at this
    have := tot_ge S 64 hs
    omega
  have own' : ∀ k q, (upd V s (.slice (some ⟨g, 0, none⟩) (n - 1) vc) k).ownBlock = some q → (V k).ownBlock = some q := fun k q hq => by
    unfold upd at hq
    by_cases e : k = s
    · subst e; rw [if_pos rfl] at hq; rw [hg5]; exact hq
    · rw [if_neg e] at hq; exact hq
  refine ⟨⟨⟨fun k hk => ?_, fun k hk => ?_, ?_, ?_⟩, ⟨fun k hk => ?_, fun k q hk hq => h.rw.ring k q hk (own' k q hq), fun j k q hj hk hjq hkq => h.rw.apart j k q hj hk (own' j q hjq) (own' k q hkq)⟩, hc, h.ne, fun k hk t' ht' => ?_, by rw [htot]; have := h.few; omega⟩, ?_⟩
  · unfold upd
    by_cases e : k = s
    · subst e; rw [if_pos rfl]; exact World.cell?_setCell_same' _ _ _ hold
    · rw [if_neg e, cell_beside _ _ _ _ _ e, c8]; exact h.rg.slot k hk
  · rw [World.frozen?_setCell, f8]; exact h.rg.fro k hk
  · rw [cell_beside _ _ _ _ _ (show 64 ≠ s by omega), c8]; exact h.rg.map
  · rw [htot]; exact P8.block (o9.block b P8.lt h.ne.symm)
  · unfold upd
    by_cases e : k = s
    · subst e
      rw [if_pos rfl, if_pos rfl, ← hn]
      refine row9.keep fun q hq => ?_
      obtain rfl : g = q := by simpa [Value.ownBlock] using hq
      rw [hn]
      exact o9.block _ (by have := o56.size; have := o68.size; omega) hgr.1
    · rw [if_neg e, if_neg e]
      refine (h.rw.row k hk).keep fun q hq => hblk q ((h.rw.row k hk).lt hq) (h.rw.ring k q hk hq).1 (h.rw.ring k q hk hq).2 (fun eg => e (h.rw.apart k s q hk hs hq (by rw [hg5, eg])))
  · unfold upd at ht'
    by_cases e : k = s
    · subst e
      rw [if_pos rfl] at ht'
      have hp := swr_perm (S k) i zT hi
      exact h.ok k hk t' (hp.mem_iff.1 (List.mem_cons_of_mem _ ht'))
    · rw [if_neg e] at ht'; exact h.ok k hk t' ht'
  · have o1 : Only (Fp V r b) W5 W6 := o56.more (fun k hk => .inr (.inr ⟨s, hs, by rw [hg5, hk]⟩))
    have o2 : Only (Fp V r b) W6 W8 := o68.more (fun k hk => .inr (.inl hk))
    exact (o1.trans o2).setCell _ _ (.inl rfl)
end Go.Proofs.YtfclmbneimbmnaaDoor

import Derived.Test.YthefnakbpalecaaMaD
import Derived.Lib.AppendStr
namespace Go.Proofs.Ythefnakbpalecaa
open Go.RowKit
/- Walks of quill's reference: numbers with a sign, flags, strings. -/
open Go.RowKit
theorem OB.byte {w : World} {base : Nat} {a : Option Addr} {n cap k : Nat} {bs : List Nat} (h : OB w base (.slice a n cap) bs) (hn : bs.length = n) (hk : k < n) :
    ∃ g, a = some ⟨g, 0, none⟩ ∧ base ≤ g ∧ w.cell? ⟨g, k, none⟩ = some (.int .u8 ((bs.getD k 0 : Nat) : Int)) ∧ w.frozen? ⟨g, k, none⟩ = false := by
  have h' := h
  rcases h'.2 with ⟨hv, h0⟩ | ⟨g, cap', cur, hv, hg, hh, _⟩
  · omega
  · simp only [Value.slice.injEq] at hv
    obtain ⟨rfl, rfl, rfl⟩ := hv
    refine ⟨g, rfl, hg, ?_, World.ownsRow.frozenAt h k⟩
    rw [World.ownsRow.cellAt h k (by omega)]
    exact cb_get bs k (by omega)
theorem OB.put {w : World} {base g n cap : Nat} {bs : List Nat} (h : OB w base (.slice (some ⟨g, 0, none⟩) n cap) bs) (hn : bs.length = n) (k c : Nat) : OB (w.setCell ⟨g, k, none⟩ (.int .u8 (c : Int))) base (.slice (some ⟨g, 0, none⟩) n cap) (bs.set k c) := by
  subst hn
  unfold OB
  have := (World.ownsRow.stored h k (.int .u8 (c : Int))).1
  rw [List.length_set]
  simpa [cb, List.map_set] using this


theorem num_put (m : Nat) : (num 0 m).set 0 (sz m + 128) = num 128 m := by unfold num; simp; omega

theorem strCells_cb (s : ByteArray) : Lib.strCells s = cb (sB s) := by
  unfold Lib.strCells cb sB
  rw [List.map_map]
  rfl
set_option maxHeartbeats 1000000 in
theorem reftext_any (s : ByteArray) (w : World) (hs : s.size ≤ 40000) : Calls Try.prog 68 #[.string s] w (Owned w (num 0 s.size ++ sB s)) := by
  have H := Lib.hid (refnum_any s.size w (by omega))
  have HL9 := Lib.hid (num_len9 0 s.size (by omega))
  obtain ⟨i0, hi, hz0, hz1, hz2⟩ := info_parts info5
  have HI := Lib.hid hi
  have HZ0 := Lib.hid hz0
  have HZ1 := Lib.hid hz1
  have HZ2 := Lib.hid hz2
  clear hi hz0 hz1 hz2
  go_enter Try.func68, Try.ntmps68
  go_wp2_with (first
    | (go_at_call 66; refine (H.out).mono ?_; rintro e w' ⟨v', rfl, ho, hB⟩)
    | (at_builtin; refine Lib.wpList_append_own_string _ rfl (.tmp 6) (.tmp 7) 28 9 rfl w.heap.size 5 i0 Try.underlying28 Try.underlying9 HI.out HZ0.out HZ1.out HZ2.out _ _ _ rfl ho s rfl (by have := HL9.out; unfold maxLen; omega) (by have := HL9.out; omega) hB.size ?_; intro v2 w2 ho2 hg2 _; have hB2 := ho.below hg2 hB hB.size; clear hg2))
  go_ret
  exact ⟨_, rfl, by unfold OB; rw [List.length_append, sB_len, cb_append, ← strCells_cb]; exact ho2, hB2⟩
/- What a writer's call leaves of what was there. -/
open Go.RowKit

theorem Turn.cell {b : Nat} {v : Value} {w w' : World} (h : Turn b v w w') {p : Addr} (hp : p.block < w.heap.size) (hb : p.block ≠ b) (hv : some p.block ≠ v.ownBlock) : w'.cell? p = w.cell? p :=
  World.cell?_of_block (h.block _ hp hb hv)
theorem WR.own_lt {w : World} {b base : Nat} {v : Value} {bs : List Nat} (h : WR w b base v bs) : ∀ k, v.ownBlock = some k → k < w.heap.size := fun k hk => (World.ownsRow.lt h.2.2.2.1 k hk).2

/-- A box's cells, behind a call that wrote to a writer. -/
theorem box_after {w w1 : World} {b base : Nat} {v : Value} {bs : List Nat} {C : Array Value} {t : TypeId} (hw : WR w b base v bs) (ht : Turn b v (w.alloc (.cells C t)) w1) (j : Nat) : w1.cell? ⟨w.heap.size, j, none⟩ = C[j]? := by
  have h1 := hw.lt
  refine (ht.cell (p := ⟨w.heap.size, j, none⟩) (by simp) (by simp; omega) ?_).trans (by simp)
  intro e
  have := hw.own_lt _ e.symm
  simp at this
theorem Wrote.boxed {w w' : World} {b base : Nat} {v : Value} {bs : List Nat} {o : Obj} (h : Wrote b base v (w.alloc o) bs w') : Wrote b base v w bs w' := h.after ((Below.refl _ _).alloc (Nat.le_refl _) _)
theorem Wrote.kept {w w1 w' : World} {b base : Nat} {v : Value} {bs : List Nat} (h : Wrote b base v w bs w1) (hb : Below w1.heap.size w1 w') : Wrote b base v w bs w' := by
  obtain ⟨v', h1, h2, h3⟩ := h
  exact ⟨v', h1.kept hb, h2.trans h3 (Turn.below hb), h3⟩

/- What a reader is; the walks of its Fail, take, Open, Left, Bad and End. -/
open Go.RowKit

/-- What this slice points to lies below block b. -/
def Far (b : Nat) (v : Value) : Prop := ∀ k, v.ownBlock = some k → k < b
theorem Far.ne {b : Nat} {v : Value} (h : Far b v) : v.ownBlock ≠ some b := fun e => Nat.lt_irrefl _ (h b e)
theorem Far.nil (b : Nat) : Far b (.slice none 0 0) := fun k e => by simp [Value.ownBlock] at e
/-- A reader: block b holds the slice v, whose elements are the bytes ds that are left, and whether it is bad. -/
def RR (w : World) (b : Nat) (ds : List Nat) (bad : Bool) : Prop :=
  ∃ v, w.heap[b]? = some (.cells #[v, .bool bad] 183 (0, 0)) ∧ RB w v ds ∧ Far b v ∧ (bad = true → ds = [])
/-- Of what was there, block b alone may have turned. -/
abbrev Rd (b : Nat) (w w' : World) : Prop := Turn b (.slice none 0 0) w w'
theorem Rd.trans {b : Nat} {w w1 w2 : World} (h : Rd b w w1) (k : Rd b w1 w2) : Rd b w w2 := Turn.trans h (Moved.refl _ _) k
theorem Rd.outside {b B : Nat} {W w w' : World} (h : Rd b w w') (hW : Below B W w) (hB : B ≤ w.heap.size) (hb : B ≤ b) : Below B W w' := Turn.outside h hW hB hb (by simp [Value.ownBlock])
theorem RB.turned {w w' : World} {b : Nat} {v : Value} {bs : List Nat} (h : RB w v bs) (ht : Rd b w w') (hb : v.ownBlock ≠ some b) : RB w' v bs := by
  obtain ⟨h1, h2, h3⟩ := h
  refine ⟨h1, h2, ?_⟩
  rcases h3 with h3 | ⟨x, cap, hv, ha, hm, hc⟩
  · exact .inl h3
  · refine .inr ⟨x, cap, hv, ha, hm, fun i hi => ?_⟩
    have hx : x.block ≠ b := by intro e; apply hb; rw [hv]; simp [Value.ownBlock, e]
    have hbk : (x.add i).block = x.block := by unfold Addr.add; split <;> rfl
    rw [ht.cell (p := x.add i) (cell_spot (hc i hi)).2 (by rw [hbk]; exact hx) (by simp [Value.ownBlock])]
    exact hc i hi
theorem RR.kept {w w' : World} {b : Nat} {ds : List Nat} {bad : Bool} (h : RR w b ds bad) (hb : Below w.heap.size w w') : RR w' b ds bad := by
  obtain ⟨v, h1, h2, h3, h4⟩ := h
  exact ⟨v, (hb.block b (lt_of_block h1)).trans h1, h2.kept hb, h3, h4⟩
theorem two_cells {w : World} {b : Nat} {u v : Value} {t : TypeId} (h : w.heap[b]? = some (.cells #[u, v] t (0, 0))) :
    w.cell? ⟨b, 0, none⟩ = some u ∧ w.cell? ⟨b, 1, none⟩ = some v ∧ w.frozen? ⟨b, 0, none⟩ = false ∧ w.frozen? ⟨b, 1, none⟩ = false := by
  simp [World.cell?, World.frozen?, h]
theorem heap_set {w : World} {b : Nat} {C : Array Value} {t : TypeId} (h : w.heap[b]? = some (.cells C t (0, 0))) (j : Nat) (u : Value) : (w.setCell ⟨b, j, none⟩ u).heap[b]? = some (.cells (C.setIfInBounds j u) t (0, 0)) := by
  have hlt := lt_of_block h
  have h' : w.heap[b] = .cells C t (0, 0) := by simpa [Array.getElem?_eq_getElem hlt] using h
  show (w.heap.modify b _)[b]? = _
  rw [Array.getElem?_eq_getElem (by simpa using hlt), Array.getElem_modify_self, h']
  rfl
theorem Rd.set {b : Nat} {w w' : World} (h : Rd b w w') (j : Nat) (u : Value) : Rd b w (w'.setCell ⟨b, j, none⟩ u) := by
  refine ⟨h.os, h.tape, h.output, by have := h.size; simpa using this, fun k hk hb hv => ?_⟩
  rw [Below.heap_setCell _ _ _ _ (by exact hb)]
  exact h.block k hk hb hv

theorem fail_rd (b : Nat) (ds : List Nat) (bad : Bool) (w : World) (hr : RR w b ds bad) :
    Calls Try.prog 128 #[.pointer (some ⟨b, 0, none⟩)] w fun e w' => e = .returned (.tuple #[]) ∧ RR w' b [] true ∧ Rd b w w' := by
  obtain ⟨v, h1, h2, h3, h4⟩ := hr
  obtain ⟨c0, c1, f0, f1⟩ := two_cells h1
  have HE := Lib.hid h1
  clear h1 h2 h3 h4
  go_enter Try.func128, Try.ntmps128
  go_wp2
  go_end0
  refine ⟨rfl, ⟨.slice none 0 0, ?_, RB.nil _, Far.nil _, fun _ => rfl⟩, Rd.set (Rd.set (Turn.refl _ _ _) 0 _) 1 _⟩
  exact heap_set (heap_set HE.out 0 _) 1 _
theorem fail_nil (w : World) : Calls Try.prog 128 #[.pointer none] w fun e w' => e = .returned (.tuple #[]) ∧ w = w' := by
  go_enter Try.func128, Try.ntmps128
  go_wp2
  go_end0
  exact ⟨rfl, rfl⟩

/-- take of more than there is. -/
theorem take_no (b n : Nat) (ds : List Nat) (bad : Bool) (w : World) (hr : RR w b ds bad) (hn : ds.length < n) :
    Calls Try.prog 129 #[.pointer (some ⟨b, 0, none⟩), .int .u64 (n : Int)] w fun e w' => e = .returned (.slice none 0 0) ∧ RR w' b [] true ∧ Rd b w w' := by
  have HF := Lib.hid (fail_rd b ds bad w hr)
  obtain ⟨v, h1, h2, h3, h4⟩ := hr
  obtain ⟨L, hL⟩ : ∃ L, ds.length = L := ⟨_, rfl⟩
  obtain ⟨a, cap, rfl⟩ := h2.shapeN' hL
  obtain ⟨c0, c1, f0, f1⟩ := two_cells h1
  have hL2 := h2.2.1
  rw [hL] at hn hL2
  have hw : IntKind.u64.wrap (L : Int) = (L : Int) := IntWalk.u64_in _ ⟨by omega, by omega⟩
  have hd : decide ((L : Int) < (n : Int)) = true := by simp; omega
  clear h1 h2 h3 h4 hL
  go_enter Try.func129, Try.ntmps129
  go_wp2_with (go_at_call 128; refine (HF.out).mono ?_; rintro e w' ⟨rfl, hr', ht⟩)
  go_ret
  exact ⟨rfl, hr', ht⟩

/-- What take hands back. -/
def Took (b : Nat) (w : World) (ds es : List Nat) (bad : Bool) (e : Ending) (w' : World) : Prop := ∃ v', e = .returned v' ∧ RB w' v' ds ∧ Far b v' ∧ RR w' b es bad ∧ Rd b w w'
theorem rb_take {w : World} {x : Addr} {L cap : Nat} {ds : List Nat} (h : RB w (.slice (some x) L cap) ds) (n : Nat) (hn : n ≤ ds.length) : RB w (.slice (some x) n cap) (ds.take n) := by
  obtain ⟨h1, h2, h3⟩ := h
  rcases h3 with ⟨h, _⟩ | ⟨x', cap', hv, hc, hm, hcell⟩
  · simp at h
  · simp only [Value.slice.injEq, Option.some.injEq] at hv
    obtain ⟨rfl, rfl, rfl⟩ := hv
    have hl : (ds.take n).length = n := by simp; omega
    refine ⟨fun c hc => h1 c (List.mem_of_mem_take hc), by omega, .inr ⟨x, cap, by rw [hl], by omega, hm, fun i hi => ?_⟩⟩
    rw [hcell i (by omega)]
    congr 3
    simp only [List.getD_eq_getElem?_getD, List.getElem?_take]
    rw [if_pos (by omega)]
theorem rb_drop {w : World} {x y : Addr} {L cap k c : Nat} {ds : List Nat} (h : RB w (.slice (some x) L cap) ds) (n : Nat) (hn : n ≤ ds.length) (hy : y = x.add n ∨ n = ds.length) (hk : k = ds.length - n) (hkc : k ≤ c) (hcm : c ≤ maxLen) : RB w (.slice (some y) k c) (ds.drop n) := by
  have hl : (ds.drop n).length = k := by rw [List.length_drop]; exact hk.symm
  have h2 := h.2.1
  refine ⟨fun c hc => h.1 c (List.mem_of_mem_drop hc), by omega, .inr ⟨y, c, by rw [hl], by omega, hcm, fun i hi => ?_⟩⟩
  rw [hl] at hi
  obtain ⟨b, off, cap', hv, _, _, _, hcell⟩ := h.at (by omega)
  simp only [Value.slice.injEq, Option.some.injEq] at hv
  rcases hy with rfl | hy
  · rw [hv.1, add_at, add_at, Nat.add_assoc, hcell (n + i) (by omega)]
    congr 3
    simp
  · omega
theorem own_addr {x y : Addr} {n c L cap b : Nat} (h : Far b (Value.slice (some x) L cap)) (hy : y = x ∨ ∃ k, y = x.add k) : Far b (Value.slice (some y) n c) := by
  have e : y.block = x.block := by
    rcases hy with rfl | ⟨k, rfl⟩
    · rfl
    · unfold Addr.add; split <;> rfl
  intro k hk
  exact h k (by simpa [Value.ownBlock, e] using hk)
theorem took {w : World} {b n L cap k c : Nat} {x y : Addr} {ds : List Nat} {bad : Bool} (hh : w.heap[b]? = some (.cells #[.slice (some x) L cap, .bool bad] 183 (0, 0))) (h : RB w (.slice (some x) L cap) ds)
    (h3 : Far b (Value.slice (some x) L cap)) (h4 : bad = true → ds = []) (hn : n ≤ ds.length) (hy : y = x.add n ∨ (n = ds.length ∧ y = x)) (hk : k = ds.length - n) (hkc : k ≤ c) (hcm : c ≤ maxLen) :
    Took b w (ds.take n) (ds.drop n) bad (.returned (.slice (some x) n cap)) (w.setCell ⟨b, 0, none⟩ (.slice (some y) k c)) := by
  have ht : Rd b w (w.setCell ⟨b, 0, none⟩ (.slice (some y) k c)) := Rd.set (Turn.refl _ _ _) 0 _
  have hb1 := own_addr (n := n) (c := cap) h3 (.inl rfl)
  have hb2 := own_addr (n := k) (c := c) h3 (y := y) (hy.elim (fun h => .inr ⟨n, h⟩) (fun h => .inl h.2))
  have hd := rb_drop h n hn (hy.elim .inl (fun h => .inr h.1)) hk hkc hcm
  exact ⟨_, rfl, (rb_take h n hn).turned ht hb1.ne, hb1, ⟨_, heap_set hh 0 _, hd.turned ht hb2.ne, hb2, fun hb => by rw [h4 hb]; simp⟩, ht⟩

set_option maxHeartbeats 1000000 in
theorem take_yes (b n : Nat) (ds : List Nat) (bad : Bool) (w : World) (hr : RR w b ds bad) (hn : n ≤ ds.length) :
    Calls Try.prog 129 #[.pointer (some ⟨b, 0, none⟩), .int .u64 (n : Int)] w (Took b w (ds.take n) (ds.drop n) bad) := by
  obtain ⟨v, h1, h2, h3, h4⟩ := hr
  obtain ⟨c0, c1, f0, f1⟩ := two_cells h1
  rcases h2.2.2 with ⟨hv, hd0⟩ | ⟨x, cap, hv, hcl, hcm, hcell⟩
  · subst hv
    subst hd0
    obtain rfl : n = 0 := by simpa using hn
    have HE := Lib.hid h1
    have H4 := Lib.hid h4
    clear h1 h2 h3 h4 hn
    go_enter Try.func129, Try.ntmps129
    go_wp2
    go_ret
    exact ⟨_, rfl, RB.nil _, Far.nil _, ⟨_, heap_set HE.out 0 _, RB.nil _, Far.nil _, fun _ => rfl⟩, Rd.set (Turn.refl _ _ _) 0 _⟩
  · obtain ⟨L, hL⟩ : ∃ L, ds.length = L := ⟨_, rfl⟩
    rw [hL] at hv hcl hn
    subst hv
    have hL2 := h2.2.1
    rw [hL] at hL2
    have hw : IntKind.u64.wrap (L : Int) = (L : Int) := IntWalk.u64_in _ ⟨by omega, by omega⟩
    have hd : decide ((L : Int) < (n : Int)) = false := by simp; omega
    have HE := Lib.hid h1
    have H4 := Lib.hid h4
    have H2 := Lib.hid h2
    have H3 := Lib.hid h3
    have HM := Lib.hid hcm
    have HL := Lib.hid hL
    clear h1 h2 h3 h4 hcell hL hcm
    by_cases hcn : cap = n
    · obtain rfl : L = n := by omega
      subst hcn
      go_enter Try.func129, Try.ntmps129
      go_wp2
      go_ret
      exact took HE.out H2.out H3.out H4.out (by rw [HL.out]; exact Nat.le_refl _) (.inr ⟨HL.out.symm, rfl⟩) (by rw [HL.out]; simp) (by simp) (by simp)
    · go_enter Try.func129, Try.ntmps129
      go_wp2
      go_ret
      exact took HE.out H2.out H3.out H4.out (by rw [HL.out]; exact hn) (.inl rfl) (by rw [HL.out]) (by omega) (by have := HM.out; omega)

set_option maxHeartbeats 400000 in
theorem take_nil (n : Nat) (w : World) : Calls Try.prog 129 #[.pointer none, .int .u64 (n : Int)] w fun e w' => e = .returned (.slice none 0 0) ∧ w = w' := by
  go_enter Try.func129, Try.ntmps129
  go_wp2_with (go_at_call 128; refine (fail_nil _).mono ?_; rintro e w' ⟨rfl, rfl⟩)
  go_ret
  exact ⟨rfl, rfl⟩

/-- What Open hands back. -/
def Opens (w : World) (ds : List Nat) (e : Ending) (w' : World) : Prop := ∃ b, e = .returned (.pointer (some ⟨b, 0, none⟩)) ∧ w.heap.size ≤ b ∧ RR w' b ds false ∧ Below w.heap.size w w'
theorem open_any (v : Value) (ds : List Nat) (w : World) (hv : RB w v ds) (hl : ds.length ≤ 10000000) : Calls Try.prog 99 #[v] w (Opens w ds) := by
  have H := Lib.hid (bclone_any v ds w hv)
  have hlt := Lib.hid hv.1
  clear hv
  go_enter Try.func99, Try.ntmps99
  go_wp2_with (go_at_call 58; refine (H.out).mono ?_; rintro e w1 ⟨c, rfl, ho, hb⟩; obtain ⟨a1, n1, c1, rfl⟩ := ho.slice)
  go_ret
  have hb2 : Below w1.heap.size w1 (w1.alloc (.cells #[.slice a1 n1 c1, .bool false] 183)) := (Below.refl _ _).alloc (Nat.le_refl _) _
  refine ⟨_, rfl, hb.size, ⟨_, heap_alloc_new w1 _, (ho.rb hlt.out (by omega)).kept hb2, ?_, by simp⟩, hb.trans (hb2.mono hb.size)⟩
  intro k e
  exact (World.ownsRow.lt ho _ e).2
/-- End's answer. -/
def endOf (ds : List Nat) (bad : Bool) : Int := if bad = true ∨ ds ≠ [] then 20 else 0
theorem end_rd (b : Nat) (ds : List Nat) (bad : Bool) (w : World) (hr : RR w b ds bad) : Calls Try.prog 102 #[.pointer (some ⟨b, 0, none⟩)] w fun e w' => e = .returned (.int .i64 (endOf ds bad)) ∧ w = w' := by
  obtain ⟨v, h1, h2, h3, h4⟩ := hr
  obtain ⟨L, hL⟩ : ∃ L, ds.length = L := ⟨_, rfl⟩
  obtain ⟨a, cap, rfl⟩ := h2.shapeN' hL
  obtain ⟨c0, c1, f0, f1⟩ := two_cells h1
  have HE : endOf ds bad = if bad = true ∨ L ≠ 0 then 20 else 0 := by
    unfold endOf
    by_cases e : ds = []
    · subst e; simp at hL; subst hL; simp
    · have : L ≠ 0 := fun h => e (List.length_eq_zero_iff.mp (hL.trans h)); simp [e, this]
  rw [HE]
  clear h1 h2 h3 h4 hL HE
  cases bad with
  | true =>
    rw [if_pos (.inl rfl)]
    go_enter Try.func102, Try.ntmps102
    go_wp2
    go_ret
    exact ⟨rfl, rfl⟩
  | false =>
    by_cases h0 : L = 0
    · subst h0
      rw [if_neg (by simp)]
      go_enter Try.func102, Try.ntmps102
      go_wp2
      go_ret
      exact ⟨rfl, rfl⟩
    · have hd : 0 < L := by omega
      rw [if_pos (.inr h0)]
      clear h0
      go_enter Try.func102, Try.ntmps102
      go_wp2
      go_ret
      exact ⟨rfl, rfl⟩
theorem end_nil (w : World) : Calls Try.prog 102 #[.pointer none] w fun e w' => e = .returned (.int .i64 1) ∧ w = w' := by
  go_enter Try.func102, Try.ntmps102
  go_wp2
  go_ret
  exact ⟨rfl, rfl⟩
end Go.Proofs.Ythefnakbpalecaa

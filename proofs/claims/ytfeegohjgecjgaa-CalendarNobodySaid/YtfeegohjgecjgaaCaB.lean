/- Elapsed. -/
import Derived.Test.YtfeegohjgecjgaaCaA
import Derived.OneCell
namespace Go.Proofs.Ytfeegohjgecjgaa
open Go.RowKit Go.Shelf
attribute [local go_sem] Oper.semAt_some

theorem Only.tame {X : Nat → Prop} {B : Nat} {w V V' : World} (h : Only X w V) (t : Tame B V V') (hB : w.heap.size ≤ B) : Only X w V' :=
  ⟨t.os.trans h.os, t.tape.trans h.tape, t.output.trans h.output, Nat.le_trans h.size t.size, fun k hk hx => by
    have hlt : k < V.heap.size := Nat.lt_of_lt_of_le hk h.size
    obtain ⟨o, ho⟩ : ∃ o, V.heap[k]? = some o := ⟨_, Array.getElem?_eq_getElem hlt⟩
    exact (t.block k o ho (.inr (by omega))).trans (ho.symm.trans (h.block k hk hx))⟩
theorem Only.setCell_new {X : Nat → Prop} {w w' : World} (h : Only X w w') {p : Addr} (hp : w.heap.size ≤ p.block) (v : Value) : Only X w (w'.setCell p v) :=
  ⟨h.os, h.tape, h.output, by have := h.size; simpa using this, fun k hk hx => (Below.heap_setCell _ _ _ _ (by omega)).trans (h.block k hk hx)⟩
theorem Tame.same {B : Nat} {V V' : World} (h : Tame B V V') {p : Addr} {v : Value} (hc : V.cell? p = some v) : V'.heap[p.block]? = V.heap[p.block]? := by
  obtain ⟨o, ho, hi⟩ := isCells_of_cell hc
  exact (h.block _ o ho (.inl hi)).trans ho.symm
theorem Pl.tame {B base P C : Nat} {a : Option Addr} {n c : Nat} {F T : Nat → Int} {w w' : World} (h : Pl base P C a n c F T w) (t : Tame B w w') : Pl base P C a n c F T w' := by
  refine ⟨h.hP, h.hC, h.ne, Nat.lt_of_lt_of_le h.lt t.size, t.cell h.row, t.cell h.bef, h.sps.tame t, h.far, ?_⟩
  rcases h.cel with ⟨k, hc⟩ | ⟨g, vc, k, hc, hg, hl, hk⟩
  · exact .inl ⟨k, hc.of_block (t.same (p := ⟨C, 0, none⟩) hc.build)⟩
  · exact .inr ⟨g, vc, k, hc.of_block (t.same (p := ⟨C, 0, none⟩) hc.build), hg, Nat.lt_of_lt_of_le hl t.size, fun j hj => t.cell (hk j hj)⟩
theorem Ck.tame {B : Nat} {L : Loc} {D : Cal} {w w' : World} (h : Ck L D w) (t : Tame B w w') : Ck L D w' :=
  ⟨t.cell h.k0, t.cell h.k1, t.cell h.k2, t.cell h.al, h.cs.tame t, h.cap, h.pl.tame t, h.neK, h.neA, h.far⟩
theorem keepsOthers_only {X : Nat → Prop} {w w' : World} (h : Only X w w') (hx : ∀ k o, X k → w.heap[k]? = some o → o.isCells = true) : KeepsOthers w w' :=
  ⟨h.size, fun k o hk ho => by
    by_cases hc : X k
    · rw [hx k o hc hk] at ho; cases ho
    · exact (h.block k (Array.getElem?_eq_some_iff.1 hk).1 hc).trans hk⟩
theorem Ck.cells {L : Loc} {D : Cal} {w : World} (h : Ck L D w) : ∀ k o, k = L.C → w.heap[k]? = some o → o.isCells = true := by
  rintro k o rfl ho
  have hc : ∃ v, w.cell? ⟨L.C, 0, none⟩ = some v := by
    rcases h.pl.cel with ⟨k, hc⟩ | ⟨g, vc, k, hc, _⟩
    · exact ⟨_, hc.build⟩
    · exact ⟨_, hc.build⟩
  obtain ⟨v, hv⟩ := hc
  obtain ⟨o', ho', hi⟩ := isCells_of_cell hv
  have : o = o' := by
    have h2 : w.heap[L.C]? = some o' := ho'
    rw [ho] at h2
    injection h2
  rw [this]; exact hi

/-- A block of one cell. -/
def One (W : World) (b : Nat) (v : Value) : Prop := ∃ t, W.heap[b]? = some (.cells #[v] t (0, 0))
theorem One.var {W : World} {b : Nat} {v : Value} (h : One W b v) : Var W b v := by
  obtain ⟨t, h⟩ := h
  exact ⟨cell_of_one h, free_of_one h⟩
theorem One.lt {W : World} {b : Nat} {v : Value} (h : One W b v) : b < W.heap.size := h.var.lt
theorem One.tame {B : Nat} {W W' : World} {b : Nat} {v : Value} (h : One W b v) (t : Tame B W W') : One W' b v := by
  obtain ⟨ty, h⟩ := h
  exact ⟨ty, t.block b _ h (.inl rfl)⟩
theorem One.kept {W W' : World} {b : Nat} {v : Value} (h : One W b v) (t : Below W.heap.size W W') : One W' b v := h.tame (Tame.of_below (B := 0) t)
theorem One.keptX {X : Nat → Prop} {W W' : World} {b : Nat} {v : Value} (h : One W b v) (t : Kept X W W') (hx : ¬ X b) : One W' b v := by
  obtain ⟨ty, h⟩ := h
  exact ⟨ty, (t.block b (lt_of_block h) hx).trans h⟩
theorem One.set {W : World} {b : Nat} {v : Value} (h : One W b v) (u : Value) : One (W.setCell ⟨b, 0, none⟩ u) b u := by
  obtain ⟨ty, h⟩ := h
  exact ⟨ty, one_setCell h⟩
theorem One.other {W : World} {b c : Nat} {v : Value} (h : One W b v) (hne : b ≠ c) (o : Nat) (u : Value) : One (W.setCell ⟨c, o, none⟩ u) b v := by
  obtain ⟨ty, h⟩ := h
  exact ⟨ty, (Below.heap_setCell _ _ _ _ hne).trans h⟩
theorem One.new (W : World) (v : Value) (t : TypeId) : One (W.alloc (.cells #[v] t)) W.heap.size v := ⟨t, World.alloc_heap_new W _⟩
theorem sps_lt {w : World} {a : Option Addr} {n : Nat} {F T : Nat → Int} (h : Sps w a n F T) : ∀ z, 0 < n → a = some z → z.block < w.heap.size := fun z h1 h2 => by
  obtain ⟨rb, ro, e, hlt, _⟩ := h.2 h1
  rw [h2] at e
  injection e with e
  subst e
  exact hlt
theorem Sps.set {w : World} {a : Option Addr} {n : Nat} {F T : Nat → Int} (h : Sps w a n F T) (N : Nat) (hN : ∀ z, 0 < n → a = some z → z.block ≠ N) (u : Value) : Sps (w.setCell ⟨N, 0, none⟩ u) a n F T :=
  h.keptX (X := (· = N)) (Kept.setCell _ _ _ rfl) (fun z h1 h2 h3 => hN z h1 h2 h3)
/-- A cell of one's own is written: the clock stays, even where the plan's sums are one number that is written as it was. -/
theorem Ck.set {L : Loc} {D : Cal} {w0 w : World} {N : Nat} {v : Value} (h0 : Ck L D w0) (hN : w0.heap.size ≤ N) (h : Ck L D w) (h1 : One w N v) (u : Value) (hz : D.n = 0 → u = v) : Ck L D (w.setCell ⟨N, 0, none⟩ u) := by
  have hk := h0.ltK
  have ha := h0.ltA
  have hp := h0.pl.ltP
  have hc := h0.pl.lt
  have hr1 := sps_lt h0.cs
  have hr2 := sps_lt h0.pl.sps
  have cell : ∀ b o, b ≠ N → (w.setCell ⟨N, 0, none⟩ u).cell? ⟨b, o, none⟩ = w.cell? ⟨b, o, none⟩ := fun b o hne => World.cell?_of_block (Below.heap_setCell _ _ _ _ hne)
  refine ⟨(cell _ _ (by omega)).trans h.k0, (cell _ _ (by omega)).trans h.k1, (cell _ _ (by omega)).trans h.k2, (cell _ _ (by omega)).trans h.al, h.cs.set N (fun z h2 h3 => by have := hr1 z h2 h3; omega) u, h.cap, ?_, h.neK, h.neA, h.far⟩
  refine ⟨h.pl.hP, h.pl.hC, h.pl.ne, by simpa using h.pl.lt, (cell _ _ (by omega)).trans h.pl.row, (cell _ _ (by omega)).trans h.pl.bef, h.pl.sps.set N (fun z h2 h3 => by have := hr2 z h2 h3; omega) u, h.pl.far, ?_⟩
  have hC : (w.setCell ⟨N, 0, none⟩ u).heap[L.C]? = w.heap[L.C]? := Below.heap_setCell _ _ _ _ (by show L.C ≠ N; omega)
  rcases h.pl.cel with ⟨k, hce⟩ | ⟨g, vc, k, hce, hg, hl, hkj⟩
  · exact .inl ⟨k, hce.of_block hC⟩
  · refine .inr ⟨g, vc, k, hce.of_block hC, hg, by simpa using hl, fun j hj => ?_⟩
    by_cases e : g = N
    · subst e
      by_cases hn : D.n = 0
      · have hj0 : j = 0 := by omega
        subst hj0
        rw [hz hn]
        have e1 := (h1.set v).var.1
        have e2 := h1.var.1
        rw [e1, ← e2]
        exact hkj 0 hj
      · have h2 := hkj 1 (by omega)
        obtain ⟨t, ht⟩ := h1
        simp [World.cell?, ht] at h2
    · exact (cell _ _ e).trans (hkj j hj)
theorem Cal.V_none {D : Cal} (h : D.n = 0) (t : Int) : D.V t = 0 := by
  unfold Cal.V untilV
  rw [h]
  show _ * 0 + 0 = (0 : Int)
  omega

set_option maxRecDepth 100000 in
set_option maxHeartbeats 4000000 in
theorem elapsed_none (p : Option Addr) (w : World) (x y : Int) (hcr : Calls Try.prog 58 #[.pointer p] (w.alloc (.cells #[.pointer p] 55)) fun e w' => e = .returned (.bool false) ∧ w.alloc (.cells #[.pointer p] 55) = w') :
    Calls Try.prog 40 #[.pointer p, .int .i64 x, .int .i64 y] w fun e w' => e = .returned (.tuple #[.int .i64 0, .int .i64 1]) ∧ Below w.heap.size w w' := by
  refine (callsIn_wide (n := 3)).1 ?_
  refine callsIn_of_wp_marks Try.func40 rfl trivial ?_
  simp only [Try.ntmps40, List.size_toArray, List.length_cons, List.length_nil, Nat.reduceAdd, Nat.reduceSub, Array.replicate_succ, Array.replicate_zero, List.push_toArray, List.append_toArray, List.nil_append, List.cons_append]
  gi_wp2_with (refine ⟨trivial, ?_⟩; gi_at_call 58; refine (callsIn_wide.2 hcr).mono ?_; rintro e w' ⟨rfl, rfl⟩)
  refine ⟨.tuple #[.int .i64 0, .int .i64 1], ?_, rfl, (Below.refl _ _).alloc (Nat.le_refl _) _⟩
  simp [results, Try.results40, go_sem]
set_option maxRecDepth 100000 in
set_option maxHeartbeats 8000000 in
theorem elapsed_bad {L : Loc} {D : Cal} {w : World} (h : Ck L D w) (x y : Int) (hb : ¬ (instB x = true ∧ instB y = true ∧ x ≤ y)) :
    Calls Try.prog 40 #[.pointer (some ⟨L.K, 0, none⟩), .int .i64 x, .int .i64 y] w fun e w' => e = .returned (.tuple #[.int .i64 0, .int .i64 2]) ∧ Below w.heap.size w w' := by
  have hB0 : Below w.heap.size w (w.alloc (.cells #[.pointer (some ⟨L.K, 0, none⟩)] 55)) := (Below.refl _ _).alloc (Nat.le_refl _) _
  have hcr := ccreated_yes (h.kept hB0)
  have hi1 := instant_any x
  have hi2 := instant_any y
  obtain ⟨bx, ex⟩ : ∃ b, instB x = b := ⟨_, rfl⟩
  obtain ⟨by_, ey⟩ : ∃ b, instB y = b := ⟨_, rfl⟩
  obtain ⟨d, ed⟩ : ∃ b, decide (y < x) = b := ⟨_, rfl⟩
  have hbad : bx = false ∨ by_ = false ∨ d = true := by
    cases bx with
    | false => exact .inl rfl
    | true =>
      cases by_ with
      | false => exact .inr (.inl rfl)
      | true => exact .inr (.inr (by rw [← ed]; exact decide_eq_true (by
          rcases Int.lt_or_le y x with h | h
          · exact h
          · exact absurd ⟨ex, ey, h⟩ hb)))
  rw [ex] at hi1
  rw [ey] at hi2
  have HB := Lib.hid hB0
  clear h hb ex ey hB0
  cases bx <;> cases by_ <;> cases d
  case true.true.false => rcases hbad with h | h | h <;> cases h
  all_goals
    clear hbad
    refine (callsIn_wide (n := 3)).1 ?_
    refine callsIn_of_wp_marks Try.func40 rfl trivial ?_
    simp only [Try.ntmps40, List.size_toArray, List.length_cons, List.length_nil, Nat.reduceAdd, Nat.reduceSub, Array.replicate_succ, Array.replicate_zero, List.push_toArray, List.append_toArray, List.nil_append, List.cons_append]
    gi_wp2_with (first
      | (refine ⟨trivial, ?_⟩; gi_at_call 58; refine (callsIn_wide.2 hcr).mono ?_; rintro e w' ⟨rfl, rfl⟩)
      | (refine ⟨trivial, ?_⟩; gi_at_call 62; first | (with_reducible refine (callsIn_wide.2 (hi1 _)).mono ?_; rintro e w' ⟨rfl, rfl⟩) | (with_reducible refine (callsIn_wide.2 (hi2 _)).mono ?_; rintro e w' ⟨rfl, rfl⟩)))
    try (refine ⟨trivial, ?_⟩; gi_wp2)
    refine ⟨.tuple #[.int .i64 0, .int .i64 2], ?_, rfl, HB.out⟩
    simp [results, Try.results40, go_sem]
set_option maxRecDepth 100000 in
set_option maxHeartbeats 8000000 in
theorem elapsed_ok {L : Loc} {D : Cal} {w : World} (h : Ck L D w) (hd : D.ok) (x y : Int) (x0 : 0 ≤ x) (xy : x ≤ y) (y1 : y ≤ 1125899906842624) :
    Calls Try.prog 40 #[.pointer (some ⟨L.K, 0, none⟩), .int .i64 x, .int .i64 y] w (Asks L D (.tuple #[.int .i64 (D.g y - D.g x), .int .i64 0]) w) := by
  have hB0 : Below w.heap.size w (w.alloc (.cells #[.pointer (some ⟨L.K, 0, none⟩)] 55)) := (Below.refl _ _).alloc (Nat.le_refl _) _
  have v0 := One.new w (.pointer (some ⟨L.K, 0, none⟩)) 55
  have hcr := ccreated_yes (h.kept hB0)
  have i1 : instB x = true := (instB_iff x).2 ⟨by omega, by omega⟩
  have i2 : instB y = true := (instB_iff y).2 ⟨by omega, by omega⟩
  have hi1 := instant_any x
  have hi2 := instant_any y
  rw [i1] at hi1
  rw [i2] at hi2
  have d1 : decide (y < x) = false := decide_eq_false (by omega)
  have HCK := Lib.hid h
  have HD := Lib.hid hd
  have HB0 := Lib.hid hB0
  have HV0 := Lib.hid v0
  clear h hd hB0 v0 i1 i2
  obtain ⟨W2, hW2⟩ : ∃ W2, (w.alloc (.cells #[.pointer (some ⟨L.K, 0, none⟩)] 55)).alloc (.cells #[.int .i64 0] 2) = W2 := ⟨_, rfl⟩
  have hb2 : Below w.heap.size w W2 := by rw [← hW2]; exact HB0.out.alloc HB0.out.size _
  have hz2 : W2.heap.size = w.heap.size + 2 := by rw [← hW2]; simp
  have vK : One W2 w.heap.size (.pointer (some ⟨L.K, 0, none⟩)) := by rw [← hW2]; exact HV0.out.kept ((Below.refl _ _).alloc (Nat.le_refl _) _)
  have vN : One W2 (w.heap.size + 1) (.int .i64 0) := by
    rw [← hW2]
    have := One.new (w.alloc (.cells #[.pointer (some ⟨L.K, 0, none⟩)] 55)) (.int .i64 0) 2
    rwa [World.size_alloc] at this
  have hck2 := HCK.out.kept hb2
  have hk0 := hck2.k0
  have hkc := vK.var.1
  have hfr := freed_any (some ⟨L.A, 0, none⟩) x y W2
  have emx : max x 0 = x := by omega
  have emn : min y 1125899906842624 = y := by omega
  rw [emx, emn] at hfr
  have HVK := Lib.hid vK
  have HVN := Lib.hid vN
  have HB2 := Lib.hid hb2
  have HC2 := Lib.hid hck2
  have HZ := Lib.hid hz2
  clear emx emn vK vN hb2 hck2 hz2
  subst hW2
  refine (callsIn_wide (n := 3)).1 ?_
  refine callsIn_of_wp_marks Try.func40 rfl trivial ?_
  simp only [Try.ntmps40, List.size_toArray, List.length_cons, List.length_nil, Nat.reduceAdd, Nat.reduceSub, Array.replicate_succ, Array.replicate_zero, List.push_toArray, List.append_toArray, List.nil_append, List.cons_append]
  gi_wp2_with (first
    | (refine ⟨trivial, ?_⟩; gi_at_call 58; refine (callsIn_wide.2 hcr).mono ?_; rintro e w' ⟨rfl, rfl⟩)
    | (refine ⟨trivial, ?_⟩; gi_at_call 62; first | (with_reducible refine (callsIn_wide.2 (hi1 _)).mono ?_; rintro e w' ⟨rfl, rfl⟩) | (with_reducible refine (callsIn_wide.2 (hi2 _)).mono ?_; rintro e w' ⟨rfl, rfl⟩))
    | (refine ⟨trivial, ?_⟩; gi_at_call 52; refine (callsIn_wide.2 hfr).mono ?_; rintro e w3 ⟨fb, ab, tb, rfl, cfb, cab, ctb, lfb, lab, ltb, hb3⟩))
  clear hcr hi1 hi2 d1 hfr hk0 hkc
  generalize (w.alloc (.cells #[.pointer (some ⟨L.K, 0, none⟩)] 55)).alloc (.cells #[.int .i64 0] 2) = W2 at *
  have hz := HZ.out
  have hrow : ∀ z, 0 < D.m → L.b = some z → z.block < w.heap.size := fun z h1 h2 => by
    obtain ⟨rb, ro, e, hlt, _⟩ := HCK.out.cs.2 h1
    rw [h2] at e
    injection e with e
    subst e
    exact hlt
  have hltC := HCK.out.pl.lt
  have HH := Lib.hid (free_handing (fun b => b = tb ∨ ∃ z, 0 < D.m ∧ L.b = some z ∧ b = z.block) fb ab tb x y w3 ((HC2.out.kept hb3).alm HD.out) cfb cab ctb (.inl rfl) (fun z h1 h2 => .inr ⟨z, h1, h2, rfl⟩))
  obtain ⟨hch, hsv⟩ := D.free_all HD.out x0 xy y1
  have hmem := freeL_mem (F := D.G) (T := D.U) (n := D.m) x y
  obtain ⟨rows, hrows⟩ : ∃ r, freeL D.G D.U D.m x y = r := ⟨_, rfl⟩
  rw [hrows] at HH hch hsv hmem
  have htl := (cell_spot ctb).2
  have HCH := Lib.hid hch
  have HSV := Lib.hid hsv
  have HMEM := Lib.hid hmem
  have HVK3 := Lib.hid (HVK.out.kept hb3)
  have HVN3 := Lib.hid (HVN.out.kept hb3)
  have HC3 := Lib.hid (HC2.out.kept hb3)
  have HO3 := Lib.hid (Only.below (X := (· = L.C)) (HB2.out.trans (hb3.mono HB2.out.size)))
  have hz3 := hb3.size
  clear hch hsv hmem hrows cfb cab ctb hb3
  refine range_spans rfl free1_enters rows (fun b => b = tb ∨ ∃ z, 0 < D.m ∧ L.b = some z ∧ b = z.block) ?hP HH.out
    (fun k W => One W (w.heap.size + 1) (.int .i64 (D.sv (rows.take k))) ∧ One W w.heap.size (.pointer (some ⟨L.K, 0, none⟩)) ∧ Ck L D W ∧ Only (· = L.C) w W) (fun _ _ => False)
    ?hI (fun _ _ _ h _ => h) ⟨HVN3.out, HVK3.out, HC3.out, HO3.out⟩ rfl
    (fun f t cb => { tmps := #[.pointer (some ⟨L.K, 0, none⟩), .int .i64 x, .int .i64 y, .pointer (some ⟨w.heap.size, 0, none⟩), undef, undef, .int .i64 0, .int .i64 0, .pointer (some ⟨w.heap.size + 1, 0, none⟩), .pointer (some ⟨cb, 0, none⟩), .bool false,
      .pointer (some ⟨L.K, 0, none⟩), .bool true, .bool false, .bool false, .int .i64 x, .bool true, .bool false, .bool false, .int .i64 y, .bool true, .bool false, .bool false, .bool false, .int .i64 y, .int .i64 x, .bool false, .bool false,
      .pointer (some ⟨L.K, 0, none⟩), .pointer (some ⟨L.K, 0, none⟩), .pointer (some ⟨L.K, 0, none⟩), .pointer (some ⟨L.A, 0, none⟩), .int .i64 x, .int .i64 y, .func (.func 76) #[] #[.pointer (some ⟨fb, 0, none⟩), .pointer (some ⟨ab, 0, none⟩), .pointer (some ⟨tb, 0, none⟩)], .agg #[.int .i64 f, .int .i64 t],
      undef, undef, undef, undef, undef, undef], defers := [] }) ?assign ?body ?done ?stop
  case hP =>
    rintro b (rfl | ⟨z, h1, h2, rfl⟩)
    · exact htl
    · have := hrow z h1 h2; omega
  case hI =>
    rintro k V V' ⟨h1, h2, h3, h4⟩ ht
    exact ⟨h1.tame ht, h2.tame ht, h3.tame ht, h4.tame ht (by omega)⟩
  case assign =>
    intro l f t W K hK
    gi_wp2
    exact hK
  case body =>
    rintro l k f t cb V W hrw ⟨h1, h2, h3, h4⟩ ht c0 c1 hcb
    have hmo : Try.prog.follows .mixedOrders = true := by kernel_rfl
    have hm := HMEM.out (f, t) (List.mem_of_getElem? hrw)
    dsimp only at hm
    obtain ⟨q1, q2⟩ := D.chain_at rows _ k (f, t) HCH.out hrw
    have hsn := D.sv_snoc rows k (f, t) hrw
    dsimp only at q1 q2 hsn
    have hg1 := D.g_mono (show 0 ≤ x by omega) (show x ≤ f by omega)
    have hg2 := D.g_mono (show 0 ≤ f by omega) (show f ≤ t by omega)
    have hg3 := D.g_lip (show 0 ≤ x by omega) (show x ≤ t by omega)
    obtain ⟨acc, hacc⟩ : ∃ a, D.sv (rows.take k) = a := ⟨_, rfl⟩
    obtain ⟨dv, hdv⟩ : ∃ a, D.V t - D.V f = a := ⟨_, rfl⟩
    rw [hacc] at h1 q1 hsn
    rw [hdv] at q2 hsn
    have ha0 : 0 ≤ acc := by omega
    have hd0 : 0 ≤ dv := by omega
    have had : acc + dv ≤ 1125899906842624 := by omega
    have HSN := Lib.hid hsn
    have HDV : Hid (D.n = 0 → dv = 0) := Lib.hid (fun hn => by rw [← hdv, D.V_none hn, D.V_none hn]; rfl)
    have hVN := h1.lt
    have hVC := h3.pl.lt
    have HW := Lib.hid (h3.tame ht)
    have HO4 := Lib.hid (h4.tame ht (by omega))
    have HV1 := Lib.hid (h1.tame ht)
    have HV2 := Lib.hid (h2.tame ht)
    have HOP : Hid (∀ W', Ck L D W' → Calls Try.prog 63 #[.pointer (some ⟨L.K, 0, none⟩), .agg #[.int .i64 f, .int .i64 t]] W' (Asks L D (.int .i64 dv) W')) := Lib.hid (fun W' hc => by
      have := opened_any hc HD.out f t (by omega) (by omega) (by omega)
      rw [hdv] at this
      exact this)
    have cN := HV1.out.var.1
    have fN := HV1.out.var.2
    have cK := HV2.out.var.1
    have HNC := Lib.hid (show w.heap.size + 1 ≠ L.C by omega)
    have HKC := Lib.hid (show w.heap.size ≠ L.C by omega)
    have hwz := ht.size
    have hwk : IntKind.i64.wrap (acc + dv) = acc + dv := IntWalk.i64_in _ (by omega)
    clear hrw h1 h2 h3 h4 q1 q2 hsn hg1 hg2 hg3 hacc hdv hm
    gi_wp2
    gi_region_with_o (refine ⟨trivial, ?_⟩; gi_at_call 63; refine (CallsIn.inRound l (callsIn_wide.2 (HOP.out _ (HW.out.kept (Below.refl _ _).drew)))).mono ?_; rintro e w8 ⟨rfl, hc8, ho8⟩; have HC8 := Lib.hid hc8; have HO8 := Lib.hid ho8; have n8 := (HV1.out.keptX (Kept.only ((Only.refl _ _).drew.trans HO8.out)) HNC.out).var.1; have nf8 := (HV1.out.keptX (Kept.only ((Only.refl _ _).drew.trans HO8.out)) HNC.out).var.2; clear hc8 ho8)
    all_goals
      have hOA : Only (· = L.C) W w8 := (Only.refl _ _).drew.trans HO8.out
      have hone := HV1.out.keptX (Kept.only hOA) HNC.out
      have hK8 : Kept (Turns (fun b => b = tb ∨ ∃ z, 0 < D.m ∧ L.b = some z ∧ b = z.block) V) W w8 := (Kept.only hOA).more (by
        rintro b rfl
        refine ⟨?_, hVC⟩
        rintro (h | ⟨z, z1, z2, h⟩)
        · omega
        · exact HCK.out.far z z1 z2 h.symm)
      have hTN : Turns (fun b => b = tb ∨ ∃ z, 0 < D.m ∧ L.b = some z ∧ b = z.block) V (w.heap.size + 1) := by
        refine ⟨?_, hVN⟩
        rintro (h | ⟨z, z1, z2, h⟩)
        · omega
        · have := hrow z z1 z2; omega
      refine ⟨(keepsOthers_only hOA HW.out.cells).trans (KeepsOthers.setCell _ _ _), hK8.trans (Kept.setCell _ _ _ hTN), ?_, (HV2.out.keptX (Kept.only hOA) HKC.out).other (by omega) 0 _, ?_, ?_⟩
      · rw [HSN.out]; exact hone.set _
      · refine HCK.out.set (by omega) HC8.out hone _ (fun hn => ?_)
        have := HDV.out hn
        subst this
        rw [Int.add_zero]
      · exact (HO4.out.trans hOA).setCell_new (p := ⟨w.heap.size + 1, 0, none⟩) (by show w.heap.size ≤ w.heap.size + 1; omega) _
  case done =>
    rintro W ⟨h1, h2, h3, h4⟩ hD
    rw [List.take_length, HSV.out] at h1
    have cN := h1.var.1
    have HC := Lib.hid h3
    have HO := Lib.hid h4
    have HDD := Lib.hid hD
    clear h1 h2 h3 h4 hD
    gi_wp2
    have ht := Tame.putObj (B := w.heap.size) W (.deferred none) HDD.out rfl (by omega)
    refine ⟨by simp, .inl ⟨_, _, rfl, run_takeDeferred HDD.out, ?_⟩⟩
    refine ⟨.tuple #[.int .i64 (D.g y - D.g x), .int .i64 0], ?_, rfl, HC.out.tame ht, HO.out.tame ht (Nat.le_refl _)⟩
    simp [results, Try.results40, go_sem]
  case stop => exact fun _ _ h _ => h.elim
end Go.Proofs.Ytfeegohjgecjgaa

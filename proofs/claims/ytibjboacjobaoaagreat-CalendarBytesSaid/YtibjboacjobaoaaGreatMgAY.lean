import Derived.Test.YtibjboacjobaoaaGreatMgAX
import Derived.Test.YtibjboacjobaoaaGreatMgAP
import Derived.Test.YtibjboacjobaoaaGreatMgAN
import Derived.Test.YtibjboacjobaoaaGreatMgAO
import Derived.IntWalk
namespace Go.Proofs.YtibjboacjobaoaaGreat
open Go.RowKit
/- Due: what is told before the loop. -/
open Go.RowKit Go.Shelf
attribute [local go_sem] Oper.semAt_some

/-- A cell of one's own is written, where the plan's sums don't lie. -/
theorem Ck.setAp {L : Loc} {D : Cal} {w0 w : World} {N : Nat} (h0 : Ck L D w0) (hN : w0.heap.size ≤ N) (h : Ck L D w) (hap : Ap L.C N w) (u : Value) : Ck L D (w.setCell ⟨N, 0, none⟩ u) := by
  have hk := h0.ltK
  have ha := h0.ltA
  have hp := h0.pl.ltP
  have hc := h0.pl.lt
  have hr1 := sps_lt h0.cs
  have hr2 := sps_lt h0.pl.sps
  have cell : ∀ b o, b ≠ N → (w.setCell ⟨N, 0, none⟩ u).cell? ⟨b, o, none⟩ = w.cell? ⟨b, o, none⟩ := fun b o hne => World.cell?_of_block (Below.heap_setCell _ _ _ _ hne)
  refine ⟨(cell _ _ (by omega)).trans h.k0, (cell _ _ (by omega)).trans h.k1, (cell _ _ (by omega)).trans h.k2, (cell _ _ (by omega)).trans h.al, h.cs.set N (fun z h2 h3 => by have := hr1 z h2 h3; omega) u, h.cap, ?_, h.neK, h.neA, h.far⟩
  refine ⟨h.pl.hP, h.pl.hC, h.pl.ne, by simpa using h.pl.lt, (cell _ _ (by omega)).trans h.pl.row, (cell _ _ (by omega)).trans h.pl.bef, h.pl.sps.set N (fun z h2 h3 => by have := hr2 z h2 h3; omega) u, h.pl.far, ?_⟩
  have hC : (w.setCell ⟨N, 0, none⟩ u).heap[L.C]? = w.heap[L.C]? := Below.heap_setCell _ _ _ _ (by show L.C ≠ N; omega)
  rcases h.pl.cel with ⟨k, hce⟩ | ⟨g, vc, k, hce, hg, hl, hkj⟩
  · exact .inl ⟨k, hce.of_block hC⟩
  · refine .inr ⟨g, vc, k, hce.of_block hC, ⟨hg.1, hg.2.setCell _ _⟩, by simpa using hl, fun j hj => ?_⟩
    have e : g ≠ N := hap _ _ _ hce.value
    exact (cell _ _ e).trans (hkj j hj)
/-- What Due hands back. -/
def DueGot (L : Loc) (D : Cal) (s b : Int) (w : World) (e : Ending) (w' : World) : Prop := ∃ v er, e = .returned (.tuple #[.int .i64 v, .int .i64 er]) ∧ D.Dues s b v er ∧ Ck L D w' ∧ Only (· = L.C) w w'
/-- The world in which Due begins. -/
def due0 (w : World) (p : Option Addr) (b d e : Int) : World := (((w.alloc (.cells #[.pointer p] 94)).alloc (.cells #[.int .i64 b] 2)).alloc (.cells #[.int .i64 d] 2)).alloc (.cells #[.int .i64 e] 49)
theorem due0_below (w : World) (p : Option Addr) (b d e : Int) : Below w.heap.size w (due0 w p b d e) :=
  ((((Below.refl _ _).alloc (Nat.le_refl _) _).alloc (by simp) _).alloc (by simp; omega) _).alloc (by simp; omega) _
theorem due0_size (w : World) (p : Option Addr) (b d e : Int) : (due0 w p b d e).heap.size = w.heap.size + 4 := by simp [due0]
theorem due0_one (w : World) (p : Option Addr) (b d e : Int) : One (due0 w p b d e) w.heap.size (.pointer p) ∧ One (due0 w p b d e) (w.heap.size + 1) (.int .i64 b) ∧ One (due0 w p b d e) (w.heap.size + 2) (.int .i64 d) ∧ One (due0 w p b d e) (w.heap.size + 3) (.int .i64 e) := by
  have a0 := One.new w (.pointer p) 94
  have a1 := One.new (w.alloc (.cells #[.pointer p] 94)) (.int .i64 b) 2
  have a2 := One.new ((w.alloc (.cells #[.pointer p] 94)).alloc (.cells #[.int .i64 b] 2)) (.int .i64 d) 2
  have a3 := One.new (((w.alloc (.cells #[.pointer p] 94)).alloc (.cells #[.int .i64 b] 2)).alloc (.cells #[.int .i64 d] 2)) (.int .i64 e) 49
  simp only [World.size_alloc] at a1 a2 a3
  have up : ∀ (W : World) (o : Obj) (k : Nat) (v : Value), One W k v → One (W.alloc o) k v := fun W o k v h => h.kept ((Below.refl _ _).alloc (Nat.le_refl _) _)
  exact ⟨up _ _ _ _ (up _ _ _ _ (up _ _ _ _ a0)), up _ _ _ _ (up _ _ _ _ a1), up _ _ _ _ a2, a3⟩

set_option maxRecDepth 100000 in
set_option maxHeartbeats 4000000 in
theorem due_none (p : Option Addr) (w : World) (s b : Int) (hcr : Calls Tryz.prog 90 #[.pointer p] (due0 w p b 0 0) fun e w' => e = .returned (.bool false) ∧ due0 w p b 0 0 = w') :
    Calls Tryz.prog 47 #[.pointer p, .int .i64 s, .int .i64 b] w fun e w' => e = .returned (.tuple #[.int .i64 0, .int .i64 1]) ∧ Below w.heap.size w w' := by
  have hb := due0_below w p b 0 1
  obtain ⟨_, _, o2, o3⟩ := due0_one w p b 0 1
  have e2 := o2.var.1
  have e3 := o3.var.1
  unfold due0 at hcr hb e2 e3
  clear o2 o3
  refine (callsIn_wide (n := 3)).1 ?_
  refine callsIn_of_wp_marks Tryz.func47 rfl trivial ?_
  simp only [Tryz.ntmps47, List.size_toArray, List.length_cons, List.length_nil, Nat.reduceAdd, Nat.reduceSub, Array.replicate_succ, Array.replicate_zero, List.push_toArray, List.append_toArray, List.nil_append, List.cons_append]
  gi_wp2_with (refine ⟨trivial, ?_⟩; gi_at_call 90; refine (callsIn_wide.2 hcr).mono ?_; rintro e w' ⟨rfl, rfl⟩)
  refine ⟨.tuple #[.int .i64 0, .int .i64 1], ?_, rfl, hb⟩
  simp [results, Tryz.results47, go_sem, e2, e3]

set_option maxRecDepth 100000 in
set_option maxHeartbeats 8000000 in
theorem due_bad {L : Loc} {D : Cal} {w : World} (h : Ck L D w) (s b : Int) (hb : ¬ (instB s = true ∧ 0 ≤ b)) :
    Calls Tryz.prog 47 #[.pointer (some ⟨L.K, 0, none⟩), .int .i64 s, .int .i64 b] w fun e w' => e = .returned (.tuple #[.int .i64 0, .int .i64 2]) ∧ Below w.heap.size w w' := by
  have hcr := ccreated_yes (h.kept (due0_below w (some ⟨L.K, 0, none⟩) b 0 0))
  have hi1 := instant_any s
  obtain ⟨bx, ex⟩ : ∃ c, instB s = c := ⟨_, rfl⟩
  obtain ⟨d, ed⟩ : ∃ c, decide (b < 0) = c := ⟨_, rfl⟩
  have hbad : bx = false ∨ d = true := by
    cases bx with
    | false => exact .inl rfl
    | true => exact .inr (by rw [← ed]; exact decide_eq_true (by
        rcases Int.lt_or_le b 0 with h | h
        · exact h
        · exact absurd ⟨ex, h⟩ hb))
  rw [ex] at hi1
  have hB := due0_below w (some ⟨L.K, 0, none⟩) b 0 2
  obtain ⟨_, _, o2, o3⟩ := due0_one w (some ⟨L.K, 0, none⟩) b 0 2
  have e2 := o2.var.1
  have e3 := o3.var.1
  have k1 := (due0_one w (some ⟨L.K, 0, none⟩) b 0 0).2.1.var.1
  unfold due0 at hcr hB e2 e3 k1
  clear h hb ex o2 o3
  cases bx <;> cases d
  case true.false => rcases hbad with h | h <;> cases h
  all_goals
    clear hbad
    refine (callsIn_wide (n := 3)).1 ?_
    refine callsIn_of_wp_marks Tryz.func47 rfl trivial ?_
    simp only [Tryz.ntmps47, List.size_toArray, List.length_cons, List.length_nil, Nat.reduceAdd, Nat.reduceSub, Array.replicate_succ, Array.replicate_zero, List.push_toArray, List.append_toArray, List.nil_append, List.cons_append]
    gi_wp2_with (first
      | (refine ⟨trivial, ?_⟩; gi_at_call 90; refine (callsIn_wide.2 hcr).mono ?_; rintro e w' ⟨rfl, rfl⟩)
      | (refine ⟨trivial, ?_⟩; gi_at_call 91; refine (callsIn_wide.2 (hi1 _)).mono ?_; rintro e w' ⟨rfl, rfl⟩))
    refine ⟨.tuple #[.int .i64 0, .int .i64 2], ?_, rfl, hB⟩
    simp [results, Tryz.results47, go_sem, e2, e3]
set_option maxRecDepth 100000 in
set_option maxHeartbeats 8000000 in
theorem due_zero {L : Loc} {D : Cal} {w : World} (h : Ck L D w) (s : Int) (hs : instB s = true) :
    Calls Tryz.prog 47 #[.pointer (some ⟨L.K, 0, none⟩), .int .i64 s, .int .i64 0] w fun e w' => e = .returned (.tuple #[.int .i64 s, .int .i64 0]) ∧ Below w.heap.size w w' := by
  have hcr := ccreated_yes (h.kept (due0_below w (some ⟨L.K, 0, none⟩) 0 0 0))
  have hi1 := instant_any s
  rw [hs] at hi1
  have hB := due0_below w (some ⟨L.K, 0, none⟩) 0 s 0
  obtain ⟨_, _, o2, o3⟩ := due0_one w (some ⟨L.K, 0, none⟩) 0 s 0
  have e2 := o2.var.1
  have e3 := o3.var.1
  have k1 := (due0_one w (some ⟨L.K, 0, none⟩) 0 0 0).2.1.var.1
  unfold due0 at hcr hB e2 e3 k1
  clear h hs o2 o3
  refine (callsIn_wide (n := 3)).1 ?_
  refine callsIn_of_wp_marks Tryz.func47 rfl trivial ?_
  simp only [Tryz.ntmps47, List.size_toArray, List.length_cons, List.length_nil, Nat.reduceAdd, Nat.reduceSub, Array.replicate_succ, Array.replicate_zero, List.push_toArray, List.append_toArray, List.nil_append, List.cons_append]
  gi_wp2_with (first
    | (refine ⟨trivial, ?_⟩; gi_at_call 90; refine (callsIn_wide.2 hcr).mono ?_; rintro e w' ⟨rfl, rfl⟩)
    | (refine ⟨trivial, ?_⟩; gi_at_call 91; refine (callsIn_wide.2 (hi1 _)).mono ?_; rintro e w' ⟨rfl, rfl⟩))
  refine ⟨.tuple #[.int .i64 s, .int .i64 0], ?_, rfl, hB⟩
  simp [results, Tryz.results47, go_sem, e2, e3]

set_option maxRecDepth 100000 in
set_option maxHeartbeats 8000000 in
theorem due_closed {L : Loc} {D : Cal} {w : World} (h : Ck L D w) (hd : D.ok) (s b : Int) (hs : instB s = true) (hb : 0 < b) (hz : tsum D.F D.T D.n = 0) :
    Calls Tryz.prog 47 #[.pointer (some ⟨L.K, 0, none⟩), .int .i64 s, .int .i64 b] w (Asks L D (.tuple #[.int .i64 0, .int .i64 40]) w) := by
  have hB := due0_below w (some ⟨L.K, 0, none⟩) b 0 0
  have hC := h.pl.lt
  have hck := h.kept hB
  have hcr := ccreated_yes hck
  have hi1 := instant_any s
  rw [hs] at hi1
  have hto := total_anyG hck.pl hd.wk.len hd.wk.good
  have HAP := Lib.hid (fun N (hN : w.heap.size ≤ N) => (h.pl.ap hN).kept hC hB)
  have HSZ := Lib.hid (due0_size w (some ⟨L.K, 0, none⟩) b 0 0)
  rw [hz] at hto
  have hk1 := hck.k1
  obtain ⟨o0, o1, o2, o3⟩ := due0_one w (some ⟨L.K, 0, none⟩) b 0 0
  have k0 := o0.var.1
  have k1 := o1.var.1
  have d1 : decide (b < 0) = false := decide_eq_false (by omega)
  have d2 : (b == 0) = false := by simp; omega
  have hn : D.n = 0 := by
    rcases Nat.eq_zero_or_pos D.n with h | h
    · exact h
    · have := tsum_pos hd.wk.good h; omega
  have HN := Lib.hid hn
  have H0 := Lib.hid h
  have HB := Lib.hid hB
  have HCK := Lib.hid hck
  have HO2 := Lib.hid o2
  have HO3 := Lib.hid o3
  unfold due0 at hcr hto hk1 k0 k1
  clear h hd hs hz o0 o1 o2 o3 hB hck hn
  refine (callsIn_wide (n := 3)).1 ?_
  refine callsIn_of_wp_marks Tryz.func47 rfl trivial ?_
  simp only [Tryz.ntmps47, List.size_toArray, List.length_cons, List.length_nil, Nat.reduceAdd, Nat.reduceSub, Array.replicate_succ, Array.replicate_zero, List.push_toArray, List.append_toArray, List.nil_append, List.cons_append]
  gi_wp2_with (first
    | (refine ⟨trivial, ?_⟩; gi_at_call 90; refine (callsIn_wide.2 hcr).mono ?_; rintro e w' ⟨rfl, rfl⟩)
    | (refine ⟨trivial, ?_⟩; gi_at_call 91; refine (callsIn_wide.2 (hi1 _)).mono ?_; rintro e w' ⟨rfl, rfl⟩)
    | (refine ⟨trivial, ?_⟩; gi_at_call 92; refine (callsIn_wide.2 hto).mono ?_; rintro e w5 ⟨⟨rfl, hp5, ho5⟩, ha5⟩; have HA5 := Lib.hid ha5; clear ha5; have HCK5 := Lib.hid (HCK.out.only ho5 hp5); have HO5 := Lib.hid ho5; have hr2 := HO2.out.keptX (Kept.only ho5) (by omega); have hr3 := HO3.out.keptX (Kept.only ho5) (by omega); have HR2 := Lib.hid hr2; have HR3 := Lib.hid hr3; have c2 := hr2.var.1; have f2 := hr2.var.2; have c3 := hr3.var.1; have f3 := hr3.var.2; clear hp5 ho5 hr2 hr3))
  have e2 := ((HR2.out.set (.int .i64 0)).other (by omega : w.heap.size + 2 ≠ w.heap.size + 3) 0 (.int .i64 40)).var.1
  have e3 := ((HR3.out.other (by omega : w.heap.size + 3 ≠ w.heap.size + 2) 0 (.int .i64 0)).set (.int .i64 40)).var.1
  have ha2 := HA5.out (w.heap.size + 2) (by have := HSZ.out; unfold due0 at this; omega) (HAP.out _ (by omega))
  have ha3 := HA5.out (w.heap.size + 3) (by have := HSZ.out; unfold due0 at this; omega) (HAP.out _ (by omega))
  have hck2 := H0.out.setAp (N := w.heap.size + 2) (by omega) HCK5.out ha2 (.int .i64 0)
  have hck3 : Ck L D ((w5.setCell ⟨w.heap.size + 2, 0, none⟩ (.int .i64 0)).setCell ⟨w.heap.size + 3, 0, none⟩ (.int .i64 40)) := by
    refine H0.out.setAp (N := w.heap.size + 3) (by omega) hck2 ?_ _
    intro x n c hx
    rw [World.cell?_of_block (Below.heap_setCell _ _ _ _ (by show L.C ≠ w.heap.size + 2; omega))] at hx
    exact ha3 x n c hx
  refine ⟨.tuple #[.int .i64 0, .int .i64 40], ?_, rfl, hck3, ?_⟩
  · simp [results, Tryz.results47, go_sem, e2, e3]
  · exact (((Only.below HB.out).trans HO5.out).setCell_new (p := ⟨w.heap.size + 2, 0, none⟩) (by show w.heap.size ≤ w.heap.size + 2; omega) _).setCell_new (p := ⟨w.heap.size + 3, 0, none⟩) (by show w.heap.size ≤ w.heap.size + 3; omega) _
/- Due: the loop. -/
open Go.RowKit Go.Shelf
attribute [local go_sem] Oper.semAt_some

set_option maxRecDepth 100000 in
set_option maxHeartbeats 8000000 in
theorem due_loop {L : Loc} {D : Cal} {w : World} (h : Ck L D w) (hd : D.ok) (s b : Int) (s0 : 0 ≤ s) (s1 : s ≤ 1125899906842624) (hb : 0 < b) (hbm : b ≤ 9223372036854775807) (hz : tsum D.F D.T D.n ≠ 0) :
    Calls Tryz.prog 47 #[.pointer (some ⟨L.K, 0, none⟩), .int .i64 s, .int .i64 b] w fun e w' => ∃ v er, e = .returned (.tuple #[.int .i64 v, .int .i64 er]) ∧ D.DueIs s b v er ∧ Ck L D w' ∧ Only (· = L.C) w w' := by
  have hn : 0 < D.n := by
    rcases Nat.eq_zero_or_pos D.n with h | h
    · rw [h] at hz; exact absurd rfl hz
    · exact h
  have hB := due0_below w (some ⟨L.K, 0, none⟩) b 0 0
  have hSZ := due0_size w (some ⟨L.K, 0, none⟩) b 0 0
  have hck := h.kept hB
  have hcr := ccreated_yes hck
  have hi1 := instant_any s
  rw [(instB_iff s).2 ⟨s0, s1⟩] at hi1
  have hto := total_any hck.pl hd.wk.len hd.wk.good
  obtain ⟨tot, htot⟩ : ∃ t, tsum D.F D.T D.n = t := ⟨_, rfl⟩
  rw [htot] at hto hz
  have d3 : (tot == 0) = false := by simpa using hz
  have hk1 := hck.k1
  obtain ⟨o0, o1, o2, o3⟩ := due0_one w (some ⟨L.K, 0, none⟩) b 0 0
  have k0 := o0.var.1
  have k1 := o1.var.1
  have d1 : decide (b < 0) = false := decide_eq_false (by omega)
  have d2 : (b == 0) = false := by simp; omega
  have hC := h.pl.lt
  have H0 := Lib.hid h
  have HD := Lib.hid hd
  have HB := Lib.hid hB
  have HSZ := Lib.hid hSZ
  have HCK := Lib.hid hck
  have HO0 := Lib.hid o0
  have HO1 := Lib.hid o1
  have HO2 := Lib.hid o2
  have HO3 := Lib.hid o3
  have HFR := Lib.hid (fun W => by
    have := freed_any (some ⟨L.A, 0, none⟩) s 1125899906842624 W
    rw [show max s 0 = s by omega, show min (1125899906842624 : Int) 1125899906842624 = 1125899906842624 by omega] at this
    exact this)
  unfold due0 at hcr hto hk1 k0 k1
  clear h hd o0 o1 o2 o3 hB hck htot hSZ
  refine (callsIn_wide (n := 3)).1 ?_
  refine callsIn_of_wp_marks Tryz.func47 rfl trivial ?_
  simp only [Tryz.ntmps47, List.size_toArray, List.length_cons, List.length_nil, Nat.reduceAdd, Nat.reduceSub, Array.replicate_succ, Array.replicate_zero, List.push_toArray, List.append_toArray, List.nil_append, List.cons_append]
  gi_wp2_with (first
    | (refine ⟨trivial, ?_⟩; gi_at_call 90; refine (callsIn_wide.2 hcr).mono ?_; rintro e w' ⟨rfl, rfl⟩)
    | (refine ⟨trivial, ?_⟩; gi_at_call 91; refine (callsIn_wide.2 (hi1 _)).mono ?_; rintro e w' ⟨rfl, rfl⟩)
    | (refine ⟨trivial, ?_⟩; gi_at_call 92; refine (callsIn_wide.2 hto).mono ?_; rintro e w5 ⟨rfl, hp5, ho5⟩; have hck5 := HCK.out.only ho5 hp5; have HCK5 := Lib.hid hck5; have HO5 := Lib.hid ho5; have HA0 := Lib.hid (HO0.out.keptX (Kept.only ho5) (by omega)); have HA1 := Lib.hid (HO1.out.keptX (Kept.only ho5) (by omega)); have HA2 := Lib.hid (HO2.out.keptX (Kept.only ho5) (by omega)); have HA3 := Lib.hid (HO3.out.keptX (Kept.only ho5) (by omega)); have c0 := HA0.out.var.1; have a5 := hck5.k0; clear hp5 ho5 hck5)
    | (refine ⟨trivial, ?_⟩; gi_at_call 93; refine (callsIn_wide.2 (HFR.out _)).mono ?_; rintro e w6 ⟨fb, ab, tb, rfl, cfb, cab, ctb, lfb, lab, ltb, hb6⟩))
  clear hcr hi1 hto hk1 k0 k1 d1 d2 d3 c0 a5
  have hz5 := HO5.out.size
  have hs4 := HSZ.out
  have hz4 : (due0 w (some ⟨L.K, 0, none⟩) b 0 0).heap.size ≤ w5.heap.size := hz5
  have hz6 := hb6.size
  have hrow := sps_lt H0.out.cs
  have hltC := H0.out.pl.lt
  have hk := H0.out.ltK
  have HH := Lib.hid (free_handing (fun b => b = tb ∨ ∃ z, 0 < D.m ∧ L.b = some z ∧ b = z.block) fb ab tb s 1125899906842624 w6 ((HCK5.out.kept hb6).alm HD.out) cfb cab ctb (.inl rfl) (fun z h1 h2 => .inr ⟨z, h1, h2, rfl⟩))
  obtain ⟨hch, hsv⟩ := D.free_all HD.out s0 s1 (Int.le_refl _)
  have hmem := freeL_mem (F := D.G) (T := D.U) (n := D.m) s 1125899906842624
  have hopn := fun t ht => freeL_open (x := s) (y := 1125899906842624) HD.out.good (s := t) ht
  obtain ⟨rows, hrows⟩ : ∃ r, freeL D.G D.U D.m s 1125899906842624 = r := ⟨_, rfl⟩
  rw [hrows] at HH hch hsv hmem hopn
  have htl := (cell_spot ctb).2
  have HCH := Lib.hid hch
  have HSV := Lib.hid hsv
  have HMEM := Lib.hid hmem
  have HOPN := Lib.hid hopn
  have HE0 : Hid (One w6 w.heap.size (.pointer (some ⟨L.K, 0, none⟩))) := Lib.hid (HA0.out.kept hb6)
  have HE1 : Hid (One w6 (w.heap.size + 1) (.int .i64 b)) := Lib.hid (HA1.out.kept hb6)
  have HE2 : Hid (One w6 (w.heap.size + 1 + 1) (.int .i64 0)) := Lib.hid (HA2.out.kept hb6)
  have HE3 : Hid (One w6 (w.heap.size + 1 + 1 + 1) (.int .i64 0)) := Lib.hid (HA3.out.kept hb6)
  have HC6 := Lib.hid (HCK5.out.kept hb6)
  have HO6 := Lib.hid (((Only.below (X := (· = L.C)) HB.out).trans HO5.out).trans (Only.below hb6))
  obtain ⟨E, hE⟩ : ∃ x, w.heap.size + 1 + 1 + 1 = x := ⟨_, rfl⟩
  obtain ⟨R, hR⟩ : ∃ x, w.heap.size + 1 + 1 = x := ⟨_, rfl⟩
  obtain ⟨N, hN⟩ : ∃ x, w.heap.size + 1 = x := ⟨_, rfl⟩
  obtain ⟨B, hBB⟩ : ∃ x, w.heap.size = x := ⟨_, rfl⟩
  rw [hE] at HE3 ⊢
  rw [hR] at HE2 ⊢
  rw [hN] at HE1 ⊢
  rw [hBB] at HE0 ⊢
  have hsz : B + 1 = N ∧ N + 1 = R ∧ R + 1 = E ∧ E < w5.heap.size ∧ w5.heap.size ≤ tb ∧ L.C < B ∧ w.heap.size = B := by omega
  have hrow' : ∀ z, 0 < D.m → L.b = some z → z.block < B := fun z h1 h2 => by have := hrow z h1 h2; omega
  have HS := Lib.hid hsz
  have HRW := Lib.hid hrow'
  clear hch hsv hmem hopn hrows cfb cab ctb hb6 hE hR hN hz5 hs4 hz4 hrow hrow' lfb lab ltb hltC hk hsz
  refine range_spans rfl free1_enters rows (fun b => b = tb ∨ ∃ z, 0 < D.m ∧ L.b = some z ∧ b = z.block) ?hP HH.out
    (fun k W => One W B (.pointer (some ⟨L.K, 0, none⟩)) ∧ One W N (.int .i64 (b - D.sv (rows.take k))) ∧ One W R (.int .i64 0) ∧ One W E (.int .i64 0) ∧ Ck L D W ∧ Only (· = L.C) w W ∧ D.sv (rows.take k) < b)
    (fun c W => c = .ret ∧ ∃ v, One W R (.int .i64 v) ∧ One W E (.int .i64 0) ∧ D.DueIs s b v 0 ∧ Ck L D W ∧ Only (· = L.C) w W)
    ?hI ?hIx ⟨HE0.out, by show One w6 N (.int .i64 (b - 0)); rw [Int.sub_zero]; exact HE1.out, HE2.out, HE3.out, HC6.out, HO6.out, hb⟩ rfl
    (fun f t cb => { tmps := #[.pointer (some ⟨L.K, 0, none⟩), .int .i64 s, .int .i64 b, .pointer (some ⟨B, 0, none⟩), undef, .pointer (some ⟨N, 0, none⟩), .pointer (some ⟨R, 0, none⟩), .pointer (some ⟨E, 0, none⟩), .pointer (some ⟨cb, 0, none⟩), undef, .bool false, .pointer (some ⟨L.K, 0, none⟩), .bool true, .bool false, .bool false,
      .int .i64 s, .bool true, .bool false, .bool false, .int .i64 b, .bool false, .bool false, .bool false, .int .i64 b, .bool false, undef, .bool false, .pointer (some ⟨L.K, 0, none⟩), .pointer (some ⟨L.K, 0, none⟩), .pointer (some ⟨L.K, 1, none⟩), .pointer (some ⟨L.P, 0, none⟩), .int .i64 tot, .bool false,
      .pointer (some ⟨L.K, 0, none⟩), .pointer (some ⟨L.K, 0, none⟩), .pointer (some ⟨L.K, 0, none⟩), .pointer (some ⟨L.A, 0, none⟩), .int .i64 s, .func (.func 116) #[] #[.pointer (some ⟨fb, 0, none⟩), .pointer (some ⟨ab, 0, none⟩), .pointer (some ⟨tb, 0, none⟩)], .agg #[.int .i64 f, .int .i64 t],
      undef, undef, undef, undef, undef, undef, undef, undef, undef, undef, undef, undef, undef, undef, undef], defers := [] }) ?assign ?body ?done ?stop
  case hP =>
    rintro b (rfl | ⟨z, h1, h2, rfl⟩)
    · exact htl
    · have := HRW.out z h1 h2; have := HS.out; omega
  case hI =>
    rintro k V V' ⟨h1, h2, h3, h4, h5, h6, h7⟩ ht
    exact ⟨h1.tame ht, h2.tame ht, h3.tame ht, h4.tame ht, h5.tame ht, h6.tame ht (by have := HS.out; omega), h7⟩
  case hIx =>
    rintro c V V' ⟨hc, v, h3, h4, h5, h6, h7⟩ ht
    exact ⟨hc, v, h3.tame ht, h4.tame ht, h5, h6.tame ht, h7.tame ht (by have := HS.out; omega)⟩
  case assign =>
    intro l f t W K hK
    gi_wp2
    exact hK
  case body =>
    rintro l k f t cb V W hrw ⟨h1, h2, h3, h4, h5, h6, h7⟩ ht c0 c1 hcb
    have hsz := HS.out
    have hmem := List.mem_of_getElem? hrw
    have hm := HMEM.out (f, t) hmem
    have hop := HOPN.out (f, t) hmem
    dsimp only at hm hop
    obtain ⟨q1, q2⟩ := D.chain_at rows _ k (f, t) HCH.out hrw
    have hsn := D.sv_snoc rows k (f, t) hrw
    dsimp only at q1 q2 hsn
    have hg1 := D.g_mono (show 0 ≤ s by omega) (show s ≤ f by omega)
    have hg2 := D.g_mono (show 0 ≤ f by omega) (show f ≤ t by omega)
    have hg3 := D.g_lip (show 0 ≤ s by omega) (show s ≤ t by omega)
    have hdue := D.nth_due HD.out hn (f := f) (t := t) (bl := b - D.sv (rows.take k)) (by omega) (by omega) (by omega) hop (by omega)
    have hnt := fun W' (hc : Ck L D W') => nth_any hc HD.out f t (b - D.sv (rows.take k) - 1) (by omega) (by omega)
    obtain ⟨acc, hacc⟩ : ∃ a, D.sv (rows.take k) = a := ⟨_, rfl⟩
    obtain ⟨dv, hdv⟩ : ∃ a, D.V t - D.V f = a := ⟨_, rfl⟩
    rw [hacc] at h2 h7 q1 hsn hdue hnt
    rw [hdv] at q2 hsn hdue
    obtain ⟨bl, hbl⟩ : ∃ x, b - acc = x := ⟨_, rfl⟩
    rw [hbl] at h2 hdue hnt
    have HSN := Lib.hid hsn
    have HBL := Lib.hid hbl
    have hVC := h5.pl.lt
    have hVN := h2.lt
    have HW := Lib.hid (h5.tame ht)
    have HO4 := Lib.hid (h6.tame ht (by omega))
    have HV0 := Lib.hid (h1.tame ht)
    have HV1 := Lib.hid (h2.tame ht)
    have HV2 := Lib.hid (h3.tame ht)
    have HV3 := Lib.hid (h4.tame ht)
    have HOP : Hid (∀ W', Ck L D W' → Calls Tryz.prog 94 #[.pointer (some ⟨L.K, 0, none⟩), .agg #[.int .i64 f, .int .i64 t]] W' (Asks L D (.int .i64 dv) W')) := Lib.hid (fun W' hc => by
      have := opened_any hc HD.out f t (by omega) (by omega) (by omega)
      rw [hdv] at this
      exact this)
    have cK := HV0.out.var.1
    have hcW : cb < W.heap.size := (cell_spot c0).2
    have hne : B ≠ L.C ∧ N ≠ L.C ∧ R ≠ L.C ∧ E ≠ L.C ∧ cb ≠ L.C := by omega
    have HNE := Lib.hid hne
    have hwz := ht.size
    have hKP : ∀ w9, Only (· = L.C) W w9 → Kept (Turns (fun b => b = tb ∨ ∃ z, 0 < D.m ∧ L.b = some z ∧ b = z.block) V) W w9 := fun w9 ho => (Kept.only ho).more (by
      rintro b rfl
      refine ⟨?_, hVC⟩
      rintro (h | ⟨z, z1, z2, h⟩)
      · omega
      · exact H0.out.far z z1 z2 h.symm)
    have HKP := Lib.hid hKP
    have bl1 : 1 ≤ bl := by omega
    have dv0 : 0 ≤ dv := by omega
    have dvm : dv ≤ 1125899906842624 := by omega
    have blm : bl ≤ 9223372036854775807 := by omega
    have hq : D.g f = D.g s + acc := by omega
    clear hrw h1 h2 h3 h4 h5 h6 q1 hsn hg1 hg2 hg3 hacc hop hmem hKP q2
    by_cases hle : bl ≤ dv
    · obtain ⟨n1, n2, n3, n4, n5, n6⟩ := hdue hle
      have hvb : D.V f + (bl - 1) ≤ 2251800000604800 + 9223372036854775807 := by
        have := (until_bounds HD.out.wk (f - D.off + 604800)).2.2.2
        have : D.V f ≤ 2251800000604800 := this
        omega
      have HNT : Hid (∀ W', Ck L D W' → Calls Tryz.prog 95 #[.pointer (some ⟨L.K, 0, none⟩), .agg #[.int .i64 f, .int .i64 t], .int .i64 (bl - 1)] W' (Asks L D (.int .i64 (pnV D.F D.T D.n (D.V f + (bl - 1)) + D.off - 604800)) W')) := Lib.hid (fun W' hc => hnt W' hc (by omega) (by omega) n1 n2)
      obtain ⟨nv, hnv⟩ : ∃ x, pnV D.F D.T D.n (D.V f + (bl - 1)) + D.off - 604800 = x := ⟨_, rfl⟩
      rw [hnv] at HNT n3 n4 n5 n6
      have HDU : Hid (D.DueIs s b (nv + 1) 0) := Lib.hid (.inr ⟨rfl, by omega, by rw [Int.add_sub_cancel]; exact n6, by omega, by omega⟩)
      have dd : decide (bl ≤ dv) = true := decide_eq_true hle
      clear hnv n1 n2 n5 n6 hnt hdue hvb
      gi_wp2_with (first
        | (refine ⟨trivial, ?_⟩; gi_at_call 94; refine (CallsIn.inRound l (callsIn_wide.2 (HOP.out _ HW.out))).mono ?_; rintro e w8 ⟨rfl, hc8, ho8⟩; have HC8 := Lib.hid hc8; have HO8 := Lib.hid ho8; have cK8 := (HV0.out.keptX (Kept.only HO8.out) HNE.out.1).var.1; have cN8 := (HV1.out.keptX (Kept.only HO8.out) HNE.out.2.1).var.1; have c08 := (HO8.out.cell (p := ⟨cb, 0, none⟩) hcW HNE.out.2.2.2.2).trans c0; have c18 := (HO8.out.cell (p := ⟨cb, 1, none⟩) hcW HNE.out.2.2.2.2).trans c1; clear hc8 ho8)
        | (refine ⟨trivial, ?_⟩; gi_at_call 95; refine (CallsIn.inRound l (callsIn_wide.2 (HNT.out _ HC8.out))).mono ?_; rintro e w9 ⟨rfl, hc9, ho9⟩; have HC9 := Lib.hid hc9; have HO9 := Lib.hid (HO8.out.trans ho9); have HR9 := Lib.hid (HV2.out.keptX (Kept.only HO9.out) HNE.out.2.2.1); have HE9 := Lib.hid (HV3.out.keptX (Kept.only HO9.out) HNE.out.2.2.2.1); have r9 := HR9.out.var.1; have rf9 := HR9.out.var.2; have e9 := HE9.out.var.1; have ef9 := HE9.out.var.2; clear hc9 ho9))
      have hne1 : R ≠ E := by omega
      refine ⟨((keepsOthers_only HO9.out HW.out.cells).trans (KeepsOthers.setCell _ _ _)).trans (KeepsOthers.setCell _ _ _), rfl, nv + 1, (HR9.out.set _).other hne1 0 _, (HE9.out.other hne1.symm 0 _).set _, HDU.out, ?_, ?_⟩
      · have hck1 := H0.out.set (N := R) (by omega) HC9.out HR9.out (.int .i64 (nv + 1)) (fun h => by omega)
        exact H0.out.set (N := E) (by omega) hck1 (HE9.out.other hne1.symm 0 _) _ (fun h => by omega)
      · exact ((HO4.out.trans HO9.out).setCell_new (p := ⟨R, 0, none⟩) (by show w.heap.size ≤ R; omega) _).setCell_new (p := ⟨E, 0, none⟩) (by show w.heap.size ≤ E; omega) _
    · have dd : decide (bl ≤ dv) = false := decide_eq_false hle
      clear hnt hdue
      gi_wp2_with (refine ⟨trivial, ?_⟩; gi_at_call 94; refine (CallsIn.inRound l (callsIn_wide.2 (HOP.out _ HW.out))).mono ?_; rintro e w8 ⟨rfl, hc8, ho8⟩; have HC8 := Lib.hid hc8; have HO8 := Lib.hid ho8; have HN8 := Lib.hid (HV1.out.keptX (Kept.only HO8.out) HNE.out.2.1); have cN8 := HN8.out.var.1; have fN8 := HN8.out.var.2; clear hc8 ho8)
      refine ⟨(keepsOthers_only HO8.out HW.out.cells).trans (KeepsOthers.setCell _ _ _), (HKP.out _ HO8.out).trans (Kept.setCell _ _ _ ?_), (HV0.out.keptX (Kept.only HO8.out) HNE.out.1).other (by omega) 0 _, ?_, (HV2.out.keptX (Kept.only HO8.out) HNE.out.2.2.1).other (by omega) 0 _, (HV3.out.keptX (Kept.only HO8.out) HNE.out.2.2.2.1).other (by omega) 0 _, H0.out.set (N := N) (by omega) HC8.out HN8.out _ (fun h => by omega), (HO4.out.trans HO8.out).setCell_new (p := ⟨N, 0, none⟩) (by show w.heap.size ≤ N; omega) _, ?_⟩
      · show Turns _ V N
        refine ⟨?_, hVN⟩
        rintro (h | ⟨z, z1, z2, h⟩)
        · omega
        · have := HRW.out z z1 z2; omega
      · rw [HSN.out, show b - (acc + dv) = bl - dv by have := HBL.out; omega]
        exact HN8.out.set _
      · rw [HSN.out]; have := HBL.out; omega
  case done =>
    rintro W ⟨h1, h2, h3, h4, h5, h6, h7⟩ hD
    rw [List.take_length, HSV.out] at h7
    have hsz := HS.out
    have r9 := h3.var.1
    have rf9 := h3.var.2
    have e9 := h4.var.1
    have ef9 := h4.var.2
    have HR9 := Lib.hid h3
    have HE9 := Lib.hid h4
    have HC9 := Lib.hid h5
    have HO9 := Lib.hid h6
    have HDD := Lib.hid hD
    clear h1 h2 h3 h4 h5 h6 hD
    gi_wp2
    have hne1 : R ≠ E := by omega
    have hck1 := H0.out.set (N := R) (by omega) HC9.out HR9.out (.int .i64 0) (fun h => by omega)
    have hck2 := H0.out.set (N := E) (by omega) hck1 (HE9.out.other hne1.symm 0 (.int .i64 0)) (.int .i64 10) (fun h => by omega)
    have ho2 := (HO9.out.setCell_new (p := ⟨R, 0, none⟩) (by show w.heap.size ≤ R; omega) (.int .i64 0)).setCell_new (p := ⟨E, 0, none⟩) (by show w.heap.size ≤ E; omega) (.int .i64 10)
    have o1 := (HR9.out.set (.int .i64 0)).other hne1 0 (.int .i64 10)
    have o2 := (HE9.out.other hne1.symm 0 (.int .i64 0)).set (.int .i64 10)
    have hD2 : ((W.setCell ⟨R, 0, none⟩ (.int .i64 0)).setCell ⟨E, 0, none⟩ (.int .i64 10)).heap[w6.heap.size]? = some (.deferred (some [])) :=
      ((Below.heap_setCell _ _ _ _ (by show w6.heap.size ≠ E; omega)).trans (Below.heap_setCell _ _ _ _ (by show w6.heap.size ≠ R; omega))).trans HDD.out
    generalize ((W.setCell ⟨R, 0, none⟩ (.int .i64 0)).setCell ⟨E, 0, none⟩ (.int .i64 10)) = W9 at *
    have ht := Tame.putObj (B := w.heap.size) W9 (.deferred none) hD2 rfl (by omega)
    have f1 := (o1.tame ht).var.1
    have f2 := (o2.tame ht).var.1
    refine ⟨by simp, .inl ⟨_, _, rfl, run_takeDeferred hD2, ?_⟩⟩
    refine ⟨.tuple #[.int .i64 0, .int .i64 10], ?_, 0, 10, rfl, .inl ⟨rfl, rfl, h7⟩, hck2.tame ht, ho2.tame ht (Nat.le_refl _)⟩
    simp [results, Tryz.results47, go_sem, f1, f2]
  case stop =>
    rintro c W ⟨rfl, v, h3, h4, h5, h6, h7⟩ hD
    have hsz := HS.out
    gi_wp2
    have ht := Tame.putObj (B := w.heap.size) W (.deferred none) hD rfl (by omega)
    have f1 := (h3.tame ht).var.1
    have f2 := (h4.tame ht).var.1
    refine ⟨by simp, .inl ⟨_, _, rfl, run_takeDeferred hD, ?_⟩⟩
    refine ⟨.tuple #[.int .i64 v, .int .i64 0], ?_, v, 0, rfl, h5, h6.tame ht, h7.tame ht (Nat.le_refl _)⟩
    simp [results, Tryz.results47, go_sem, f1, f2]
set_option maxRecDepth 100000 in
theorem due_any {L : Loc} {D : Cal} {w : World} (h : Ck L D w) (hd : D.ok) (s b : Int) (hbm : b ≤ 9223372036854775807) :
    Calls Tryz.prog 47 #[.pointer (some ⟨L.K, 0, none⟩), .int .i64 s, .int .i64 b] w (DueGot L D s b w) := by
  by_cases h1 : instB s = true ∧ 0 ≤ b
  · obtain ⟨s0, s1⟩ := (instB_iff s).1 h1.1
    by_cases h2 : b = 0
    · subst h2
      refine (due_zero h s h1.1).mono ?_
      rintro e w' ⟨rfl, hb⟩
      exact ⟨s, 0, rfl, .inr (.inl ⟨s0, s1, rfl, rfl, rfl⟩), h.kept hb, Only.below hb⟩
    · by_cases h3 : tsum D.F D.T D.n = 0
      · refine (due_closed h hd s b h1.1 (by omega) h3).mono ?_
        rintro e w' ⟨rfl, hc, ho⟩
        exact ⟨0, 40, rfl, .inr (.inr (.inl ⟨s0, s1, by omega, h3, rfl, rfl⟩)), hc, ho⟩
      · refine (due_loop h hd s b s0 s1 (by omega) hbm h3).mono ?_
        rintro e w' ⟨v, er, rfl, hdu, hc, ho⟩
        exact ⟨v, er, rfl, .inr (.inr (.inr ⟨s0, s1, by omega, h3, hdu⟩)), hc, ho⟩
  · refine (due_bad h s b h1).mono ?_
    rintro e w' ⟨rfl, hb⟩
    refine ⟨0, 2, rfl, .inl ⟨fun h2 => h1 ⟨(instB_iff s).2 ⟨h2.1, h2.2.1⟩, h2.2.2⟩, rfl, rfl⟩, h.kept hb, Only.below hb⟩
/- The reference for rows: Cut, Within, Len. -/
open Go.RowKit

def cutOne (f t a b : Int) : List (Int × Int) := if mx f a < mn t b then [(mx f a, mn t b)] else []
def cutL (F T : Nat → Int) (a b : Int) : Nat → List (Int × Int)
  | 0 => []
  | k + 1 => cutL F T a b k ++ cutOne (F k) (T k) a b
theorem cutL_len (F T : Nat → Int) (a b : Int) : ∀ k, (cutL F T a b k).length ≤ k := by
  intro k
  induction k with
  | zero => exact Nat.le_refl _
  | succ k ih =>
    simp only [cutL, List.length_append]
    unfold cutOne
    split <;> simp <;> omega
theorem cutL_right {F T : Nat → Int} {n : Nat} (a b : Int) (hg : good F T n = true) : ∀ k, k ≤ n → ∀ s ∈ cutL F T a b k, 0 ≤ s.1 ∧ s.1 < s.2 ∧ s.2 ≤ 1125899906842624 := by
  intro k
  induction k with
  | zero => intro _ s hs; cases hs
  | succ k ih =>
    intro hk s hs
    simp only [cutL, List.mem_append] at hs
    rcases hs with hs | hs
    · exact ih (by omega) s hs
    · obtain ⟨g0, g1, g2, _⟩ := good_at hg (show k < n by omega)
      unfold cutOne at hs
      split at hs
      · rename_i h
        obtain rfl := List.mem_singleton.1 hs
        show 0 ≤ mx (F k) a ∧ mx (F k) a < mn (T k) b ∧ mn (T k) b ≤ _
        rcases mx_cases (F k) a with ⟨h1, h2⟩ | ⟨h1, h2⟩ <;> rcases mn_cases (T k) b with ⟨h3, h4⟩ | ⟨h3, h4⟩ <;> omega
      · cases hs
theorem tsum_congr {F T F' T' : Nat → Int} : ∀ k, (∀ j, j < k → F j = F' j ∧ T j = T' j) → tsum F T k = tsum F' T' k := by
  intro k
  induction k with
  | zero => intro _; rfl
  | succ k ih =>
    intro h
    simp only [tsum, ih fun j hj => h j (by omega), (h k (by omega)).1, (h k (by omega)).2]
/-- How many seconds the spans of a list have. -/
def sumL (l : List (Int × Int)) : Int := tsum (fr l) (til l) l.length
theorem fr_append_lt {l m : List (Int × Int)} {j : Nat} (h : j < l.length) : fr (l ++ m) j = fr l j ∧ til (l ++ m) j = til l j := by
  simp [fr, til, List.getElem?_append_left h]
theorem sumL_snoc (l : List (Int × Int)) (x : Int × Int) : sumL (l ++ [x]) = sumL l + (x.2 - x.1) := by
  unfold sumL
  rw [List.length_append]
  show tsum _ _ (l.length + 1) = _
  simp only [tsum]
  rw [tsum_congr (F' := fr l) (T' := til l) l.length fun j hj => fr_append_lt hj]
  simp [fr, til]
theorem sumL_cut {F T : Nat → Int} (a b : Int) : ∀ k, sumL (cutL F T a b k) = wsum F T a b k := by
  intro k
  induction k with
  | zero => rfl
  | succ k ih =>
    simp only [cutL, wsum]
    unfold cutOne
    rcases clip_cases (F k) (T k) a b with ⟨h, e⟩ | ⟨h, e⟩
    · rw [if_neg (by omega), List.append_nil, ih, e]; omega
    · rw [if_pos h, sumL_snoc, ih, e]
theorem tsum_list {l : List (Int × Int)} (hr : ∀ s ∈ l, 0 ≤ s.1 ∧ s.1 < s.2 ∧ s.2 ≤ 1125899906842624) : ∀ k, k ≤ l.length → 0 ≤ tsum (fr l) (til l) k ∧ tsum (fr l) (til l) k ≤ k * 1125899906842624 := by
  intro k
  induction k with
  | zero => intro _; simp [tsum]
  | succ k ih =>
    intro hk
    obtain ⟨h1, h2⟩ := ih (by omega)
    have h3 := hr (l.getD k (0, 0)) (by simp [show k < l.length by omega])
    have e1 : fr l k = (l.getD k (0, 0)).1 := rfl
    have e2 : til l k = (l.getD k (0, 0)).2 := rfl
    simp only [tsum]
    omega

end Go.Proofs.YtibjboacjobaoaaGreat

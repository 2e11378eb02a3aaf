/- Due: what is told before the loop. -/
import Derived.Test.YtfeegohjgecjgaaCaB
import Derived.Test.YtfeegohjgecjgaaCaN
import Derived.Test.YtfeegohjgecjgaaWoB
namespace Go.Proofs.Ytfeegohjgecjgaa
open Go.RowKit Go.Shelf
attribute [local go_sem] Oper.semAt_some

/-- A cell of one's own is written, where the plan's sums don't lie. -/
theorem Ck.setAp {L : Loc} {D : Cal} {w0 w : World} {N : Nat} (h0 : Ck L D w0) (hN : w0.heap.size ≤ N) (h : Ck L D w) (hap : Ap L.C N w) (u : Value) : Ck L D (w.setCell ⟨N, 0, none⟩ u) := by
  have hk := h0.ltK
  have ha := h0.ltA
  have hp := h0.pl.ltP
  have hc := h0.pl.lt
  have hr1 := sps_lt h0.cs
  have hr2 := sps_lt h0.pl.sps
  have cell : ∀ b o, b ≠ N → (w.setCell ⟨N, 0, none⟩ u).cell? ⟨b, o, none⟩ = w.cell? ⟨b, o, none⟩ := fun b o hne => World.cell?_of_block (Below.heap_setCell _ _ _ _ hne)
  refine ⟨(cell _ _ (by omega)).trans h.k0, (cell _ _ (by omega)).trans h.k1, (cell _ _ (by omega)).trans h.k2, (cell _ _ (by omega)).trans h.al, h.cs.set N (fun z h2 h3 => by have := hr1 z h2 h3; omega) u, h.cap, ?_, h.neK, h.neA, h.far⟩
  refine ⟨h.pl.hP, h.pl.hC, h.pl.ne, by simpa using h.pl.lt, (cell _ _ (by omega)).trans h.pl.row, (cell _ _ (by omega)).trans h.pl.bef, h.pl.sps.set N (fun z h2 h3 => by have := hr2 z h2 h3; omega) u, h.pl.far, ?_⟩
  have hC : (w.setCell ⟨N, 0, none⟩ u).heap[L.C]? = w.heap[L.C]? := Below.heap_setCell _ _ _ _ (by show L.C ≠ N; omega)
  rcases h.pl.cel with ⟨k, hce⟩ | ⟨g, vc, k, hce, hg, hl, hkj⟩
  · exact .inl ⟨k, hce.of_block hC⟩
  · refine .inr ⟨g, vc, k, hce.of_block hC, hg, by simpa using hl, fun j hj => ?_⟩
    have e : g ≠ N := hap _ _ _ hce.value
    exact (cell _ _ e).trans (hkj j hj)
/-- What Due hands back. -/
def DueGot (L : Loc) (D : Cal) (s b : Int) (w : World) (e : Ending) (w' : World) : Prop := ∃ v er, e = .returned (.tuple #[.int .i64 v, .int .i64 er]) ∧ D.Dues s b v er ∧ Ck L D w' ∧ Only (· = L.C) w w'
/-- The world in which Due begins. -/
def due0 (w : World) (p : Option Addr) (b d e : Int) : World := (((w.alloc (.cells #[.pointer p] 55)).alloc (.cells #[.int .i64 b] 2)).alloc (.cells #[.int .i64 d] 2)).alloc (.cells #[.int .i64 e] 25)
theorem due0_below (w : World) (p : Option Addr) (b d e : Int) : Below w.heap.size w (due0 w p b d e) :=
  ((((Below.refl _ _).alloc (Nat.le_refl _) _).alloc (by simp) _).alloc (by simp; omega) _).alloc (by simp; omega) _
theorem due0_size (w : World) (p : Option Addr) (b d e : Int) : (due0 w p b d e).heap.size = w.heap.size + 4 := by simp [due0]
theorem due0_one (w : World) (p : Option Addr) (b d e : Int) : One (due0 w p b d e) w.heap.size (.pointer p) ∧ One (due0 w p b d e) (w.heap.size + 1) (.int .i64 b) ∧ One (due0 w p b d e) (w.heap.size + 2) (.int .i64 d) ∧ One (due0 w p b d e) (w.heap.size + 3) (.int .i64 e) := by
  have a0 := One.new w (.pointer p) 55
  have a1 := One.new (w.alloc (.cells #[.pointer p] 55)) (.int .i64 b) 2
  have a2 := One.new ((w.alloc (.cells #[.pointer p] 55)).alloc (.cells #[.int .i64 b] 2)) (.int .i64 d) 2
  have a3 := One.new (((w.alloc (.cells #[.pointer p] 55)).alloc (.cells #[.int .i64 b] 2)).alloc (.cells #[.int .i64 d] 2)) (.int .i64 e) 25
  simp only [World.size_alloc] at a1 a2 a3
  have up : ∀ (W : World) (o : Obj) (k : Nat) (v : Value), One W k v → One (W.alloc o) k v := fun W o k v h => h.kept ((Below.refl _ _).alloc (Nat.le_refl _) _)
  exact ⟨up _ _ _ _ (up _ _ _ _ (up _ _ _ _ a0)), up _ _ _ _ (up _ _ _ _ a1), up _ _ _ _ a2, a3⟩

set_option maxRecDepth 100000 in
set_option maxHeartbeats 4000000 in
theorem due_none (p : Option Addr) (w : World) (s b : Int) (hcr : Calls Try.prog 58 #[.pointer p] (due0 w p b 0 0) fun e w' => e = .returned (.bool false) ∧ due0 w p b 0 0 = w') :
    Calls Try.prog 42 #[.pointer p, .int .i64 s, .int .i64 b] w fun e w' => e = .returned (.tuple #[.int .i64 0, .int .i64 1]) ∧ Below w.heap.size w w' := by
  have hb := due0_below w p b 0 1
  obtain ⟨_, _, o2, o3⟩ := due0_one w p b 0 1
  have e2 := o2.var.1
  have e3 := o3.var.1
  unfold due0 at hcr hb e2 e3
  clear o2 o3
  refine (callsIn_wide (n := 3)).1 ?_
  refine callsIn_of_wp_marks Try.func42 rfl trivial ?_
  simp only [Try.ntmps42, List.size_toArray, List.length_cons, List.length_nil, Nat.reduceAdd, Nat.reduceSub, Array.replicate_succ, Array.replicate_zero, List.push_toArray, List.append_toArray, List.nil_append, List.cons_append]
  gi_wp2_with (refine ⟨trivial, ?_⟩; gi_at_call 58; refine (callsIn_wide.2 hcr).mono ?_; rintro e w' ⟨rfl, rfl⟩)
  refine ⟨.tuple #[.int .i64 0, .int .i64 1], ?_, rfl, hb⟩
  simp [results, Try.results42, go_sem, e2, e3]

set_option maxRecDepth 100000 in
set_option maxHeartbeats 8000000 in
theorem due_bad {L : Loc} {D : Cal} {w : World} (h : Ck L D w) (s b : Int) (hb : ¬ (instB s = true ∧ 0 ≤ b)) :
    Calls Try.prog 42 #[.pointer (some ⟨L.K, 0, none⟩), .int .i64 s, .int .i64 b] w fun e w' => e = .returned (.tuple #[.int .i64 0, .int .i64 2]) ∧ Below w.heap.size w w' := by
  have hcr := ccreated_yes (h.kept (due0_below w (some ⟨L.K, 0, none⟩) b 0 0))
  have hi1 := instant_any s
  obtain ⟨bx, ex⟩ : ∃ c, instB s = c := ⟨_, rfl⟩
  obtain ⟨d, ed⟩ : ∃ c, decide (b < 0) = c := ⟨_, rfl⟩
  have hbad : bx = false ∨ d = true := by
    cases bx with
    | false => exact .inl rfl
    | true => exact .inr (by rw [← ed]; exact decide_eq_true (by
        rcases Int.lt_or_le b 0 with h | h
        · exact h
        · exact absurd ⟨ex, h⟩ hb))
  rw [ex] at hi1
  have hB := due0_below w (some ⟨L.K, 0, none⟩) b 0 2
  obtain ⟨_, _, o2, o3⟩ := due0_one w (some ⟨L.K, 0, none⟩) b 0 2
  have e2 := o2.var.1
  have e3 := o3.var.1
  have k1 := (due0_one w (some ⟨L.K, 0, none⟩) b 0 0).2.1.var.1
  unfold due0 at hcr hB e2 e3 k1
  clear h hb ex o2 o3
  cases bx <;> cases d
  case true.false => rcases hbad with h | h <;> cases h
  all_goals
    clear hbad
    refine (callsIn_wide (n := 3)).1 ?_
    refine callsIn_of_wp_marks Try.func42 rfl trivial ?_
    simp only [Try.ntmps42, List.size_toArray, List.length_cons, List.length_nil, Nat.reduceAdd, Nat.reduceSub, Array.replicate_succ, Array.replicate_zero, List.push_toArray, List.append_toArray, List.nil_append, List.cons_append]
    gi_wp2_with (first
      | (refine ⟨trivial, ?_⟩; gi_at_call 58; refine (callsIn_wide.2 hcr).mono ?_; rintro e w' ⟨rfl, rfl⟩)
      | (refine ⟨trivial, ?_⟩; gi_at_call 62; refine (callsIn_wide.2 (hi1 _)).mono ?_; rintro e w' ⟨rfl, rfl⟩))
    refine ⟨.tuple #[.int .i64 0, .int .i64 2], ?_, rfl, hB⟩
    simp [results, Try.results42, go_sem, e2, e3]
set_option maxRecDepth 100000 in
set_option maxHeartbeats 8000000 in
theorem due_zero {L : Loc} {D : Cal} {w : World} (h : Ck L D w) (s : Int) (hs : instB s = true) :
    Calls Try.prog 42 #[.pointer (some ⟨L.K, 0, none⟩), .int .i64 s, .int .i64 0] w fun e w' => e = .returned (.tuple #[.int .i64 s, .int .i64 0]) ∧ Below w.heap.size w w' := by
  have hcr := ccreated_yes (h.kept (due0_below w (some ⟨L.K, 0, none⟩) 0 0 0))
  have hi1 := instant_any s
  rw [hs] at hi1
  have hB := due0_below w (some ⟨L.K, 0, none⟩) 0 s 0
  obtain ⟨_, _, o2, o3⟩ := due0_one w (some ⟨L.K, 0, none⟩) 0 s 0
  have e2 := o2.var.1
  have e3 := o3.var.1
  have k1 := (due0_one w (some ⟨L.K, 0, none⟩) 0 0 0).2.1.var.1
  unfold due0 at hcr hB e2 e3 k1
  clear h hs o2 o3
  refine (callsIn_wide (n := 3)).1 ?_
  refine callsIn_of_wp_marks Try.func42 rfl trivial ?_
  simp only [Try.ntmps42, List.size_toArray, List.length_cons, List.length_nil, Nat.reduceAdd, Nat.reduceSub, Array.replicate_succ, Array.replicate_zero, List.push_toArray, List.append_toArray, List.nil_append, List.cons_append]
  gi_wp2_with (first
    | (refine ⟨trivial, ?_⟩; gi_at_call 58; refine (callsIn_wide.2 hcr).mono ?_; rintro e w' ⟨rfl, rfl⟩)
    | (refine ⟨trivial, ?_⟩; gi_at_call 62; refine (callsIn_wide.2 (hi1 _)).mono ?_; rintro e w' ⟨rfl, rfl⟩))
  refine ⟨.tuple #[.int .i64 s, .int .i64 0], ?_, rfl, hB⟩
  simp [results, Try.results42, go_sem, e2, e3]

set_option maxRecDepth 100000 in
set_option maxHeartbeats 8000000 in
theorem due_closed {L : Loc} {D : Cal} {w : World} (h : Ck L D w) (hd : D.ok) (s b : Int) (hs : instB s = true) (hb : 0 < b) (hz : tsum D.F D.T D.n = 0) :
    Calls Try.prog 42 #[.pointer (some ⟨L.K, 0, none⟩), .int .i64 s, .int .i64 b] w (Asks L D (.tuple #[.int .i64 0, .int .i64 40]) w) := by
  have hB := due0_below w (some ⟨L.K, 0, none⟩) b 0 0
  have hC := h.pl.lt
  have hck := h.kept hB
  have hcr := ccreated_yes hck
  have hi1 := instant_any s
  rw [hs] at hi1
  have hto := total_anyG hck.pl hd.wk.len hd.wk.good
  have HAP := Lib.hid (fun N (hN : w.heap.size ≤ N) => (h.pl.ap hN).kept hC hB)
  have HSZ := Lib.hid (due0_size w (some ⟨L.K, 0, none⟩) b 0 0)
  rw [hz] at hto
  have hk1 := hck.k1
  obtain ⟨o0, o1, o2, o3⟩ := due0_one w (some ⟨L.K, 0, none⟩) b 0 0
  have k0 := o0.var.1
  have k1 := o1.var.1
  have d1 : decide (b < 0) = false := decide_eq_false (by omega)
  have d2 : (b == 0) = false := by simp; omega
  have hn : D.n = 0 := by
    rcases Nat.eq_zero_or_pos D.n with h | h
    · exact h
    · have := tsum_pos hd.wk.good h; omega
  have HN := Lib.hid hn
  have H0 := Lib.hid h
  have HB := Lib.hid hB
  have HCK := Lib.hid hck
  have HO2 := Lib.hid o2
  have HO3 := Lib.hid o3
  unfold due0 at hcr hto hk1 k0 k1
  clear h hd hs hz o0 o1 o2 o3 hB hck hn
  refine (callsIn_wide (n := 3)).1 ?_
  refine callsIn_of_wp_marks Try.func42 rfl trivial ?_
  simp only [Try.ntmps42, List.size_toArray, List.length_cons, List.length_nil, Nat.reduceAdd, Nat.reduceSub, Array.replicate_succ, Array.replicate_zero, List.push_toArray, List.append_toArray, List.nil_append, List.cons_append]
  gi_wp2_with (first
    | (refine ⟨trivial, ?_⟩; gi_at_call 58; refine (callsIn_wide.2 hcr).mono ?_; rintro e w' ⟨rfl, rfl⟩)
    | (refine ⟨trivial, ?_⟩; gi_at_call 62; refine (callsIn_wide.2 (hi1 _)).mono ?_; rintro e w' ⟨rfl, rfl⟩)
    | (refine ⟨trivial, ?_⟩; gi_at_call 66; refine (callsIn_wide.2 hto).mono ?_; rintro e w5 ⟨⟨rfl, hp5, ho5⟩, ha5⟩; have HA5 := Lib.hid ha5; clear ha5; have HCK5 := Lib.hid (HCK.out.only ho5 hp5); have HO5 := Lib.hid ho5; have hr2 := HO2.out.keptX (Kept.only ho5) (by omega); have hr3 := HO3.out.keptX (Kept.only ho5) (by omega); have HR2 := Lib.hid hr2; have HR3 := Lib.hid hr3; have c2 := hr2.var.1; have f2 := hr2.var.2; have c3 := hr3.var.1; have f3 := hr3.var.2; clear hp5 ho5 hr2 hr3))
  have e2 := ((HR2.out.set (.int .i64 0)).other (by omega : w.heap.size + 2 ≠ w.heap.size + 3) 0 (.int .i64 40)).var.1
  have e3 := ((HR3.out.other (by omega : w.heap.size + 3 ≠ w.heap.size + 2) 0 (.int .i64 0)).set (.int .i64 40)).var.1
  have ha2 := HA5.out (w.heap.size + 2) (by have := HSZ.out; unfold due0 at this; omega) (HAP.out _ (by omega))
  have ha3 := HA5.out (w.heap.size + 3) (by have := HSZ.out; unfold due0 at this; omega) (HAP.out _ (by omega))
  have hck2 := H0.out.setAp (N := w.heap.size + 2) (by omega) HCK5.out ha2 (.int .i64 0)
  have hck3 : Ck L D ((w5.setCell ⟨w.heap.size + 2, 0, none⟩ (.int .i64 0)).setCell ⟨w.heap.size + 3, 0, none⟩ (.int .i64 40)) := by
    refine H0.out.setAp (N := w.heap.size + 3) (by omega) hck2 ?_ _
    intro x n c hx
    rw [World.cell?_of_block (Below.heap_setCell _ _ _ _ (by show L.C ≠ w.heap.size + 2; omega))] at hx
    exact ha3 x n c hx
  refine ⟨.tuple #[.int .i64 0, .int .i64 40], ?_, rfl, hck3, ?_⟩
  · simp [results, Try.results42, go_sem, e2, e3]
  · exact (((Only.below HB.out).trans HO5.out).setCell_new (p := ⟨w.heap.size + 2, 0, none⟩) (by show w.heap.size ≤ w.heap.size + 2; omega) _).setCell_new (p := ⟨w.heap.size + 3, 0, none⟩) (by show w.heap.size ≤ w.heap.size + 3; omega) _
end Go.Proofs.Ytfeegohjgecjgaa

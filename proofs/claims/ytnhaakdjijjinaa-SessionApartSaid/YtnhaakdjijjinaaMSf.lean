import Derived.Test.YtnhaakdjijjinaaMSb
import Derived.Test.YtnhaakdjijjinaaMSe
namespace Go.Proofs.Ytnhaakdjijjinaa
open Go.RowKit
/- Session: how the law's calls come in, with the bounds that soundness asks. -/
open Go.RowKit Go.Maps
theorem sm_wfU {n : Int} (h : (Lit.int .u64 n).wf = true) : 0 ≤ n ∧ n < 18446744073709551616 := by
  simp [Lit.wf, IntKind.min, IntKind.max, IntKind.signed, IntKind.bits] at h
  omega
theorem sm_wfI {n : Int} (h : (Lit.int .i64 n).wf = true) : -9223372036854775808 ≤ n ∧ n ≤ 9223372036854775807 := by
  simp [Lit.wf, IntKind.min, IntKind.max, IntKind.signed, IntKind.bits] at h
  omega
set_option maxRecDepth 100000 in
theorem us_in4 {H : Type} {enc : TypeId × Value → H} {w : World} {base : Nat} {sp : Nat → Bool} {held : Bool} {fuel : Nat} {v : Value} {x : DataW H × List MemPlace}
    (h : DataW.trod enc Try.prog w base sp held fuel 26 [v] = some x) : ∃ a n c xs, v = .slice a n c ∧ Us w a n xs ∧ (a = none → c = 0) := by
  rcases Deep.open_slice Try.underlying26 h with ⟨hcs, _⟩ | ⟨x, l, c, m, nn, D, Pl, hcs, _, hl, hm, hmm, _, hi⟩
  · simp only [List.cons.injEq, and_true] at hcs
    exact ⟨_, _, _, [], hcs, Us.none w, fun _ => rfl⟩
  · simp only [List.cons.injEq, and_true] at hcs
    have hlm : l ≤ m := by rw [hmm]; split <;> omega
    have cellsB : Try.prog.cellsOf 23 = 1 := by kernel_rfl
    have key : ∀ i, i < l → ∃ t : Nat, w.cell? (x.add i) = some (.int .u64 (t : Int)) ∧ t < 18446744073709551616 := by
      intro i hil
      obtain ⟨cs', hc, ht⟩ := hi i (by omega)
      obtain ⟨f, e0, _, w0⟩ := DataW.trod_int Try.underlying23 ht
      subst e0
      rw [cellsB] at hc
      obtain ⟨_, hcl, hat⟩ := World.cells?_some hc
      have hb := sm_wfU w0
      refine ⟨f.toNat, ?_, by omega⟩
      have h1 := hat 0 (by omega)
      rw [Deep.add_add] at h1
      have e : ((f.toNat : Nat) : Int) = f := by omega
      rw [e]
      simpa using h1
    obtain ⟨f, hf⟩ := Deep.choose_lt key
    refine ⟨_, _, _, (List.range l).map f, hcs, ⟨by simp, by unfold maxLen at *; omega, fun c hc => ?_, fun i hi' => ?_⟩, fun h => by cases h⟩
    · obtain ⟨i, hi', rfl⟩ := List.mem_map.1 hc
      exact (hf i (by simpa using hi')).2
    · have h0 := (hf i hi').1
      have hs := cell_spot h0
      have hb : (x.add i).block = x.block := by unfold Addr.add; split <;> rfl
      have hx : x = ⟨x.block, x.off, none⟩ := by
        have h00 : w.cell? x = some (.int .u64 ((f 0 : Nat) : Int)) := (hf 0 (by omega)).1
        exact (cell_spot h00).1
      refine ⟨x.block, x.off, by rw [← hx], by rw [← hb]; exact hs.2, ?_⟩
      rw [← add_at, ← hx, h0]
      simp [hi']
theorem ry_cells8 : Try.prog.cellsOf 2 = 1 ∧ Try.prog.cellsOf 23 = 1 ∧ Try.prog.cellsOf 3 = 1 ∧ Try.prog.cellsOf 22 = 1 ∧ Try.prog.cellsOf 26 = 1 ∧ Try.prog.cellsOf 25 = 9 := ⟨by kernel_rfl, by kernel_rfl, by kernel_rfl, by kernel_rfl, by kernel_rfl, by kernel_rfl⟩
set_option maxRecDepth 100000 in
set_option maxHeartbeats 4000000 in
theorem reply_cells4 {H : Type} {enc : TypeId × Value → H} {w : World} {base : Nat} {sp : Nat → Bool} {held : Bool} {fuel : Nat} {cs : List Value} {x : DataW H × List MemPlace}
    (h : DataW.trod enc Try.prog w base sp held fuel 28 cs = some x) :
    ∃ cd tm id cn st lv ge fr lf du tl a n ca nt de us, cs = [.int .i64 cd, .int .i64 tm, .int .u64 id, .int .i64 cn, .int .i64 st, .int .i64 lv, .int .u64 ge, .int .i64 fr, .int .i64 lf, .int .i64 du, .int .i64 tl, .slice a n ca, .int .u64 nt, .int .i64 de] ∧ Us w a n us ∧ fr ≤ 9223372036854775807 ∧ (0 ≤ id ∧ id < 18446744073709551616) ∧ (0 ≤ ge ∧ ge < 18446744073709551616) ∧ (0 ≤ nt ∧ nt < 18446744073709551616) := by
  obtain ⟨xs, n, _, _, hlen, hxl, hg⟩ := DataW.trod_struct Try.underlying28 h
  have c28 : Try.prog.cellsOf 28 = 14 := by kernel_rfl
  rw [c28] at hlen
  match cs, hlen with
  | [c0, c1, c2, c3, c4, c5, c6, c7, c8, c9, c10, c11, c12, c13], _ =>
  obtain ⟨z1, z2, z3, z4, z5, z6⟩ := ry_cells8
  have g0 := hg 0 _ rfl
  have g1 := hg 1 _ rfl
  have g2 := hg 2 _ rfl
  have g3 := hg 3 _ rfl
  have g4 := hg 4 _ rfl
  have g5 := hg 5 _ rfl
  simp [z1, z2, z3, z4, z5, z6] at g0 g1 g2 g3 g4 g5
  have hx2 : xs.length = 6 := hxl
  rw [List.getElem?_eq_getElem (by omega)] at g0 g1 g2 g3 g4 g5
  obtain ⟨cd, e0, _, w0⟩ := DataW.trod_int Try.underlying22 g0
  obtain ⟨tm, e1, _, w1⟩ := DataW.trod_int Try.underlying2 g1
  obtain ⟨nt, e4, _, w4⟩ := DataW.trod_int Try.underlying23 g4
  obtain ⟨de, e5, _, w5⟩ := DataW.trod_int Try.underlying3 g5
  simp only [List.cons.injEq, and_true] at e0 e1 e4 e5
  subst e0 e1 e4 e5
  obtain ⟨ys, n6, _, _, hl6, hy6, hg6⟩ := DataW.trod_struct Try.underlying25 g2
  have k0 := hg6 0 _ rfl
  have k1 := hg6 1 _ rfl
  have k2 := hg6 2 _ rfl
  have k3 := hg6 3 _ rfl
  have k4 := hg6 4 _ rfl
  have k5 := hg6 5 _ rfl
  have k6 := hg6 6 _ rfl
  have k7 := hg6 7 _ rfl
  have k8 := hg6 8 _ rfl
  simp [z1, z2, z3] at k0 k1 k2 k3 k4 k5 k6 k7 k8
  have hy2 : ys.length = 9 := hy6
  rw [List.getElem?_eq_getElem (by omega)] at k0 k1 k2 k3 k4 k5 k6 k7 k8
  obtain ⟨id, f0, _, u0⟩ := DataW.trod_int Try.underlying23 k0
  obtain ⟨cn, f1, _, _⟩ := DataW.trod_int Try.underlying3 k1
  obtain ⟨st, f2, _, _⟩ := DataW.trod_int Try.underlying3 k2
  obtain ⟨lv, f3, _, _⟩ := DataW.trod_int Try.underlying3 k3
  obtain ⟨ge, f4, _, u4⟩ := DataW.trod_int Try.underlying23 k4
  obtain ⟨fr, f5, _, u5⟩ := DataW.trod_int Try.underlying2 k5
  obtain ⟨lf, f6, _, _⟩ := DataW.trod_int Try.underlying2 k6
  obtain ⟨du, f7, _, _⟩ := DataW.trod_int Try.underlying2 k7
  obtain ⟨tl, f8, _, _⟩ := DataW.trod_int Try.underlying3 k8
  simp only [List.cons.injEq, and_true] at f0 f1 f2 f3 f4 f5 f6 f7 f8
  subst f0 f1 f2 f3 f4 f5 f6 f7 f8
  obtain ⟨a, m, ca, us, rfl, hU, hZ⟩ := us_in4 g3
  exact ⟨cd, tm, id, cn, st, lv, ge, fr, lf, du, tl, a, m, ca, nt, de, us, rfl, hU, (sm_wfI u5).2, sm_wfU u0, sm_wfU u4, sm_wfU w4⟩
set_option maxRecDepth 100000 in
set_option maxHeartbeats 4000000 in
theorem opn_cells4 {H : Type} {enc : TypeId × Value → H} {w : World} {base : Nat} {sp : Nat → Bool} {held : Bool} {fuel : Nat} {cs : List Value} {x : DataW H × List MemPlace}
    (h : DataW.trod enc Try.prog w base sp held fuel 64 cs = some x) :
    ∃ (kd cl rq : Int) (cd tm id cn st lv ge fr lf du tl : Int) (a : Option Addr) (n ca : Nat) (nt de : Int) (xs : List Nat), cs = [.int .i64 kd, .int .u64 cl, .int .u64 rq, .int .i64 cd, .int .i64 tm, .int .u64 id, .int .i64 cn, .int .i64 st, .int .i64 lv, .int .u64 ge, .int .i64 fr, .int .i64 lf, .int .i64 du, .int .i64 tl, .slice a n ca, .int .u64 nt, .int .i64 de] ∧ OpIn w (Opn.mk kd cl rq cd tm id cn st lv ge fr lf du tl a n ca nt de xs) ∧ (0 ≤ id ∧ id < 18446744073709551616) ∧ (0 ≤ ge ∧ ge < 18446744073709551616) ∧ (0 ≤ nt ∧ nt < 18446744073709551616) := by
  obtain ⟨xs, n, _, _, hlen, hxl, hg⟩ := DataW.trod_struct Try.underlying64 h
  have c64 : Try.prog.cellsOf 64 = 17 := by kernel_rfl
  have c28 : Try.prog.cellsOf 28 = 14 := by kernel_rfl
  have c23 : Try.prog.cellsOf 23 = 1 := by kernel_rfl
  have h3 : Try.prog.cellsOf 3 = 1 := by kernel_rfl
  rw [c64] at hlen
  match cs, hlen with
  | [c0, c1, c2, c3, c4, c5, c6, c7, c8, c9, c10, c11, c12, c13, c14, c15, c16], _ =>
    have g0 := hg 0 _ rfl
    have g1 := hg 1 _ rfl
    have g2 := hg 2 _ rfl
    have g3 := hg 3 _ rfl
    simp [c28, c23, h3] at g0 g1 g2 g3
    have hx4 : xs.length = 4 := hxl
    rw [List.getElem?_eq_getElem (by omega)] at g0 g1 g2 g3
    obtain ⟨kd, e0, _, _⟩ := DataW.trod_int Try.underlying3 g0
    obtain ⟨cl, e1, _, w1⟩ := DataW.trod_int Try.underlying23 g1
    obtain ⟨rq, e2, _, w2⟩ := DataW.trod_int Try.underlying23 g2
    obtain ⟨cd, tm, id, cn, st, lv, ge, fr, lf, du, tl, a, m, ca, nt, de, us, e3, hU, hfr, hb3⟩ := reply_cells4 g3
    simp only [List.cons.injEq, and_true] at e0 e1 e2 e3
    subst e0 e1 e2
    obtain ⟨rfl, rfl, rfl, rfl, rfl, rfl, rfl, rfl, rfl, rfl, rfl, rfl, rfl, rfl⟩ := e3
    exact ⟨kd, cl, rq, cd, tm, id, cn, st, lv, ge, fr, lf, du, tl, a, m, ca, nt, de, us, rfl, ⟨hU, sm_wfU w1, sm_wfU w2, hfr⟩, hb3⟩
instance : Inhabited Opn := ⟨⟨0, 0, 0, 0, 0, 0, 0, 0, 0, 0, 0, 0, 0, 0, none, 0, 0, 0, 0, []⟩⟩
def B3 (x : Opn) : Prop := (0 ≤ x.id ∧ x.id < 18446744073709551616) ∧ (0 ≤ x.ge ∧ x.ge < 18446744073709551616) ∧ (0 ≤ x.nt ∧ x.nt < 18446744073709551616)
def OpsB (w : World) (a : Option Addr) (len : Nat) (O : Nat → Opn) : Prop := Ops w a len O ∧ ∀ k, k < len → B3 (O k)
set_option maxRecDepth 100000 in
theorem opns_in4 {H : Type} {enc : TypeId × Value → H} {w : World} {base : Nat} {sp : Nat → Bool} {held : Bool} {fuel : Nat} {a : Option Addr} {n cap : Nat} {x : DataW H × List MemPlace}
    (h : DataW.trod enc Try.prog w base sp held fuel 55 (Value.slice a n cap).cells.toList = some x) : ∃ O, OpsB w a n O := by
  have c64 : Try.prog.cellsOf 64 = 17 := by kernel_rfl
  rcases Deep.open_slice Try.underlying55 h with ⟨hcs, _⟩ | ⟨x, l, c, m, nn, D, Pl, hcs, _, hl, hm, hmm, _, hi⟩
  · simp [Value.cells] at hcs
    obtain ⟨rfl, rfl, rfl⟩ := hcs
    exact ⟨fun _ => default, ⟨by simp, fun h => by omega, fun k hk => by omega⟩, fun k hk => by omega⟩
  · simp [Value.cells] at hcs
    obtain ⟨rfl, rfl, rfl⟩ := hcs
    have hlm : n ≤ m := by rw [hmm]; split <;> omega
    have hex : 0 < n → x = ⟨x.block, x.off, none⟩ ∧ x.block < w.heap.size := by
      intro h0
      obtain ⟨cs', hc, ht⟩ := hi 0 (by omega)
      obtain ⟨kd, cl, rq, cd, tm, id, cn, st, lv, ge, fr, lf, du, tl, a, n', ca, nt, de, xs, rfl, _⟩ := opn_cells4 ht
      rw [c64] at hc
      obtain ⟨_, hcl, hat⟩ := World.cells?_some hc
      have e00 := cell_spot ((hat 0 (by omega)).trans (List.getElem?_cons_zero))
      have e0 := e00.1
      have e1 := e00.2
      rw [Deep.add_add] at e0 e1
      refine ⟨?_, by simpa [Addr.add] using e1⟩
      cases x; simp [Addr.add] at e0; simp [e0]
    have key : ∀ i, i < n → ∃ y : Opn, (OpIn w y ∧ B3 y) ∧ OpCells w x.block (x.off + i * 17) y := by
      intro i hil
      obtain ⟨cs', hc, ht⟩ := hi i (by omega)
      obtain ⟨kd, cl, rq, cd, tm, id, cn, st, lv, ge, fr, lf, du, tl, a, n', ca, nt, de, xs, rfl, hin0, hin3⟩ := opn_cells4 ht
      have hin := And.intro hin0 (show B3 (Opn.mk kd cl rq cd tm id cn st lv ge fr lf du tl a n' ca nt de xs) from hin3)
      rw [c64] at hc
      obtain ⟨_, hcl, hat⟩ := World.cells?_some hc
      have ex := (hex (by omega)).1
      refine ⟨_, hin, ?_⟩
      have hj : ∀ j (hj : j < 17), w.cell? ⟨x.block, x.off + i * 17 + j, none⟩ = ([.int .i64 kd, .int .u64 cl, .int .u64 rq, .int .i64 cd, .int .i64 tm, .int .u64 id, .int .i64 cn, .int .i64 st, .int .i64 lv, .int .u64 ge, .int .i64 fr, .int .i64 lf, .int .i64 du, .int .i64 tl, .slice a n' ca, .int .u64 nt, .int .i64 de] : List Value)[j]? := by
        intro j hj
        have h1 := hat j hj
        rw [Deep.add_add, ex, add_at, ← Nat.add_assoc] at h1
        exact h1
      exact ⟨hj 0 (by omega), hj 1 (by omega), hj 2 (by omega), hj 3 (by omega), hj 4 (by omega), hj 5 (by omega), hj 6 (by omega), hj 7 (by omega), hj 8 (by omega), hj 9 (by omega), hj 10 (by omega), hj 11 (by omega), hj 12 (by omega), hj 13 (by omega), hj 14 (by omega), hj 15 (by omega), hj 16 (by omega)⟩
    obtain ⟨f, hf⟩ := Deep.choose_lt key
    exact ⟨f, ⟨by unfold maxLen at *; omega, fun h0 => ⟨x.block, x.off, by rw [← (hex h0).1], (hex h0).2, fun k hk => (hf k hk).2⟩, fun k hk => (hf k hk).1.1⟩, fun k hk => (hf k hk).1.2⟩
/- Session: whatever is done, both tables tell the same (the walk of the law). -/
open Go.RowKit Go.Maps
def opL (x : Opn) : List Value := [.int .i64 x.kd, .int .u64 x.cl, .int .u64 x.rq, .int .i64 x.cd, .int .i64 x.tm, .int .u64 x.id, .int .i64 x.cn, .int .i64 x.st, .int .i64 x.lv, .int .u64 x.ge, .int .i64 x.fr, .int .i64 x.lf, .int .i64 x.du, .int .i64 x.tl, .slice x.a x.n x.ca, .int .u64 x.nt, .int .i64 x.de]
theorem opL_one (x : Opn) : ∀ v ∈ opL x, v.oneCell' = true := by
  intro v hv
  simp only [opL, List.mem_cons, List.not_mem_nil, or_false] at hv
  rcases hv with rfl | rfl | rfl | rfl | rfl | rfl | rfl | rfl | rfl | rfl | rfl | rfl | rfl | rfl | rfl | rfl | rfl <;> rfl
theorem op_rng {w : World} {b o : Nat} {x : Opn} (h : OpCells w b o x) : w.rangeAt b o (opL x) := by
  obtain ⟨q0, q1, q2, q3, q4, q5, q6, q7, q8, q9, q10, q11, q12, q13, q14, q15, q16⟩ := h
  intro j v hv
  have hj : j < 17 := by have := (List.getElem?_eq_some_iff.1 hv).1; simpa [opL] using this
  have hh : j = 0 ∨ j = 1 ∨ j = 2 ∨ j = 3 ∨ j = 4 ∨ j = 5 ∨ j = 6 ∨ j = 7 ∨ j = 8 ∨ j = 9 ∨ j = 10 ∨ j = 11 ∨ j = 12 ∨ j = 13 ∨ j = 14 ∨ j = 15 ∨ j = 16 := by omega
  rcases hh with rfl | rfl | rfl | rfl | rfl | rfl | rfl | rfl | rfl | rfl | rfl | rfl | rfl | rfl | rfl | rfl | rfl <;> (simp [opL] at hv; subst hv; first | assumption | (simp only [Nat.add_zero]; assumption))
theorem there_box {w : World} {N : Nat} {cs : Array Value} {t : TypeId} (s : w.heap[N]? = some (.cells cs t (0, 0))) : w.there N 0 cs.size := fun j hj => by
  rw [Nat.zero_add]
  refine ⟨?_, ?_⟩
  · simp only [World.cell?, s]
    simp [hj]
  · simp only [World.frozen?, s]
    simp
theorem op_info : (Try.prog.info? 64).map (·.size) = some 17 := by kernel_rfl
theorem op_und : Try.prog.underlying 64 = some (.struct (Try.prog.fieldsOf 64)) := by kernel_rfl
theorem do_any {Av : Nat} {w : World} {T mb c : Nat} {M : Lit → Option Value} {X : Nat → Opn} (h : Rt Av w T mb c M X) (kd cl rq : Int) (cd tm id cn st lv ge fr lf du tl : Int) (a : Option Addr) (n ca : Nat) (nt de : Int) (xs : List Nat) (hin : OpIn w (Opn.mk kd cl rq cd tm id cn st lv ge fr lf du tl a n ca nt de xs)) (hb3 : B3 (Opn.mk kd cl rq cd tm id cn st lv ge fr lf du tl a n ca nt de xs)) (hn2 : n ≤ 200) (hav : Av < w.heap.size) (hxa : ∀ g o, a = some ⟨g, o, none⟩ → 0 < n → g ≠ Av) :
    Calls Try.prog 30 #[.pointer (some ⟨T, 0, none⟩), rtV X, .agg #[.int .i64 kd, .int .u64 cl, .int .u64 rq, .int .i64 cd, .int .i64 tm, .int .u64 id, .int .i64 cn, .int .i64 st, .int .i64 lv, .int .u64 ge, .int .i64 fr, .int .i64 lf, .int .i64 du, .int .i64 tl, .slice a n ca, .int .u64 nt, .int .i64 de]] w fun e w' => ∃ X', e = .returned (.tuple #[rtV X', .bool true]) ∧ (∃ c' M', Rt Av w' T mb c' M' X') ∧ w.grownBy w' (some mb) := by
  by_cases h1 : kd = 1
  · exact do_look h kd cl rq cd tm id cn st lv ge fr lf du tl a n ca nt de xs hin hb3 hn2 hav hxa h1
  by_cases h2 : kd = 2
  · exact do_drop h kd cl rq cd tm id cn st lv ge fr lf du tl a n ca nt de xs hin hb3 hn2 hav hxa h2
  · exact do_done h kd cl rq cd tm id cn st lv ge fr lf du tl a n ca nt de xs hin hb3 hn2 hav hxa h1 h2
theorem wpAnyH_more5 {P : Program} {md : Region.Mode} {ops : Array Oper} {Q : Exit → Act → World → Prop} {S S' : World → Prop} (h : ∀ w, S' w → S w) : ∀ (fuel : Nat) (listed : Array Bool) (a : Act) (w : World), wpAnyH P md ops Q S' fuel listed a w → wpAnyH P md ops Q S fuel listed a w
  | 0, _, _, _, k => k
  | fuel + 1, _, _, _, k => ⟨k.1, fun i hi => wpOp_mono (fun _ _ h' => ⟨h _ h'.1, wpAnyH_more5 h fuel _ _ _ h'.2⟩) (k.2 i hi)⟩
theorem yields_str5 {S' : World → Prop} {v : Value} {bs : List Nat} (hS : ∀ W, S' W → RB W v bs) (ops : Array Oper) (op : Oper) (a : Act) (hw : Region.wanted op (yielded ops a.tmps) = true) (x : Operand) (ho : op.op = .convert 35 9 x) (hx : a.eval x = v) : YieldsIf Try.prog ops S' op (.string (str bs)) a := by
  refine .inl ⟨hw, fun w hw' => ?_⟩
  have h := rb_string (P := Try.prog) (hS w hw') 35 9 5 Try.underlying35 Try.underlying5 Try.underlying9
  unfold execOp
  simp only [ho, hx]
  go_simp
set_option maxRecDepth 100000 in
set_option maxHeartbeats 8000000 in
theorem plays_any (a0 : Option Addr) (len cap : Nat) (O : Nat → Opn) (w : World) (h : OpsB w a0 len O) :
    Calls Try.prog 6 #[.slice a0 len cap] w fun e w' => e = .returned (.bool true) ∧ Below w.heap.size w w' := by
  have HO := Lib.hid h.1
  have HO3 := Lib.hid h.2
  have HONE : Hid (∀ V, (tabC V).toArray.all (·.oneCell') = true) := Lib.hid (fun V => all_oneCell_toArray (tabC_one V))
  have HYI : Hid (∀ V, (Try.prog.info? 62).map (·.size) = some (tabC V).length) := Lib.hid (fun V => by rw [rt_info, tabC_len])
  have HTA : Hid (∀ V, (tabC V).toArray.size = 135) := Lib.hid (fun V => by rw [List.size_toArray, tabC_len])
  have HYA : Hid (∀ V, (Try.prog.info? 62).map (·.size) = some (tabC V).toArray.size) := Lib.hid (fun V => by rw [rt_info, List.size_toArray, tabC_len])
  clear h
  go_enter Try.func6, Try.ntmps6
  go_wp2_with fail
  refine (light20 a0 len cap O w HO.out).mono ?_
  rintro e w1 ⟨z, rfl, hz, hb⟩
  have HB1 := Lib.hid hb
  clear hb
  cases z
  case false =>
    clear hz
    go_wp2_with fail
    refine (lives20 _).mono ?_
    rintro e w2 ⟨rfl, hb⟩
    have HB2 := Lib.hid (HB1.out.trans (hb.mono HB1.out.size))
    clear hb
    go_wp2_with fail
    go_ret
    exact ⟨rfl, HB2.out⟩
  case true =>
  have HZ := Lib.hid (hz rfl)
  clear hz
  go_wp2_with fail
  refine (empty_any w1).mono ?_
  rintro e w2 ⟨T, mb, rfl, hT, hmb, ht, hb⟩
  have A1 : Below w2.heap.size w2 (w2.alloc (.cells Try.zeroCells62 62)) := (Below.refl _ _).alloc (Nat.le_refl _) _
  have hB2 := HB1.out.trans (hb.mono HB1.out.size)
  have HB2 := Lib.hid (hB2.trans (A1.mono hB2.size))
  have hz0 := RT.made w2 (fun _ => zOp) 62
  rw [← z135] at hz0
  obtain ⟨Av, hAv⟩ : ∃ y, w2.heap.size = y := ⟨_, rfl⟩
  have HRT := Lib.hid (show Rt Av (w2.alloc (.cells Try.zeroCells62 62)) T mb 0 (fun _ => none) (fun _ => zOp) from ⟨ht.kept A1, rfl, fun i _ _ => .inl ⟨rfl, rfl⟩, fun _ _ => rfl⟩)
  have HMM : Hid (w.heap.size ≤ mb ∧ mb < Av ∧ T < Av ∧ w.heap.size ≤ Av) := Lib.hid ⟨Nat.le_trans HB1.out.size hmb, by rw [← hAv]; exact ht.2.lt, by rw [← hAv]; exact ex_lt ht.1, by rw [← hAv]; exact hB2.size⟩
  rw [hAv] at hz0
  have HR := Lib.hid hz0
  clear hT hmb ht hb A1 hB2 hz0 HB1
  go_wp2_with fail
  try rw [hAv]
  clear hAv
  generalize w2.alloc (.cells Try.zeroCells62 62) = W3 at HB2 HRT HR ⊢
  go_loopw [16] (fun i wr => ∃ (k : Nat) (M : Lit → Option Value) (X : Nat → Opn) (c : Nat), k ≤ len ∧ i = .int .i64 k ∧ Hid (Rt Av wr T mb c M X) ∧ Hid (RT wr Av X) ∧ Hid (Below w.heap.size w wr)) (fun i _ => len - (intOf i).toNat)
  case atStart => exact ⟨0, _, _, 0, Nat.zero_le _, rfl, HRT, HR, HB2⟩
  case round =>
    clear HRT HR HB2 W3
    obtain ⟨k, M, X, c, hk, rfl, HRT, HR, HB⟩ := hrel
    by_cases hlt : k < len
    · have h1 := HO.out.kept HB.out
      obtain ⟨ab, ao, rfl, hab, hcs⟩ := h1.2.1 (by omega)
      have hc := hcs k hlt
      unfold OpCells at hc
      have hin := h1.2.2 k hlt
      have hin0 := HO.out.2.2 k hlt
      have hb3 := HO3.out k hlt
      have hn2 := HZ.out.1 k hlt
      have hlen := HZ.out.2
      obtain ⟨x, hx⟩ : ∃ x, O k = x := ⟨_, rfl⟩
      rw [hx] at hc hin hn2 hb3 hin0
      obtain ⟨kd, cl, rq, cd, tm, id, cn, st, lv, ge, fr, lf, du, tl, a, n, ca, nt, de, xs⟩ := x
      clear hx
      dsimp only at hn2
      have HRG := Lib.hid (op_rng hc)
      have HXA : Hid (∀ g o, a = some ⟨g, o, none⟩ → 0 < n → g ≠ Av) := Lib.hid (fun g o ha h0 => by
        obtain ⟨b, off, ha', hb', -⟩ := hin0.1.2.2.2 0 h0
        have ha2 : a = some ⟨b, off, none⟩ := ha'
        rw [ha2] at ha
        injection ha with ha
        injection ha with ha _ _
        have := HMM.out
        omega)
      have HCL : Hid (0 ≤ cl ∧ cl < 18446744073709551616) := Lib.hid hin.2.1
      have k0 : (0 : Int) ≤ (k : Int) := by omega
      have kl : (k : Int) < (len : Int) := by omega
      have d4 : decide ((k : Int) < (len : Int)) = true := by simp [hlt]
      have hw64 : wrap64 ((k : Int) + 1) = (k : Int) + 1 := IntWalk.wrap64_in _ (by omega)
      obtain ⟨Y1, Y2, -⟩ := box1 wr #[.int .i64 0, .int .u64 0, .int .u64 0, .int .i64 0, .int .i64 0, .int .u64 0, .int .i64 0, .int .i64 0, .int .i64 0, .int .u64 0, .int .i64 0, .int .i64 0, .int .i64 0, .int .i64 0, .slice none 0 0, .int .u64 0, .int .i64 0] 64
      have hgg := HR.out.lt
      obtain ⟨G6, hG6⟩ : ∃ y, wr.heap.size = y := ⟨_, rfl⟩
      rw [hG6] at Y2
      have HTH := Lib.hid (there_box Y2)
      have hbw : Below wr.heap.size wr ((wr.alloc (.cells #[.int .i64 0, .int .u64 0, .int .u64 0, .int .i64 0, .int .i64 0, .int .u64 0, .int .i64 0, .int .i64 0, .int .i64 0, .int .u64 0, .int .i64 0, .int .i64 0, .int .i64 0, .int .i64 0, .slice none 0 0, .int .u64 0, .int .i64 0] 64)).setCells G6 0 (opL (Opn.mk kd cl rq cd tm id cn st lv ge fr lf du tl a n ca nt de xs))) := below_setCells Y1 (by rw [hG6]; exact Nat.le_refl _) _ _
      have HRT7 := Lib.hid (HRT.out.kept hbw)
      have HR7 := Lib.hid (HR.out.kept hbw)
      have HB7 := Lib.hid (HB.out.trans (hbw.mono HB.out.size))
      have HS7 : Hid (((wr.alloc (.cells #[.int .i64 0, .int .u64 0, .int .u64 0, .int .i64 0, .int .i64 0, .int .u64 0, .int .i64 0, .int .i64 0, .int .i64 0, .int .u64 0, .int .i64 0, .int .i64 0, .int .i64 0, .int .i64 0, .slice none 0 0, .int .u64 0, .int .i64 0] 64)).setCells G6 0 (opL (Opn.mk kd cl rq cd tm id cn st lv ge fr lf du tl a n ca nt de xs))).rangeAt G6 0 (opL (Opn.mk kd cl rq cd tm id cn st lv ge fr lf du tl a n ca nt de xs))) := Lib.hid (World.rangeAt_setCells_same _ G6 0 _ HTH.out)
      have HDO := Lib.hid (do_any HRT7.out kd cl rq cd tm id cn st lv ge fr lf du tl a n ca nt de xs (hin.kept hbw) hb3 hn2 (Nat.lt_of_lt_of_le hgg hbw.size) HXA.out)
      have HGG : Hid (Av < G6) := Lib.hid (by rw [← hG6]; exact hgg)
      have HL17 : Hid ((Try.prog.info? 64).map (·.size) = some (opL (Opn.mk kd cl rq cd tm id cn st lv ge fr lf du tl a n ca nt de xs)).length) := Lib.hid op_info
      have HONE7 := Lib.hid (all_oneCell_toArray (opL_one (Opn.mk kd cl rq cd tm id cn st lv ge fr lf du tl a n ca nt de xs)))
      unfold rtV at HDO
      clear Y1 Y2 h1 hcs hab hin hin0 hb3 hn2 HRT HR HB hlen hgg hbw hc
      go_wp2_with (first
        | (refine wpList_load_mid rfl 64 (.tmp 18) rfl ab (ao + k * 17) rfl (opL (Opn.mk kd cl rq cd tm id cn st lv ge fr lf du tl a n ca nt de xs)) _ ?hh op_und rfl HL17.out ?_; exact HRG.out)
        | (refine wpList_store_mid rfl 64 (.tmp 6) (.tmp 19) rfl G6 0 (opL (Opn.mk kd cl rq cd tm id cn st lv ge fr lf du tl a n ca nt de xs)).toArray rfl rfl ?ht op_info HONE7.out ?_; exact HTH.out; rw [List.toList_toArray]; generalize (wr.alloc (.cells #[.int .i64 0, .int .u64 0, .int .u64 0, .int .i64 0, .int .i64 0, .int .u64 0, .int .i64 0, .int .i64 0, .int .i64 0, .int .u64 0, .int .i64 0, .int .i64 0, .int .i64 0, .int .i64 0, .slice none 0 0, .int .u64 0, .int .i64 0] 64)).setCells G6 0 (opL (Opn.mk kd cl rq cd tm id cn st lv ge fr lf du tl a n ca nt de xs)) = W7 at HRT7 HR7 HB7 HS7 HDO ⊢)
        | (refine wpList_load_mid (w := W7) rfl 62 (.tmp 4) rfl Av 0 rfl (tabC X) _ HR7.out.1 rt_und rfl (HYI.out X) ?_)
        | (refine wpList_load_mid (w := W7) rfl 64 (.tmp 6) rfl G6 0 rfl (opL (Opn.mk kd cl rq cd tm id cn st lv ge fr lf du tl a n ca nt de xs)) _ HS7.out op_und rfl HL17.out ?_))
      clear hG6
      refine HDO.out.mono ?_
      rintro e w8 ⟨X', rfl, ⟨c', M', hrt⟩, hg⟩
      have hz12 := RT.made w8 (fun _ => zOp) 62
      rw [← z135] at hz12
      have X1 : Below w8.heap.size w8 (w8.alloc (.cells Try.zeroCells62 62)) := (Below.refl _ _).alloc (Nat.le_refl _) _
      have HB8 := Lib.hid (grown_below HB7.out hg HMM.out.1 HB7.out.size)
      have hc7 : W7.cell? ⟨G6, 1, none⟩ = some (.int .u64 cl) := HS7.out 1 _ rfl
      have HS8 : Hid (w8.cell? ⟨G6, 1, none⟩ = some (.int .u64 cl)) := Lib.hid ((World.cell?_of_block (a := ⟨G6, 1, none⟩) (hg.block _ (cell_spot hc7).2 (by intro e; injection e with e; have := HMM.out; have := HGG.out; simp only at e; omega))).trans hc7)
      have HT8 : Hid (w8.there Av 0 135) := Lib.hid (there_eq HR7.out.2 (hg.block _ HR7.out.lt (by intro e; injection e with e; have := HMM.out; omega)))
      have HRT8 := Lib.hid hrt
      have HX8 := Lib.hid X1
      obtain ⟨G7, hG7⟩ : ∃ y, w8.heap.size = y := ⟨_, rfl⟩
      have HGL : Hid (Av < G7 ∧ G6 < G7) := Lib.hid (by rw [← hG7]; exact ⟨there_lt HT8.out, (cell_spot HS8.out).2⟩)
      rw [hG7] at hz12
      have HZb := Lib.hid hz12
      have HB10 := Lib.hid (below_setCells X1 (by rw [hG7]; exact Nat.le_refl _) (tabC X') 0 (N := G7))
      have HR10 := Lib.hid (RT.over2 HZb.out.2 X')
      have HT10 : Hid (((w8.alloc (.cells Try.zeroCells62 62)).setCells G7 0 (tabC X')).there Av 0 135) := Lib.hid (there_eq HT8.out (HB10.out.block _ (there_lt HT8.out)))
      have HR11 : Hid (RT (((w8.alloc (.cells Try.zeroCells62 62)).setCells G7 0 (tabC X')).setCells Av 0 (tabC X')) Av X') := Lib.hid (RT.over2 HT10.out X')
      have HRT10 := HRT8.out.kept HB10.out
      have HRT11 := Lib.hid (HRT10.far (w' := ((w8.alloc (.cells Try.zeroCells62 62)).setCells G7 0 (tabC X')).setCells Av 0 (tabC X')) (Nat.le_of_eq (size_setCells (tabC X') 0 _).symm) (by have := HMM.out; omega) (by have := HMM.out; omega) (fun k hk => heap_setCells hk (tabC X') 0 _))
      have HB11 := Lib.hid (below_setCells (HB8.out.trans (HB10.out.mono HB8.out.size)) HMM.out.2.2.2 (tabC X') 0 (N := Av))
      have HS11 : Hid ((((w8.alloc (.cells Try.zeroCells62 62)).setCells G7 0 (tabC X')).setCells Av 0 (tabC X')).cell? ⟨G6, 1, none⟩ = some (.int .u64 cl)) := Lib.hid ((World.cell?_of_block (a := ⟨G6, 1, none⟩) (heap_setCells (by have := HGG.out; show G6 ≠ Av; omega) _ _ _)).trans ((HB10.out.cell (p := ⟨G6, 1, none⟩) (cell_spot HS8.out).2).trans HS8.out))
      clear HRT10
      clear hrt hg hz12 X1 HDO HRT7 HR7 HB7 HS7
      go_wp2_with (first
        | (refine wpList_store_mid (w := w8.alloc (.cells Try.zeroCells62 62)) rfl 62 (.tmp 7) (.tmp 25) rfl G7 0 (tabC X').toArray rfl rfl (by rw [HTA.out X']; exact HZb.out.2) (HYA.out X') (HONE.out X') ?_; rw [List.toList_toArray]; generalize (w8.alloc (.cells Try.zeroCells62 62)).setCells G7 0 (tabC X') = W10 at HB10 HR10 HT10 HR11 HRT11 HB11 HS11 ⊢)
        | (refine wpList_load_mid (w := W10) rfl 62 (.tmp 7) rfl G7 0 rfl (tabC X') _ HR10.out.1 rt_und rfl (HYI.out X') ?_)
        | (refine wpList_store_mid (w := W10) rfl 62 (.tmp 4) (.tmp 27) rfl Av 0 (tabC X').toArray rfl rfl (by rw [HTA.out X']; exact HT10.out) (HYA.out X') (HONE.out X') ?_; rw [List.toList_toArray]; generalize W10.setCells Av 0 (tabC X') = W11 at HR11 HRT11 HB11 HS11 ⊢))
      clear hG7
      have HLQ : Hid (∀ W, Calls Try.prog 32 #[.agg (tabC X').toArray, .int .u64 cl] W fun e w' => e = .returned (.int .u64 (qv X' cl)) ∧ Below W.heap.size W w') := Lib.hid (fun W => rlast_q X' cl W)
      clear HB8 HS8 HT8 HRT8 HX8 HZb HB10 HR10 HT10
      have HS0 : Hid ((fun W => RT W Av X' ∧ W.cell? ⟨G6, 1, none⟩ = some (.int .u64 cl)) W11.drew) := Lib.hid ⟨HR11.out, HS11.out⟩
      have HRTD : Hid (Rt Av W11.drew T mb c' M' X') := Lib.hid (HRT11.out.kept ((Below.refl W11.heap.size W11).drew))
      have HBD : Hid (Below w.heap.size w W11.drew) := Lib.hid (HB11.out.trans (((Below.refl W11.heap.size W11).drew).mono HB11.out.size))
      clear HR11 HS11 HRT11 HB11
      refine wp_region_held_drew (S := fun W => RT W Av X' ∧ W.cell? ⟨G6, 1, none⟩ = some (.int .u64 cl)) (by kernel_rfl) HS0.out (fun hHeld => ?_)
      clear hHeld
      generalize W11.drew = W12 at HS0 HRTD HBD ⊢
      refine wpAnyH_take (i := 0) (oi := { dst := some 28, op := Go.Op.move (Go.Operand.tmp 8), type := 4, pos := "law.go:74", after := #[], guard := none }) (v := ?_) rfl (by kernel_rfl) (by kernel_rfl) (by kernel_rfl) (fun _ _ _ h => h) (Or.inl ⟨by rfl, ?_⟩) HS0.out ?_
      case refine_2 => (intro w1 hS1; clear hS1; go_simp; try with_reducible rfl)
      try simp only [Act.put, List.setIfInBounds_toArray, List.set_cons_zero, List.set_cons_succ]
      refine wpAnyH_take (i := 1) (oi := { dst := some 29, op := Go.Op.unOp Go.UnOp.not 4 (Go.Operand.tmp 28), type := 4, pos := "law.go:74", after := #[{ on := 0, ground := Go.Ground.data }], guard := none }) (v := ?_) rfl (by kernel_rfl) (by kernel_rfl) (by kernel_rfl) (fun _ _ _ h => h) (Or.inl ⟨by rfl, ?_⟩) HS0.out ?_
      case refine_2 => (intro w1 hS1; clear hS1; go_simp; try with_reducible rfl)
      try simp only [Act.put, List.setIfInBounds_toArray, List.set_cons_zero, List.set_cons_succ]
      refine wpAnyH_take (i := 2) (oi := { dst := some 30, op := Go.Op.move (Go.Operand.tmp 29), type := 4, pos := "law.go:74", after := #[{ on := 1, ground := Go.Ground.data }], guard := none }) (v := ?_) rfl (by kernel_rfl) (by kernel_rfl) (by kernel_rfl) (fun _ _ _ h => h) (Or.inl ⟨by rfl, ?_⟩) HS0.out ?_
      case refine_2 => (intro w1 hS1; clear hS1; go_simp; try with_reducible rfl)
      try simp only [Act.put, List.setIfInBounds_toArray, List.set_cons_zero, List.set_cons_succ]
      refine wpAnyH_take (i := 3) (oi := { dst := some 31, op := Go.Op.move (Go.Operand.tmp 3), type := 57, pos := "law.go:74", after := #[{ on := 2, ground := Go.Ground.guard }], guard := some (2, false) }) (v := ?_) rfl (by kernel_rfl) (by kernel_rfl) (by kernel_rfl) (fun _ _ _ h => h) (Or.inl ⟨by rfl, ?_⟩) HS0.out ?_
      case refine_2 => (intro w1 hS1; clear hS1; go_simp; try with_reducible rfl)
      try simp only [Act.put, List.setIfInBounds_toArray, List.set_cons_zero, List.set_cons_succ]
      refine wpAnyH_take (i := 4) (oi := { dst := some 32, op := Go.Op.fieldAddr 64 (Go.Operand.tmp 6) 1, type := 0, pos := "law.go:74", after := #[{ on := 2, ground := Go.Ground.guard }], guard := some (2, false) }) (v := ?_) rfl (by kernel_rfl) (by kernel_rfl) (by kernel_rfl) (fun _ _ _ h => h) (Or.inl ⟨by rfl, ?_⟩) HS0.out ?_
      case refine_2 => (intro w1 hS1; clear hS1; go_simp; try with_reducible rfl)
      try simp only [Act.put, List.setIfInBounds_toArray, List.set_cons_zero, List.set_cons_succ]
      refine wpAnyH_take (i := 5) (oi := { dst := some 33, op := Go.Op.load 23 (Go.Operand.tmp 32), type := 23, pos := "law.go:74", after := #[{ on := 4, ground := Go.Ground.data }, { on := 2, ground := Go.Ground.guard }], guard := some (2, false) }) (v := ?_) rfl (by kernel_rfl) (by kernel_rfl) (by kernel_rfl) (fun _ _ _ h => h) (Or.inl ⟨by rfl, ?_⟩) HS0.out ?_
      case refine_2 => (intro w1 hS1; have k2 := hS1.2; clear hS1; go_simp; try with_reducible rfl)
      try simp only [Act.put, List.setIfInBounds_toArray, List.set_cons_zero, List.set_cons_succ]
      refine wpAnyH_take (i := 7) (oi := { dst := some 35, op := Go.Op.load 62 (Go.Operand.tmp 4), type := 62, pos := "law.go:74", after := #[{ on := 2, ground := Go.Ground.guard }], guard := some (2, false) }) (v := .agg (tabC X').toArray) rfl (by kernel_rfl) (by kernel_rfl) (by kernel_rfl) (fun _ _ _ h => h) (by exact yieldsIf_load_mid (by rfl) 62 (.tmp 4) rfl Av 0 rfl (tabC X') _ (fun w h => h.1.1) rt_und rfl (HYI.out X')) HS0.out ?_
      try simp only [Act.put, List.setIfInBounds_toArray, List.set_cons_zero, List.set_cons_succ]
      refine wpAnyH_take (i := 8) (oi := { dst := some 36, op := Go.Op.fieldAddr 64 (Go.Operand.tmp 6) 1, type := 0, pos := "law.go:74", after := #[{ on := 2, ground := Go.Ground.guard }], guard := some (2, false) }) (v := ?_) rfl (by kernel_rfl) (by kernel_rfl) (by kernel_rfl) (fun _ _ _ h => h) (Or.inl ⟨by rfl, ?_⟩) HS0.out ?_
      case refine_2 => (intro w1 hS1; clear hS1; go_simp; try with_reducible rfl)
      try simp only [Act.put, List.setIfInBounds_toArray, List.set_cons_zero, List.set_cons_succ]
      refine wpAnyH_take (i := 9) (oi := { dst := some 37, op := Go.Op.load 23 (Go.Operand.tmp 36), type := 23, pos := "law.go:74", after := #[{ on := 8, ground := Go.Ground.data }, { on := 2, ground := Go.Ground.guard }], guard := some (2, false) }) (v := ?_) rfl (by kernel_rfl) (by kernel_rfl) (by kernel_rfl) (fun _ _ _ h => h) (Or.inl ⟨by rfl, ?_⟩) HS0.out ?_
      case refine_2 => (intro w1 hS1; have k2 := hS1.2; clear hS1; go_simp; try with_reducible rfl)
      try simp only [Act.put, List.setIfInBounds_toArray, List.set_cons_zero, List.set_cons_succ]
      refine wpAnyH_ready (rs := [6]) (by kernel_rfl) (by simp) ?_
      refine AllReadyH.cons (o := { dst := some 34, op := Go.Op.call { callee := Go.Callee.value (Go.Operand.func 31), args := #[Go.Operand.tmp 31, Go.Operand.tmp 33], argTypes := #[57, 23] }, type := 23, pos := "law.go:74", after := #[{ on := 3, ground := Go.Ground.data }, { on := 5, ground := Go.Ground.data }, { on := 2, ground := Go.Ground.chain }, { on := 2, ground := Go.Ground.guard }], guard := some (2, false) }) rfl (fun K hK => ?_) AllReadyH.nil
      go_simp
      refine (last_q HRTD.out cl HCL.out).mono ?_
      rintro e W13 ⟨rfl, hb⟩
      have HS0' : Hid ((fun W => RT W Av X' ∧ W.cell? ⟨G6, 1, none⟩ = some (.int .u64 cl)) W13) := Lib.hid ⟨HS0.out.1.kept hb, (hb.cell (p := ⟨G6, 1, none⟩) (cell_spot HS0.out.2).2).trans HS0.out.2⟩
      have HRTD' := Lib.hid (HRTD.out.kept hb)
      have HBD' := Lib.hid (HBD.out.trans (hb.mono HBD.out.size))
      clear hb
      clear HS0 HRTD HBD
      have HS0 := HS0'
      have HRTD := HRTD'
      have HBD := HBD'
      clear HS0' HRTD' HBD'
      refine hK.out _ _ HS0.out (fun hHeld => ?_)
      clear hK K hHeld
      try simp only [Act.put, List.setIfInBounds_toArray, List.set_cons_zero, List.set_cons_succ]
      refine wpAnyH_ready (rs := [10]) (by kernel_rfl) (by simp) ?_
      refine AllReadyH.cons (o := { dst := some 38, op := Go.Op.call { callee := Go.Callee.value (Go.Operand.func 32), args := #[Go.Operand.tmp 35, Go.Operand.tmp 37], argTypes := #[62, 23] }, type := 23, pos := "law.go:74", after := #[{ on := 7, ground := Go.Ground.data }, { on := 9, ground := Go.Ground.data }, { on := 6, ground := Go.Ground.chain }, { on := 2, ground := Go.Ground.guard }], guard := some (2, false) }) rfl (fun K hK => ?_) AllReadyH.nil
      go_simp
      refine (HLQ.out _).mono ?_
      rintro e W14 ⟨rfl, hb⟩
      have HS0' : Hid ((fun W => RT W Av X' ∧ W.cell? ⟨G6, 1, none⟩ = some (.int .u64 cl)) W14) := Lib.hid ⟨HS0.out.1.kept hb, (hb.cell (p := ⟨G6, 1, none⟩) (cell_spot HS0.out.2).2).trans HS0.out.2⟩
      have HRTD' := Lib.hid (HRTD.out.kept hb)
      have HBD' := Lib.hid (HBD.out.trans (hb.mono HBD.out.size))
      clear hb
      clear HS0 HRTD HBD
      have HS0 := HS0'
      have HRTD := HRTD'
      have HBD := HBD'
      clear HS0' HRTD' HBD'
      refine hK.out _ _ HS0.out (fun hHeld => ?_)
      clear hK K hHeld
      try simp only [Act.put, List.setIfInBounds_toArray, List.set_cons_zero, List.set_cons_succ]
      refine wpAnyH_take (i := 11) (oi := { dst := some 39, op := Go.Op.binOp Go.BinOp.neq 23 (Go.Operand.tmp 34) (Go.Operand.tmp 38) 23, type := 4, pos := "law.go:74", after := #[{ on := 6, ground := Go.Ground.data }, { on := 10, ground := Go.Ground.data }, { on := 2, ground := Go.Ground.guard }], guard := some (2, false) }) (v := ?_) rfl (by kernel_rfl) (by kernel_rfl) (by kernel_rfl) (fun _ _ _ h => h) (Or.inl ⟨by rfl, ?_⟩) HS0.out ?_
      case refine_2 => (intro w1 hS1; clear hS1; go_simp; try with_reducible rfl)
      try simp only [Act.put, List.setIfInBounds_toArray, List.set_cons_zero, List.set_cons_succ]
      refine wpAnyH_take (i := 12) (oi := { dst := some 40, op := Go.Op.pick (Go.Operand.tmp 30) (Go.Operand.const (Go.Value.bool true)) (Go.Operand.tmp 39), type := 4, pos := "law.go:74", after := #[{ on := 2, ground := Go.Ground.data }, { on := 11, ground := Go.Ground.data }], guard := none }) (v := ?_) rfl (by kernel_rfl) (by kernel_rfl) (by kernel_rfl) (fun _ _ _ h => h) (Or.inl ⟨by rfl, ?_⟩) HS0.out ?_
      case refine_2 => (intro w1 hS1; clear hS1; go_simp; try with_reducible rfl)
      try simp only [Act.put, List.setIfInBounds_toArray, List.set_cons_zero, List.set_cons_succ]
      refine wpAnyH_done (by kernel_rfl) ?_ _
      go_wp2_with fail
      go_roundw
      case rel => exact ⟨k + 1, M', X', c', hlt, by rw [hw64]; rfl, HRTD, Lib.hid HS0.out.1, HBD⟩
      case measure => exact meas_lt len k _ (by rw [hw64]) hlt
    · obtain rfl : k = len := by omega
      have HCE : Hid (c = cntTo X 8) := Lib.hid HRT.out.2.1
      have HC8 : Hid (c ≤ 8) := Lib.hid (by rw [HCE.out]; exact cntTo_le X 8)
      have HPQ : Hid (∀ W, RE W X → Calls Try.prog 34 #[.agg (tabC X).toArray] W (Owned W (num 0 (cntTo X 8) ++ tabB X 8))) := Lib.hid (fun W h => rput20 X W h)
      have hk8 := HRT.out.re.ok 8 (Nat.le_refl _)
      have HY8 : Hid ((num 0 (cntTo X 8) ++ tabB X 8).length ≤ 10000 ∧ ∀ y ∈ num 0 (cntTo X 8) ++ tabB X 8, y < 256) := Lib.hid (by
        have hcc := cntTo_le X 8
        refine ⟨by have := num_len9 0 (cntTo X 8) (by omega); have := hk8.1; rw [List.length_append]; omega, fun y hy => ?_⟩
        rcases List.mem_append.1 hy with h | h
        · exact num_lt' 0 _ (by omega) (by omega) y h
        · exact hk8.2 y h)
      clear hk8
      go_wp2_with fail
      have HS0 : Hid ((fun W => RT W Av X) wr.drew) := Lib.hid HR.out
      have HRTD : Hid (Rt Av wr.drew T mb c M X) := Lib.hid (HRT.out.kept ((Below.refl wr.heap.size wr).drew))
      have HBD : Hid (Below w.heap.size w wr.drew) := Lib.hid (HB.out.trans (((Below.refl wr.heap.size wr).drew).mono HB.out.size))
      clear HR HRT HB
      refine wp_region_held_drew (S := fun W => RT W Av X) (by kernel_rfl) HS0.out (fun hHeld => ?_)
      clear hHeld
      generalize wr.drew = W5 at HS0 HRTD HBD ⊢
      refine wpAnyH_take (i := 0) (oi := { dst := some 42, op := Go.Op.move (Go.Operand.tmp 3), type := 57, pos := "law.go:78", after := #[], guard := none }) (v := ?_) rfl (by kernel_rfl) (by kernel_rfl) (by kernel_rfl) (fun _ _ _ h => h) (Or.inl ⟨by rfl, ?_⟩) HS0.out ?_
      case refine_2 => (intro w1 hS1; clear hS1; go_simp; try with_reducible rfl)
      try simp only [Act.put, List.setIfInBounds_toArray, List.set_cons_zero, List.set_cons_succ]
      refine wpAnyH_take (i := 2) (oi := { dst := some 44, op := Go.Op.load 62 (Go.Operand.tmp 4), type := 62, pos := "law.go:78", after := #[], guard := none }) (v := .agg (tabC X).toArray) rfl (by kernel_rfl) (by kernel_rfl) (by kernel_rfl) (fun _ _ _ h => h) (by exact yieldsIf_load_mid (by rfl) 62 (.tmp 4) rfl Av 0 rfl (tabC X) _ (fun w h => h.1) rt_und rfl (HYI.out X)) HS0.out ?_
      try simp only [Act.put, List.setIfInBounds_toArray, List.set_cons_zero, List.set_cons_succ]
      refine wpAnyH_ready (rs := [1]) (by kernel_rfl) (by simp) ?_
      refine AllReadyH.cons (o := { dst := some 43, op := Go.Op.call { callee := Go.Callee.value (Go.Operand.func 33), args := #[Go.Operand.tmp 42], argTypes := #[57] }, type := 9, pos := "law.go:78", after := #[{ on := 0, ground := Go.Ground.data }], guard := none }) rfl (fun K hK => ?_) AllReadyH.nil
      go_simp
      refine (bytes20 T mb c M X W5 HRTD.out.1 HC8.out HRTD.out.2.2.1).mono ?_
      rintro e W6 ⟨rfl, hb⟩
      have HS0' : Hid ((fun W => RT W Av X) W6) := Lib.hid (HS0.out.kept hb)
      have HRTD' := Lib.hid (HRTD.out.kept hb)
      have HBD' := Lib.hid (HBD.out.trans (hb.mono HBD.out.size))
      clear hb
      clear HS0 HRTD HBD
      have HS0 := HS0'
      have HRTD := HRTD'
      have HBD := HBD'
      clear HS0' HRTD' HBD'
      rw [HCE.out]
      refine hK.out _ _ HS0.out (fun hHeld => ?_)
      clear hK K hHeld
      try simp only [Act.put, List.setIfInBounds_toArray, List.set_cons_zero, List.set_cons_succ]
      refine wpAnyH_ready (rs := [3]) (by kernel_rfl) (by simp) ?_
      refine AllReadyH.cons (o := { dst := some 45, op := Go.Op.call { callee := Go.Callee.value (Go.Operand.func 34), args := #[Go.Operand.tmp 44], argTypes := #[62] }, type := 35, pos := "law.go:78", after := #[{ on := 2, ground := Go.Ground.data }, { on := 1, ground := Go.Ground.chain }], guard := none }) rfl (fun K hK => ?_) AllReadyH.nil
      go_simp
      refine (HPQ.out W6 HRTD.out.re).mono ?_
      rintro e W7 ⟨v7, rfl, ho, hb⟩
      have HR7 : Hid (RB W7 v7 (num 0 (cntTo X 8) ++ tabB X 8)) := Lib.hid (ho.rb HY8.out.2 (by have := HY8.out.1; omega))
      have HS0' : Hid ((fun W => RT W Av X) W7) := Lib.hid (HS0.out.kept hb)
      have HBD' := Lib.hid (HBD.out.trans (hb.mono HBD.out.size))
      clear ho hb HRTD
      clear HS0 HBD
      have HS0 := HS0'
      have HBD := HBD'
      clear HS0' HBD'
      refine hK.out _ _ HS0.out (fun hHeld => ?_)
      refine wpAnyH_more5 (S' := fun W => ((fun W => RT W Av X) W) ∧ RB W v7 (num 0 (cntTo X 8) ++ tabB X 8)) (fun _ h => h.1) _ _ _ _ ?_
      have HS0' : Hid ((fun W => ((fun W => RT W Av X) W) ∧ RB W v7 (num 0 (cntTo X 8) ++ tabB X 8)) W7) := Lib.hid ⟨HS0.out, HR7.out⟩
      clear HR7
      clear HS0
      have HS0 := HS0'
      clear HS0'
      clear hK K hHeld
      try simp only [Act.put, List.setIfInBounds_toArray, List.set_cons_zero, List.set_cons_succ]
      refine wpAnyH_take (i := 4) (oi := { dst := some 46, op := Go.Op.convert 35 9 (Go.Operand.tmp 45), type := 9, pos := "law.go:78", after := #[{ on := 3, ground := Go.Ground.data }], guard := none }) (v := .string (str (num 0 (cntTo X 8) ++ tabB X 8))) rfl (by kernel_rfl) (by kernel_rfl) (by kernel_rfl) (fun _ _ _ h => h) (by exact yields_str5 (fun W h => h.2) _ _ _ (by rfl) _ rfl rfl) HS0.out ?_
      try simp only [Act.put, List.setIfInBounds_toArray, List.set_cons_zero, List.set_cons_succ]
      refine wpAnyH_take (i := 5) (oi := { dst := some 47, op := Go.Op.binOp Go.BinOp.eql 9 (Go.Operand.tmp 43) (Go.Operand.tmp 46) 9, type := 4, pos := "law.go:78", after := #[{ on := 1, ground := Go.Ground.data }, { on := 4, ground := Go.Ground.data }], guard := none }) (v := ?_) rfl (by kernel_rfl) (by kernel_rfl) (by kernel_rfl) (fun _ _ _ h => h) (Or.inl ⟨by rfl, ?_⟩) HS0.out ?_
      case refine_2 => (intro w1 hS1; clear hS1; go_simp; try with_reducible rfl)
      try simp only [Act.put, List.setIfInBounds_toArray, List.set_cons_zero, List.set_cons_succ]
      refine wpAnyH_take (i := 6) (oi := { dst := some 48, op := Go.Op.move (Go.Operand.tmp 47), type := 4, pos := "law.go:78", after := #[{ on := 5, ground := Go.Ground.data }, { on := 3, ground := Go.Ground.chain }], guard := none }) (v := ?_) rfl (by kernel_rfl) (by kernel_rfl) (by kernel_rfl) (fun _ _ _ h => h) (Or.inl ⟨by rfl, ?_⟩) HS0.out ?_
      case refine_2 => (intro w1 hS1; clear hS1; go_simp; try with_reducible rfl)
      try simp only [Act.put, List.setIfInBounds_toArray, List.set_cons_zero, List.set_cons_succ]
      refine wpAnyH_ready (rs := [7]) (by kernel_rfl) (by simp) ?_
      refine AllReadyH.cons (o := { dst := some 49, op := Go.Op.call { callee := Go.Callee.value (Go.Operand.func 28), args := #[], argTypes := #[] }, type := 4, pos := "law.go:78", after := #[{ on := 6, ground := Go.Ground.chain }, { on := 6, ground := Go.Ground.guard }], guard := some (6, true) }) rfl (fun K hK => ?_) AllReadyH.nil
      go_simp
      refine (lives20 _).mono ?_
      rintro e W8 ⟨rfl, hb⟩
      have HS0' : Hid ((fun W => ((fun W => RT W Av X) W) ∧ RB W v7 (num 0 (cntTo X 8) ++ tabB X 8)) W8) := Lib.hid ⟨HS0.out.1.kept hb, HS0.out.2.kept hb⟩
      have HBD' := Lib.hid (HBD.out.trans (hb.mono HBD.out.size))
      clear hb
      clear HS0 HBD
      have HS0 := HS0'
      have HBD := HBD'
      clear HS0' HBD'
      refine hK.out _ _ HS0.out (fun hHeld => ?_)
      clear hK K hHeld
      try simp only [Act.put, List.setIfInBounds_toArray, List.set_cons_zero, List.set_cons_succ]
      refine wpAnyH_take (i := 8) (oi := { dst := some 50, op := Go.Op.pick (Go.Operand.tmp 48) (Go.Operand.tmp 49) (Go.Operand.const (Go.Value.bool false)), type := 4, pos := "law.go:78", after := #[{ on := 6, ground := Go.Ground.data }, { on := 7, ground := Go.Ground.data }], guard := none }) (v := ?_) rfl (by kernel_rfl) (by kernel_rfl) (by kernel_rfl) (fun _ _ _ h => h) (Or.inl ⟨by rfl, ?_⟩) HS0.out ?_
      case refine_2 => (intro w1 hS1; clear hS1; go_simp; try with_reducible rfl)
      try simp only [Act.put, List.setIfInBounds_toArray, List.set_cons_zero, List.set_cons_succ]
      refine wpAnyH_take (i := 9) (oi := { dst := some 2, op := Go.Op.assign (Go.Operand.tmp 50), type := 4, pos := "law.go:78", after := #[{ on := 8, ground := Go.Ground.data }, { on := 7, ground := Go.Ground.chain }, { on := 0, ground := Go.Ground.phase }, { on := 1, ground := Go.Ground.phase }, { on := 2, ground := Go.Ground.phase }, { on := 3, ground := Go.Ground.phase }, { on := 4, ground := Go.Ground.phase }, { on := 5, ground := Go.Ground.phase }, { on := 6, ground := Go.Ground.phase }, { on := 7, ground := Go.Ground.phase }, { on := 8, ground := Go.Ground.phase }], guard := none }) (v := ?_) rfl (by kernel_rfl) (by kernel_rfl) (by kernel_rfl) (fun _ _ _ h => h) (Or.inl ⟨by rfl, ?_⟩) HS0.out ?_
      case refine_2 => (intro w1 hS1; clear hS1; go_simp; try with_reducible rfl)
      try simp only [Act.put, List.setIfInBounds_toArray, List.set_cons_zero, List.set_cons_succ]
      refine wpAnyH_done (by kernel_rfl) ?_ _
      go_wp2_with fail
      go_ret
      exact ⟨rfl, HBD.out⟩
end Go.Proofs.Ytnhaakdjijjinaa

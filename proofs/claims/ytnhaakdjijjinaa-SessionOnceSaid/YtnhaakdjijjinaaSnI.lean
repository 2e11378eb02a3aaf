/- Session: how the law's calls come in, and the law for every input. -/
import Derived.Test.YtnhaakdjijjinaaSnG
namespace Go.Proofs.Ytnhaakdjijjinaa
open Go.RowKit Go.Maps
theorem sn_wfU {n : Int} (h : (Lit.int .u64 n).wf = true) : 0 ≤ n ∧ n < 18446744073709551616 := by
  simp [Lit.wf, IntKind.min, IntKind.max, IntKind.signed, IntKind.bits] at h
  omega
theorem sn_wfI {n : Int} (h : (Lit.int .i64 n).wf = true) : -9223372036854775808 ≤ n ∧ n ≤ 9223372036854775807 := by
  simp [Lit.wf, IntKind.min, IntKind.max, IntKind.signed, IntKind.bits] at h
  omega
set_option maxRecDepth 100000 in
theorem us_in3 {H : Type} {enc : TypeId × Value → H} {w : World} {base : Nat} {sp : Nat → Bool} {held : Bool} {fuel : Nat} {v : Value} {x : DataW H × List MemPlace}
    (h : DataW.trod enc Try.prog w base sp held fuel 26 [v] = some x) : ∃ a n c xs, v = .slice a n c ∧ Us w a n xs ∧ (a = none → c = 0) := by
  rcases Deep.open_slice Try.underlying26 h with ⟨hcs, _⟩ | ⟨x, l, c, m, nn, D, Pl, hcs, _, hl, hm, hmm, _, hi⟩
  · simp only [List.cons.injEq, and_true] at hcs
    exact ⟨_, _, _, [], hcs, Us.none w, fun _ => rfl⟩
  · simp only [List.cons.injEq, and_true] at hcs
    have hlm : l ≤ m := by rw [hmm]; split <;> omega
    have cellsB : Try.prog.cellsOf 23 = 1 := by kernel_rfl
    have key : ∀ i, i < l → ∃ t : Nat, w.cell? (x.add i) = some (.int .u64 (t : Int)) ∧ t < 18446744073709551616 := by
      intro i hil
      obtain ⟨cs', hc, ht⟩ := hi i (by omega)
      obtain ⟨f, e0, _, w0⟩ := DataW.trod_int Try.underlying23 ht
      subst e0
      rw [cellsB] at hc
      obtain ⟨_, hcl, hat⟩ := World.cells?_some hc
      have hb := sn_wfU w0
      refine ⟨f.toNat, ?_, by omega⟩
      have h1 := hat 0 (by omega)
      rw [Deep.add_add] at h1
      have e : ((f.toNat : Nat) : Int) = f := by omega
      rw [e]
      simpa using h1
    obtain ⟨f, hf⟩ := Deep.choose_lt key
    refine ⟨_, _, _, (List.range l).map f, hcs, ⟨by simp, by unfold maxLen at *; omega, fun c hc => ?_, fun i hi' => ?_⟩, fun h => by cases h⟩
    · obtain ⟨i, hi', rfl⟩ := List.mem_map.1 hc
      exact (hf i (by simpa using hi')).2
    · have h0 := (hf i hi').1
      have hs := cell_spot h0
      have hb : (x.add i).block = x.block := by unfold Addr.add; split <;> rfl
      have hx : x = ⟨x.block, x.off, none⟩ := by
        have h00 : w.cell? x = some (.int .u64 ((f 0 : Nat) : Int)) := (hf 0 (by omega)).1
        exact (cell_spot h00).1
      refine ⟨x.block, x.off, by rw [← hx], by rw [← hb]; exact hs.2, ?_⟩
      rw [← add_at, ← hx, h0]
      simp [hi']
theorem ry_cells7 : Try.prog.cellsOf 2 = 1 ∧ Try.prog.cellsOf 23 = 1 ∧ Try.prog.cellsOf 3 = 1 ∧ Try.prog.cellsOf 22 = 1 ∧ Try.prog.cellsOf 26 = 1 ∧ Try.prog.cellsOf 25 = 9 := ⟨by kernel_rfl, by kernel_rfl, by kernel_rfl, by kernel_rfl, by kernel_rfl, by kernel_rfl⟩
set_option maxRecDepth 100000 in
set_option maxHeartbeats 4000000 in
theorem reply_cells {H : Type} {enc : TypeId × Value → H} {w : World} {base : Nat} {sp : Nat → Bool} {held : Bool} {fuel : Nat} {cs : List Value} {x : DataW H × List MemPlace}
    (h : DataW.trod enc Try.prog w base sp held fuel 28 cs = some x) :
    ∃ cd tm id cn st lv ge fr lf du tl a n ca nt de us, cs = [.int .i64 cd, .int .i64 tm, .int .u64 id, .int .i64 cn, .int .i64 st, .int .i64 lv, .int .u64 ge, .int .i64 fr, .int .i64 lf, .int .i64 du, .int .i64 tl, .slice a n ca, .int .u64 nt, .int .i64 de] ∧ Us w a n us ∧ fr ≤ 9223372036854775807 := by
  obtain ⟨xs, n, _, _, hlen, hxl, hg⟩ := DataW.trod_struct Try.underlying28 h
  have c28 : Try.prog.cellsOf 28 = 14 := by kernel_rfl
  rw [c28] at hlen
  match cs, hlen with
  | [c0, c1, c2, c3, c4, c5, c6, c7, c8, c9, c10, c11, c12, c13], _ =>
  obtain ⟨z1, z2, z3, z4, z5, z6⟩ := ry_cells7
  have g0 := hg 0 _ rfl
  have g1 := hg 1 _ rfl
  have g2 := hg 2 _ rfl
  have g3 := hg 3 _ rfl
  have g4 := hg 4 _ rfl
  have g5 := hg 5 _ rfl
  simp [z1, z2, z3, z4, z5, z6] at g0 g1 g2 g3 g4 g5
  have hx2 : xs.length = 6 := hxl
  rw [List.getElem?_eq_getElem (by omega)] at g0 g1 g2 g3 g4 g5
  obtain ⟨cd, e0, _, w0⟩ := DataW.trod_int Try.underlying22 g0
  obtain ⟨tm, e1, _, w1⟩ := DataW.trod_int Try.underlying2 g1
  obtain ⟨nt, e4, _, w4⟩ := DataW.trod_int Try.underlying23 g4
  obtain ⟨de, e5, _, w5⟩ := DataW.trod_int Try.underlying3 g5
  simp only [List.cons.injEq, and_true] at e0 e1 e4 e5
  subst e0 e1 e4 e5
  obtain ⟨ys, n6, _, _, hl6, hy6, hg6⟩ := DataW.trod_struct Try.underlying25 g2
  have k0 := hg6 0 _ rfl
  have k1 := hg6 1 _ rfl
  have k2 := hg6 2 _ rfl
  have k3 := hg6 3 _ rfl
  have k4 := hg6 4 _ rfl
  have k5 := hg6 5 _ rfl
  have k6 := hg6 6 _ rfl
  have k7 := hg6 7 _ rfl
  have k8 := hg6 8 _ rfl
  simp [z1, z2, z3] at k0 k1 k2 k3 k4 k5 k6 k7 k8
  have hy2 : ys.length = 9 := hy6
  rw [List.getElem?_eq_getElem (by omega)] at k0 k1 k2 k3 k4 k5 k6 k7 k8
  obtain ⟨id, f0, _, u0⟩ := DataW.trod_int Try.underlying23 k0
  obtain ⟨cn, f1, _, _⟩ := DataW.trod_int Try.underlying3 k1
  obtain ⟨st, f2, _, _⟩ := DataW.trod_int Try.underlying3 k2
  obtain ⟨lv, f3, _, _⟩ := DataW.trod_int Try.underlying3 k3
  obtain ⟨ge, f4, _, u4⟩ := DataW.trod_int Try.underlying23 k4
  obtain ⟨fr, f5, _, u5⟩ := DataW.trod_int Try.underlying2 k5
  obtain ⟨lf, f6, _, _⟩ := DataW.trod_int Try.underlying2 k6
  obtain ⟨du, f7, _, _⟩ := DataW.trod_int Try.underlying2 k7
  obtain ⟨tl, f8, _, _⟩ := DataW.trod_int Try.underlying3 k8
  simp only [List.cons.injEq, and_true] at f0 f1 f2 f3 f4 f5 f6 f7 f8
  subst f0 f1 f2 f3 f4 f5 f6 f7 f8
  obtain ⟨a, m, ca, us, rfl, hU, hZ⟩ := us_in3 g3
  exact ⟨cd, tm, id, cn, st, lv, ge, fr, lf, du, tl, a, m, ca, nt, de, us, rfl, hU, (sn_wfI u5).2⟩
set_option maxRecDepth 100000 in
set_option maxHeartbeats 4000000 in
theorem opn_cells {H : Type} {enc : TypeId × Value → H} {w : World} {base : Nat} {sp : Nat → Bool} {held : Bool} {fuel : Nat} {cs : List Value} {x : DataW H × List MemPlace}
    (h : DataW.trod enc Try.prog w base sp held fuel 64 cs = some x) :
    ∃ (kd cl rq : Int) (cd tm id cn st lv ge fr lf du tl : Int) (a : Option Addr) (n ca : Nat) (nt de : Int) (xs : List Nat), cs = [.int .i64 kd, .int .u64 cl, .int .u64 rq, .int .i64 cd, .int .i64 tm, .int .u64 id, .int .i64 cn, .int .i64 st, .int .i64 lv, .int .u64 ge, .int .i64 fr, .int .i64 lf, .int .i64 du, .int .i64 tl, .slice a n ca, .int .u64 nt, .int .i64 de] ∧ OpIn w (Opn.mk kd cl rq cd tm id cn st lv ge fr lf du tl a n ca nt de xs) := by
  obtain ⟨xs, n, _, _, hlen, hxl, hg⟩ := DataW.trod_struct Try.underlying64 h
  have c64 : Try.prog.cellsOf 64 = 17 := by kernel_rfl
  have c28 : Try.prog.cellsOf 28 = 14 := by kernel_rfl
  have c23 : Try.prog.cellsOf 23 = 1 := by kernel_rfl
  have h3 : Try.prog.cellsOf 3 = 1 := by kernel_rfl
  rw [c64] at hlen
  match cs, hlen with
  | [c0, c1, c2, c3, c4, c5, c6, c7, c8, c9, c10, c11, c12, c13, c14, c15, c16], _ =>
    have g0 := hg 0 _ rfl
    have g1 := hg 1 _ rfl
    have g2 := hg 2 _ rfl
    have g3 := hg 3 _ rfl
    simp [c28, c23, h3] at g0 g1 g2 g3
    have hx4 : xs.length = 4 := hxl
    rw [List.getElem?_eq_getElem (by omega)] at g0 g1 g2 g3
    obtain ⟨kd, e0, _, _⟩ := DataW.trod_int Try.underlying3 g0
    obtain ⟨cl, e1, _, w1⟩ := DataW.trod_int Try.underlying23 g1
    obtain ⟨rq, e2, _, w2⟩ := DataW.trod_int Try.underlying23 g2
    obtain ⟨cd, tm, id, cn, st, lv, ge, fr, lf, du, tl, a, m, ca, nt, de, us, e3, hU, hfr⟩ := reply_cells g3
    simp only [List.cons.injEq, and_true] at e0 e1 e2 e3
    subst e0 e1 e2
    obtain ⟨rfl, rfl, rfl, rfl, rfl, rfl, rfl, rfl, rfl, rfl, rfl, rfl, rfl, rfl⟩ := e3
    exact ⟨kd, cl, rq, cd, tm, id, cn, st, lv, ge, fr, lf, du, tl, a, m, ca, nt, de, us, rfl, hU, sn_wfU w1, sn_wfU w2, hfr⟩
instance : Inhabited Opn := ⟨⟨0, 0, 0, 0, 0, 0, 0, 0, 0, 0, 0, 0, 0, 0, none, 0, 0, 0, 0, []⟩⟩
set_option maxRecDepth 100000 in
theorem opns_in {H : Type} {enc : TypeId × Value → H} {w : World} {base : Nat} {sp : Nat → Bool} {held : Bool} {fuel : Nat} {a : Option Addr} {n cap : Nat} {x : DataW H × List MemPlace}
    (h : DataW.trod enc Try.prog w base sp held fuel 55 (Value.slice a n cap).cells.toList = some x) : ∃ O, Ops w a n O := by
  have c64 : Try.prog.cellsOf 64 = 17 := by kernel_rfl
  rcases Deep.open_slice Try.underlying55 h with ⟨hcs, _⟩ | ⟨x, l, c, m, nn, D, Pl, hcs, _, hl, hm, hmm, _, hi⟩
  · simp [Value.cells] at hcs
    obtain ⟨rfl, rfl, rfl⟩ := hcs
    exact ⟨fun _ => default, by simp, fun h => by omega, fun k hk => by omega⟩
  · simp [Value.cells] at hcs
    obtain ⟨rfl, rfl, rfl⟩ := hcs
    have hlm : n ≤ m := by rw [hmm]; split <;> omega
    have hex : 0 < n → x = ⟨x.block, x.off, none⟩ ∧ x.block < w.heap.size := by
      intro h0
      obtain ⟨cs', hc, ht⟩ := hi 0 (by omega)
      obtain ⟨kd, cl, rq, cd, tm, id, cn, st, lv, ge, fr, lf, du, tl, a, n', ca, nt, de, xs, rfl, _⟩ := opn_cells ht
      rw [c64] at hc
      obtain ⟨_, hcl, hat⟩ := World.cells?_some hc
      have e00 := cell_spot ((hat 0 (by omega)).trans (List.getElem?_cons_zero))
      have e0 := e00.1
      have e1 := e00.2
      rw [Deep.add_add] at e0 e1
      refine ⟨?_, by simpa [Addr.add] using e1⟩
      cases x; simp [Addr.add] at e0; simp [e0]
    have key : ∀ i, i < n → ∃ y : Opn, OpIn w y ∧ OpCells w x.block (x.off + i * 17) y := by
      intro i hil
      obtain ⟨cs', hc, ht⟩ := hi i (by omega)
      obtain ⟨kd, cl, rq, cd, tm, id, cn, st, lv, ge, fr, lf, du, tl, a, n', ca, nt, de, xs, rfl, hin⟩ := opn_cells ht
      rw [c64] at hc
      obtain ⟨_, hcl, hat⟩ := World.cells?_some hc
      have ex := (hex (by omega)).1
      refine ⟨_, hin, ?_⟩
      have hj : ∀ j (hj : j < 17), w.cell? ⟨x.block, x.off + i * 17 + j, none⟩ = ([.int .i64 kd, .int .u64 cl, .int .u64 rq, .int .i64 cd, .int .i64 tm, .int .u64 id, .int .i64 cn, .int .i64 st, .int .i64 lv, .int .u64 ge, .int .i64 fr, .int .i64 lf, .int .i64 du, .int .i64 tl, .slice a n' ca, .int .u64 nt, .int .i64 de] : List Value)[j]? := by
        intro j hj
        have h1 := hat j hj
        rw [Deep.add_add, ex, add_at, ← Nat.add_assoc] at h1
        exact h1
      exact ⟨hj 0 (by omega), hj 1 (by omega), hj 2 (by omega), hj 3 (by omega), hj 4 (by omega), hj 5 (by omega), hj 6 (by omega), hj 7 (by omega), hj 8 (by omega), hj 9 (by omega), hj 10 (by omega), hj 11 (by omega), hj 12 (by omega), hj 13 (by omega), hj 14 (by omega), hj 15 (by omega), hj 16 (by omega)⟩
    obtain ⟨f, hf⟩ := Deep.choose_lt key
    exact ⟨f, by unfold maxLen at *; omega, fun h0 => ⟨x.block, x.off, by rw [← (hex h0).1], (hex h0).2, fun k hk => (hf k hk).2⟩, fun k hk => (hf k hk).1⟩
end Go.Proofs.Ytnhaakdjijjinaa

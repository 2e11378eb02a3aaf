/- TicketSound. -/
import Derived.Test.YthnnbmofpmedhaaTkH
import Derived.Deep.Cut
import Derived.Deep.CutRange
import Derived.Deep.CutBlock
import Derived.Deep.LoopGhost
import Derived.Deep.QuietTactic
import Derived.BigQuiet
namespace Go.Proofs.Ythnnbmofpmedhaa
open Go.RowKit
/-- A row of acts that can be read. -/
def Acts (w : World) (a : Option Addr) (n : Nat) (F T : Nat → Int) : Prop := n ≤ maxLen ∧
  (0 < n → ∃ ab ao, a = some ⟨ab, ao, none⟩ ∧ ab < w.heap.size ∧ ∀ k, k < n → w.cell? ⟨ab, ao + k * 2, none⟩ = some (.int .i64 (F k)) ∧ w.cell? ⟨ab, ao + k * 2 + 1, none⟩ = some (.int .u32 (T k)) ∧ 0 ≤ T k ∧ T k ≤ 4294967295)
theorem Acts.at {w wr : World} {a : Option Addr} {n : Nat} {F T : Nat → Int} (h : Acts w a n F T) (hb : Below w.heap.size w wr) (k : Nat) (hk : k < n) :
    ∃ ab ao, a = some ⟨ab, ao, none⟩ ∧ ab < wr.heap.size ∧ wr.cell? ⟨ab, ao + k * 2, none⟩ = some (.int .i64 (F k)) ∧ wr.cell? ⟨ab, ao + k * 2 + 1, none⟩ = some (.int .u32 (T k)) ∧ 0 ≤ T k ∧ T k ≤ 4294967295 := by
  obtain ⟨ab, ao, e, hl, hc⟩ := h.2 (by omega)
  obtain ⟨h1, h2, h3⟩ := hc k hk
  exact ⟨ab, ao, e, Nat.lt_of_lt_of_le hl hb.size, (hb.cell (p := ⟨ab, _, none⟩) hl).trans h1, (hb.cell (p := ⟨ab, _, none⟩) hl).trans h2, h3⟩
/-- What holds between two rounds. -/
structure LI (L : Loc) (D : Cal) (w wr : World) (M n : Nat) (C : Array Value) (i : Nat) (nw nx td st lv ge fr lf du : Int) : Prop where
  ts : TS D n nw nx st lv fr lf du
  t0 : 0 ≤ td ∧ td ≤ i
  n0 : 0 ≤ nw ∧ nw ≤ 1125899906842624 + i * 4294967295
  ck : Ck L D wr
  bel : Below w.heap.size w wr
  con : wr.heap[w.heap.size + 1]? = some (.cells C 27 (0, 0))
  tk : wr.heap[M]? = some (.cells #[.int .u64 1, .int .i64 2, .int .i64 st, .int .i64 lv, .int .u64 ge, .int .i64 fr, .int .i64 lf, .int .i64 du, .int .i64 td] 68 (0, 0))
theorem LI.below {L : Loc} {D : Cal} {w wr w' : World} {M n : Nat} {C : Array Value} {i : Nat} {nw nx td st lv ge fr lf du : Int} (h : LI L D w wr M n C i nw nx td st lv ge fr lf du) (hb : Below wr.heap.size wr w') : LI L D w w' M n C i nw nx td st lv ge fr lf du :=
  ⟨h.ts, h.t0, h.n0, h.ck.kept hb, h.bel.trans (hb.mono h.bel.size), ex_below h.con hb, ex_below h.tk hb⟩
theorem LI.only {L : Loc} {D : Cal} {w wr w' : World} {M n : Nat} {C : Array Value} {i : Nat} {nw nx td st lv ge fr lf du : Int} (h : LI L D w wr M n C i nw nx td st lv ge fr lf du) (hL : w.heap.size ≤ L.C) (h1 : w.heap.size + 1 ≠ L.C) (h2 : M ≠ L.C) (hC : Ck L D w') (ho : Only (· = L.C) wr w') : LI L D w w' M n C i nw nx td st lv ge fr lf du :=
  ⟨h.ts, h.t0, h.n0, hC, h.bel.trans (ho.toBelow h.bel.size (fun k hk => hk ▸ hL)), ex_only h.con ho h1, ex_only h.tk ho h2⟩
/-- A store of a whole ticket into another box. -/
theorem LI.put {L : Loc} {D : Cal} {w wr : World} {M n : Nat} {C : Array Value} {i : Nat} {nw nx td st lv ge fr lf du : Int} (h : LI L D w wr M n C i nw nx td st lv ge fr lf du) {w0 : World} (h0 : Ck L D w0) (hM : w.heap.size + 1 < M) {N : Nat} (h0N : w0.heap.size ≤ N) (hN : w.heap.size + 1 < N) (hNM : N ≠ M) {x0 x1 x2 x3 x4 x5 x6 x7 x8 : Value} (hz : wr.heap[N]? = some (.cells #[x0, x1, x2, x3, x4, x5, x6, x7, x8] 68 (0, 0))) (y0 y1 y2 y3 y4 y5 y6 y7 y8 : Value) : LI L D w (put9 wr N y0 y1 y2 y3 y4 y5 y6 y7 y8) M n C i nw nx td st lv ge fr lf du := by
  obtain ⟨_, u2, u3⟩ := put9_at hz y0 y1 y2 y3 y4 y5 y6 y7 y8
  exact ⟨h.ts, h.t0, h.n0, Ck.put9 h0 h0N h.ck hz (by decide) _ _ _ _ _ _ _ _ _, below_put9 h.bel (by omega) _ _ _ _ _ _ _ _ _, (u2 _ (by omega)).trans h.con, (u2 _ (by omega)).trans h.tk⟩
/-- A store of a new ticket into the ticket's box. -/
theorem LI.set {L : Loc} {D : Cal} {w wr : World} {M n : Nat} {C : Array Value} {i : Nat} {nw nx td st lv ge fr lf du nx' td' st' lv' fr' lf' du' : Int} (h : LI L D w wr M n C i nw nx td st lv ge fr lf du) {w0 : World} (h0 : Ck L D w0) (h0M : w0.heap.size ≤ M) (hM : w.heap.size + 1 < M) (hT : TS D n nw nx' st' lv' fr' lf' du') (ht : 0 ≤ td' ∧ td' ≤ i) : LI L D w (put9 wr M (.int .u64 1) (.int .i64 2) (.int .i64 st') (.int .i64 lv') (.int .u64 0) (.int .i64 fr') (.int .i64 lf') (.int .i64 du') (.int .i64 td')) M n C i nw nx' td' st' lv' 0 fr' lf' du' := by
  obtain ⟨u1, u2, u3⟩ := put9_at h.tk (.int .u64 1) (.int .i64 2) (.int .i64 st') (.int .i64 lv') (.int .u64 0) (.int .i64 fr') (.int .i64 lf') (.int .i64 du') (.int .i64 td')
  exact ⟨hT, ht, h.n0, Ck.put9 h0 h0M h.ck h.tk (by decide) _ _ _ _ _ _ _ _ _, below_put9 h.bel (by omega) _ _ _ _ _ _ _ _ _, (u2 _ (by omega)).trans h.con, u1⟩
theorem LI.later {L : Loc} {D : Cal} {w wr : World} {M n : Nat} {C : Array Value} {i : Nat} {nw nx td st lv ge fr lf du : Int} (h : LI L D w wr M n C i nw nx td st lv ge fr lf du) {wt : Int} (h0 : 0 ≤ wt) (h1 : wt ≤ 4294967295) : LI L D w wr M n C (i + 1) (nw + wt) nx td st lv ge fr lf du :=
  ⟨h.ts.later (by omega), by have := h.t0; omega, by have := h.n0; omega, h.ck, h.bel, h.con, h.tk⟩
theorem LI.gen {L : Loc} {D : Cal} {w wr : World} {M n : Nat} {C : Array Value} {i : Nat} {nw nx td st lv ge fr lf du : Int} (h : LI L D w wr M n C i nw nx td st lv ge fr lf du) {w0 : World} (h0 : Ck L D w0) (h0M : w0.heap.size ≤ M) (hM : w.heap.size + 1 < M) (ge' : Int) : LI L D w (wr.setCell ⟨M, 4, none⟩ (.int .u64 ge')) M n C i nw nx td st lv ge' fr lf du := by
  have hh := heap_put h.tk 4 (.int .u64 ge')
  simp only [List.setIfInBounds_toArray, List.set_cons_zero, List.set_cons_succ] at hh
  exact ⟨h.ts, h.t0, h.n0, Ck.other h0 h0M h.ck (h.ck.apT h.tk (by decide)) (fun k _ hk => Below.heap_setCell _ _ _ _ (by exact hk)) (by simp), h.bel.setCell (p := ⟨M, 4, none⟩) (by show w.heap.size ≤ M; omega) _, (Below.heap_setCell _ _ _ _ (by show _ ≠ M; omega)).trans h.con, hh⟩
theorem tket_struct : Try.prog.underlying 68 = some (.struct (Try.prog.fieldsOf 68)) := by kernel_rfl
theorem tket_held : Try.prog.stoodInHeld 68 = false := by kernel_rfl
theorem tket_guard : Try.prog.eqGuardType Try.prog.depth 68 = false := by kernel_rfl
theorem guard_tket (op : BinOp) (x y : Operand) (xs ys : Array Value) (w : World) : (eqGuard op 68 x y (.agg xs) (.agg ys)).run Try.prog w = .ok () w := run_eqGuard_agg w op _ x y xs ys tket_guard
theorem eql_tket (id cn st lv ge fr lf du tl : Int) (w : World) : (binOp .eql 68 (.agg #[.int .u64 id, .int .i64 cn, .int .i64 st, .int .i64 lv, .int .u64 ge, .int .i64 fr, .int .i64 lf, .int .i64 du, .int .i64 tl]) (.agg #[.int .u64 id, .int .i64 cn, .int .i64 st, .int .i64 lv, .int .u64 ge, .int .i64 fr, .int .i64 lf, .int .i64 du, .int .i64 tl])).run Try.prog w = .ok (.bool true) w := by
  rw [run_eql_struct, run_equalIn_agg w 9999 _ _ _ tket_struct tket_held]
  have h : Try.prog.underlying 2 = some (.int .i64) := Try.underlying2
  have h' : Try.prog.underlying 3 = some (.int .i64) := Try.underlying3
  have h2 : Try.prog.underlying 66 = some (.int .u64) := Try.underlying66
  simp [Op.eqFields, go_sem, h, h', h2, Try.underlying68]
set_option maxRecDepth 100000 in
set_option maxHeartbeats 16000000 in
theorem ts_skip0 (off : Int) (a0 : Option Addr) (n0 ca0 : Nat) (b0 : Option Addr) (m0 cb0 : Nat) (F T G U : Nat → Int) (c : Int) (a : Option Addr) (n ca : Nat) (r b : Int) (B P : Nat → Int) (now : Int) (la : Option Addr) (ll lc : Nat) (KD WT : Nat → Int) (w : World) (hS0 : Sps w a0 n0 F T) (hR0 : Sps w b0 m0 G U) (hS : Sps w a n B P) (z0 : Int) (ez : checkE off F T n0 G U m0 = z0)  (x0 : decide (n0 ≤ 60 ∧ m0 ≤ 60) = false) :
    Calls Try.prog 8 #[calV off a0 n0 ca0 b0 m0 cb0, conV c a n ca r b, .int .i64 now, .slice la ll lc] w fun e w' => e = .returned (.bool true) ∧ Below w.heap.size w w' := by
  obtain ⟨B2, s0, s1, sz⟩ := box2 w #[.int .i64 off, .slice a0 n0 ca0, .slice b0 m0 cb0] #[.int .i64 c, .slice a n ca, .int .i64 r, .int .i64 b] 24 27
  have HE0_0 := Lib.hid s0
  have HE1_0 := Lib.hid s1
  have HB0 := Lib.hid B2
  have HZ0 := Lib.hid sz
  have hli := light10 off a0 n0 ca0 b0 m0 cb0 ((w.alloc (.cells #[.int .i64 off, .slice a0 n0 ca0, .slice b0 m0 cb0] 24)).alloc (.cells #[.int .i64 c, .slice a n ca, .int .i64 r, .int .i64 b] 27)) hS0.1 hR0.1
  have HCK := Lib.hid (fun W (hb : Below w.heap.size w W) => rcheck10 off a0 n0 ca0 F T b0 m0 cb0 G U W (hS0.kept hb) (hR0.kept hb))
  have HGD := Lib.hid (fun W (hb : Below w.heap.size w W) => rgood_any c a n ca r b B P W (hS.kept hb))
  rw [x0] at hli
  rw [ez] at HCK
  clear x0
  have e0_0 := cells_heap HE0_0.out 0
  have e0_1 := cells_heap HE0_0.out 1
  have e0_2 := cells_heap HE0_0.out 2
  obtain ⟨e1_0, e1_1, e1_2, e1_3, -⟩ := four_at HE1_0.out
  clear B2 sz s0 s1
  clear hS0 hR0 hS ez
  unfold conV at *
  unfold calV at *
  go_enter Try.func8, Try.ntmps8
  go_wp2_with fail
  generalize ((w.alloc (.cells #[.int .i64 off, .slice a0 n0 ca0, .slice b0 m0 cb0] 24)).alloc (.cells #[.int .i64 c, .slice a n ca, .int .i64 r, .int .i64 b] 27)) = W0 at HB0 HZ0 HE0_0 HE1_0 e0_0 e0_1 e0_2 e1_0 e1_1 e1_2 e1_3 hli ⊢
  refine (hli).mono ?_
  rintro e W1 ⟨rfl, hb⟩
  have HB1 := Lib.hid (HB0.out.trans (hb.mono HB0.out.size))
  have HE0_1 := Lib.hid (ex_below HE0_0.out hb)
  have HE1_1 := Lib.hid (ex_below HE1_0.out hb)
  clear e0_0 e0_1 e0_2 e1_0 e1_1 e1_2 e1_3 hb
  have e0_0 := cells_heap HE0_1.out 0
  have e0_1 := cells_heap HE0_1.out 1
  have e0_2 := cells_heap HE0_1.out 2
  obtain ⟨e1_0, e1_1, e1_2, e1_3, -⟩ := four_at HE1_1.out
  go_wp2_with fail
  refine (lives16 W1).mono ?_
  rintro e wl ⟨rfl, hb⟩
  have HBL := Lib.hid (HB1.out.trans (hb.mono HB1.out.size))
  clear e0_0 e0_1 e0_2 e1_0 e1_1 e1_2 e1_3 hb
  go_wp2_with fail
  go_ret
  exact ⟨rfl, HBL.out⟩
set_option maxRecDepth 100000 in
set_option maxHeartbeats 16000000 in
theorem ts_skip1 (off : Int) (a0 : Option Addr) (n0 ca0 : Nat) (b0 : Option Addr) (m0 cb0 : Nat) (F T G U : Nat → Int) (c : Int) (a : Option Addr) (n ca : Nat) (r b : Int) (B P : Nat → Int) (now : Int) (la : Option Addr) (ll lc : Nat) (KD WT : Nat → Int) (w : World) (hS0 : Sps w a0 n0 F T) (hR0 : Sps w b0 m0 G U) (hS : Sps w a n B P) (z0 : Int) (ez : checkE off F T n0 G U m0 = z0) (x0 : decide (n0 ≤ 60 ∧ m0 ≤ 60) = true) (x1 : decide (60 < (n : Int)) = true) :
    Calls Try.prog 8 #[calV off a0 n0 ca0 b0 m0 cb0, conV c a n ca r b, .int .i64 now, .slice la ll lc] w fun e w' => e = .returned (.bool true) ∧ Below w.heap.size w w' := by
  obtain ⟨B2, s0, s1, sz⟩ := box2 w #[.int .i64 off, .slice a0 n0 ca0, .slice b0 m0 cb0] #[.int .i64 c, .slice a n ca, .int .i64 r, .int .i64 b] 24 27
  have HE0_0 := Lib.hid s0
  have HE1_0 := Lib.hid s1
  have HB0 := Lib.hid B2
  have HZ0 := Lib.hid sz
  have hli := light10 off a0 n0 ca0 b0 m0 cb0 ((w.alloc (.cells #[.int .i64 off, .slice a0 n0 ca0, .slice b0 m0 cb0] 24)).alloc (.cells #[.int .i64 c, .slice a n ca, .int .i64 r, .int .i64 b] 27)) hS0.1 hR0.1
  have HCK := Lib.hid (fun W (hb : Below w.heap.size w W) => rcheck10 off a0 n0 ca0 F T b0 m0 cb0 G U W (hS0.kept hb) (hR0.kept hb))
  have HGD := Lib.hid (fun W (hb : Below w.heap.size w W) => rgood_any c a n ca r b B P W (hS.kept hb))
  rw [x0] at hli
  rw [ez] at HCK
  clear x0
  have e0_0 := cells_heap HE0_0.out 0
  have e0_1 := cells_heap HE0_0.out 1
  have e0_2 := cells_heap HE0_0.out 2
  obtain ⟨e1_0, e1_1, e1_2, e1_3, -⟩ := four_at HE1_0.out
  clear B2 sz s0 s1
  clear hS0 hR0 hS ez
  unfold conV at *
  unfold calV at *
  go_enter Try.func8, Try.ntmps8
  go_wp2_with fail
  generalize ((w.alloc (.cells #[.int .i64 off, .slice a0 n0 ca0, .slice b0 m0 cb0] 24)).alloc (.cells #[.int .i64 c, .slice a n ca, .int .i64 r, .int .i64 b] 27)) = W0 at HB0 HZ0 HE0_0 HE1_0 e0_0 e0_1 e0_2 e1_0 e1_1 e1_2 e1_3 hli ⊢
  refine (hli).mono ?_
  rintro e W1 ⟨rfl, hb⟩
  have HB1 := Lib.hid (HB0.out.trans (hb.mono HB0.out.size))
  have HE0_1 := Lib.hid (ex_below HE0_0.out hb)
  have HE1_1 := Lib.hid (ex_below HE1_0.out hb)
  clear e0_0 e0_1 e0_2 e1_0 e1_1 e1_2 e1_3 hb
  have e0_0 := cells_heap HE0_1.out 0
  have e0_1 := cells_heap HE0_1.out 1
  have e0_2 := cells_heap HE0_1.out 2
  obtain ⟨e1_0, e1_1, e1_2, e1_3, -⟩ := four_at HE1_1.out
  go_wp2_with fail
  refine (lives16 W1).mono ?_
  rintro e wl ⟨rfl, hb⟩
  have HBL := Lib.hid (HB1.out.trans (hb.mono HB1.out.size))
  clear e0_0 e0_1 e0_2 e1_0 e1_1 e1_2 e1_3 hb
  go_wp2_with fail
  go_ret
  exact ⟨rfl, HBL.out⟩
set_option maxRecDepth 100000 in
set_option maxHeartbeats 16000000 in
theorem ts_skip2 (off : Int) (a0 : Option Addr) (n0 ca0 : Nat) (b0 : Option Addr) (m0 cb0 : Nat) (F T G U : Nat → Int) (c : Int) (a : Option Addr) (n ca : Nat) (r b : Int) (B P : Nat → Int) (now : Int) (la : Option Addr) (ll lc : Nat) (KD WT : Nat → Int) (w : World) (hS0 : Sps w a0 n0 F T) (hR0 : Sps w b0 m0 G U) (hS : Sps w a n B P) (z0 : Int) (ez : checkE off F T n0 G U m0 = z0) (x0 : decide (n0 ≤ 60 ∧ m0 ≤ 60) = true) (x1 : decide (60 < (n : Int)) = false) (x2 : decide (60 < (ll : Int)) = true) :
    Calls Try.prog 8 #[calV off a0 n0 ca0 b0 m0 cb0, conV c a n ca r b, .int .i64 now, .slice la ll lc] w fun e w' => e = .returned (.bool true) ∧ Below w.heap.size w w' := by
  obtain ⟨B2, s0, s1, sz⟩ := box2 w #[.int .i64 off, .slice a0 n0 ca0, .slice b0 m0 cb0] #[.int .i64 c, .slice a n ca, .int .i64 r, .int .i64 b] 24 27
  have HE0_0 := Lib.hid s0
  have HE1_0 := Lib.hid s1
  have HB0 := Lib.hid B2
  have HZ0 := Lib.hid sz
  have hli := light10 off a0 n0 ca0 b0 m0 cb0 ((w.alloc (.cells #[.int .i64 off, .slice a0 n0 ca0, .slice b0 m0 cb0] 24)).alloc (.cells #[.int .i64 c, .slice a n ca, .int .i64 r, .int .i64 b] 27)) hS0.1 hR0.1
  have HCK := Lib.hid (fun W (hb : Below w.heap.size w W) => rcheck10 off a0 n0 ca0 F T b0 m0 cb0 G U W (hS0.kept hb) (hR0.kept hb))
  have HGD := Lib.hid (fun W (hb : Below w.heap.size w W) => rgood_any c a n ca r b B P W (hS.kept hb))
  rw [x0] at hli
  rw [ez] at HCK
  clear x0
  have e0_0 := cells_heap HE0_0.out 0
  have e0_1 := cells_heap HE0_0.out 1
  have e0_2 := cells_heap HE0_0.out 2
  obtain ⟨e1_0, e1_1, e1_2, e1_3, -⟩ := four_at HE1_0.out
  clear B2 sz s0 s1
  clear hS0 hR0 hS ez
  unfold conV at *
  unfold calV at *
  go_enter Try.func8, Try.ntmps8
  go_wp2_with fail
  generalize ((w.alloc (.cells #[.int .i64 off, .slice a0 n0 ca0, .slice b0 m0 cb0] 24)).alloc (.cells #[.int .i64 c, .slice a n ca, .int .i64 r, .int .i64 b] 27)) = W0 at HB0 HZ0 HE0_0 HE1_0 e0_0 e0_1 e0_2 e1_0 e1_1 e1_2 e1_3 hli ⊢
  refine (hli).mono ?_
  rintro e W1 ⟨rfl, hb⟩
  have HB1 := Lib.hid (HB0.out.trans (hb.mono HB0.out.size))
  have HE0_1 := Lib.hid (ex_below HE0_0.out hb)
  have HE1_1 := Lib.hid (ex_below HE1_0.out hb)
  clear e0_0 e0_1 e0_2 e1_0 e1_1 e1_2 e1_3 hb
  have e0_0 := cells_heap HE0_1.out 0
  have e0_1 := cells_heap HE0_1.out 1
  have e0_2 := cells_heap HE0_1.out 2
  obtain ⟨e1_0, e1_1, e1_2, e1_3, -⟩ := four_at HE1_1.out
  go_wp2_with fail
  refine (lives16 W1).mono ?_
  rintro e wl ⟨rfl, hb⟩
  have HBL := Lib.hid (HB1.out.trans (hb.mono HB1.out.size))
  clear e0_0 e0_1 e0_2 e1_0 e1_1 e1_2 e1_3 hb
  go_wp2_with fail
  go_ret
  exact ⟨rfl, HBL.out⟩
set_option maxRecDepth 100000 in
set_option maxHeartbeats 16000000 in
theorem ts_skip3 (off : Int) (a0 : Option Addr) (n0 ca0 : Nat) (b0 : Option Addr) (m0 cb0 : Nat) (F T G U : Nat → Int) (c : Int) (a : Option Addr) (n ca : Nat) (r b : Int) (B P : Nat → Int) (now : Int) (la : Option Addr) (ll lc : Nat) (KD WT : Nat → Int) (w : World) (hS0 : Sps w a0 n0 F T) (hR0 : Sps w b0 m0 G U) (hS : Sps w a n B P) (z0 : Int) (ez : checkE off F T n0 G U m0 = z0) (x0 : decide (n0 ≤ 60 ∧ m0 ≤ 60) = true) (x1 : decide (60 < (n : Int)) = false) (x2 : decide (60 < (ll : Int)) = false) (x3 : (z0 != 0) = true) :
    Calls Try.prog 8 #[calV off a0 n0 ca0 b0 m0 cb0, conV c a n ca r b, .int .i64 now, .slice la ll lc] w fun e w' => e = .returned (.bool true) ∧ Below w.heap.size w w' := by
  obtain ⟨B2, s0, s1, sz⟩ := box2 w #[.int .i64 off, .slice a0 n0 ca0, .slice b0 m0 cb0] #[.int .i64 c, .slice a n ca, .int .i64 r, .int .i64 b] 24 27
  have HE0_0 := Lib.hid s0
  have HE1_0 := Lib.hid s1
  have HB0 := Lib.hid B2
  have HZ0 := Lib.hid sz
  have hli := light10 off a0 n0 ca0 b0 m0 cb0 ((w.alloc (.cells #[.int .i64 off, .slice a0 n0 ca0, .slice b0 m0 cb0] 24)).alloc (.cells #[.int .i64 c, .slice a n ca, .int .i64 r, .int .i64 b] 27)) hS0.1 hR0.1
  have HCK := Lib.hid (fun W (hb : Below w.heap.size w W) => rcheck10 off a0 n0 ca0 F T b0 m0 cb0 G U W (hS0.kept hb) (hR0.kept hb))
  have HGD := Lib.hid (fun W (hb : Below w.heap.size w W) => rgood_any c a n ca r b B P W (hS.kept hb))
  rw [x0] at hli
  rw [ez] at HCK
  clear x0
  have e0_0 := cells_heap HE0_0.out 0
  have e0_1 := cells_heap HE0_0.out 1
  have e0_2 := cells_heap HE0_0.out 2
  obtain ⟨e1_0, e1_1, e1_2, e1_3, -⟩ := four_at HE1_0.out
  clear B2 sz s0 s1
  clear hS0 hR0 hS ez
  unfold conV at *
  unfold calV at *
  go_enter Try.func8, Try.ntmps8
  go_wp2_with fail
  generalize ((w.alloc (.cells #[.int .i64 off, .slice a0 n0 ca0, .slice b0 m0 cb0] 24)).alloc (.cells #[.int .i64 c, .slice a n ca, .int .i64 r, .int .i64 b] 27)) = W0 at HB0 HZ0 HE0_0 HE1_0 e0_0 e0_1 e0_2 e1_0 e1_1 e1_2 e1_3 hli ⊢
  refine (hli).mono ?_
  rintro e W1 ⟨rfl, hb⟩
  have HB1 := Lib.hid (HB0.out.trans (hb.mono HB0.out.size))
  have HE0_1 := Lib.hid (ex_below HE0_0.out hb)
  have HE1_1 := Lib.hid (ex_below HE1_0.out hb)
  clear e0_0 e0_1 e0_2 e1_0 e1_1 e1_2 e1_3 hb
  have e0_0 := cells_heap HE0_1.out 0
  have e0_1 := cells_heap HE0_1.out 1
  have e0_2 := cells_heap HE0_1.out 2
  obtain ⟨e1_0, e1_1, e1_2, e1_3, -⟩ := four_at HE1_1.out
  go_wp2_with fail
  refine (HCK.out W1 HB1.out).mono ?_
  rintro e W2 ⟨rfl, hb⟩
  have HB2 := Lib.hid (HB1.out.trans (hb.mono HB1.out.size))
  have HE0_2 := Lib.hid (ex_below HE0_1.out hb)
  have HE1_2 := Lib.hid (ex_below HE1_1.out hb)
  clear e0_0 e0_1 e0_2 e1_0 e1_1 e1_2 e1_3 hb
  have e0_0 := cells_heap HE0_2.out 0
  have e0_1 := cells_heap HE0_2.out 1
  have e0_2 := cells_heap HE0_2.out 2
  obtain ⟨e1_0, e1_1, e1_2, e1_3, -⟩ := four_at HE1_2.out
  go_wp2_with fail
  refine (lives16 W2).mono ?_
  rintro e wl ⟨rfl, hb⟩
  have HBL := Lib.hid (HB2.out.trans (hb.mono HB2.out.size))
  clear e0_0 e0_1 e0_2 e1_0 e1_1 e1_2 e1_3 hb
  go_wp2_with fail
  go_ret
  exact ⟨rfl, HBL.out⟩
set_option maxRecDepth 100000 in
set_option maxHeartbeats 16000000 in
theorem ts_skip4 (off : Int) (a0 : Option Addr) (n0 ca0 : Nat) (b0 : Option Addr) (m0 cb0 : Nat) (F T G U : Nat → Int) (c : Int) (a : Option Addr) (n ca : Nat) (r b : Int) (B P : Nat → Int) (now : Int) (la : Option Addr) (ll lc : Nat) (KD WT : Nat → Int) (w : World) (hS0 : Sps w a0 n0 F T) (hR0 : Sps w b0 m0 G U) (hS : Sps w a n B P) (z0 : Int) (ez : checkE off F T n0 G U m0 = z0) (x0 : decide (n0 ≤ 60 ∧ m0 ≤ 60) = true) (x1 : decide (60 < (n : Int)) = false) (x2 : decide (60 < (ll : Int)) = false) (x3 : (z0 != 0) = false) (x4 : goodC c n r b B P = false) :
    Calls Try.prog 8 #[calV off a0 n0 ca0 b0 m0 cb0, conV c a n ca r b, .int .i64 now, .slice la ll lc] w fun e w' => e = .returned (.bool true) ∧ Below w.heap.size w w' := by
  obtain ⟨B2, s0, s1, sz⟩ := box2 w #[.int .i64 off, .slice a0 n0 ca0, .slice b0 m0 cb0] #[.int .i64 c, .slice a n ca, .int .i64 r, .int .i64 b] 24 27
  have HE0_0 := Lib.hid s0
  have HE1_0 := Lib.hid s1
  have HB0 := Lib.hid B2
  have HZ0 := Lib.hid sz
  have hli := light10 off a0 n0 ca0 b0 m0 cb0 ((w.alloc (.cells #[.int .i64 off, .slice a0 n0 ca0, .slice b0 m0 cb0] 24)).alloc (.cells #[.int .i64 c, .slice a n ca, .int .i64 r, .int .i64 b] 27)) hS0.1 hR0.1
  have HCK := Lib.hid (fun W (hb : Below w.heap.size w W) => rcheck10 off a0 n0 ca0 F T b0 m0 cb0 G U W (hS0.kept hb) (hR0.kept hb))
  have HGD := Lib.hid (fun W (hb : Below w.heap.size w W) => rgood_any c a n ca r b B P W (hS.kept hb))
  rw [x0] at hli
  rw [ez] at HCK
  rw [x4] at HGD
  clear x0 x4
  have e0_0 := cells_heap HE0_0.out 0
  have e0_1 := cells_heap HE0_0.out 1
  have e0_2 := cells_heap HE0_0.out 2
  obtain ⟨e1_0, e1_1, e1_2, e1_3, -⟩ := four_at HE1_0.out
  clear B2 sz s0 s1
  clear hS0 hR0 hS ez
  unfold conV at *
  unfold calV at *
  go_enter Try.func8, Try.ntmps8
  go_wp2_with fail
  generalize ((w.alloc (.cells #[.int .i64 off, .slice a0 n0 ca0, .slice b0 m0 cb0] 24)).alloc (.cells #[.int .i64 c, .slice a n ca, .int .i64 r, .int .i64 b] 27)) = W0 at HB0 HZ0 HE0_0 HE1_0 e0_0 e0_1 e0_2 e1_0 e1_1 e1_2 e1_3 hli ⊢
  refine (hli).mono ?_
  rintro e W1 ⟨rfl, hb⟩
  have HB1 := Lib.hid (HB0.out.trans (hb.mono HB0.out.size))
  have HE0_1 := Lib.hid (ex_below HE0_0.out hb)
  have HE1_1 := Lib.hid (ex_below HE1_0.out hb)
  clear e0_0 e0_1 e0_2 e1_0 e1_1 e1_2 e1_3 hb
  have e0_0 := cells_heap HE0_1.out 0
  have e0_1 := cells_heap HE0_1.out 1
  have e0_2 := cells_heap HE0_1.out 2
  obtain ⟨e1_0, e1_1, e1_2, e1_3, -⟩ := four_at HE1_1.out
  go_wp2_with fail
  refine (HCK.out W1 HB1.out).mono ?_
  rintro e W2 ⟨rfl, hb⟩
  have HB2 := Lib.hid (HB1.out.trans (hb.mono HB1.out.size))
  have HE0_2 := Lib.hid (ex_below HE0_1.out hb)
  have HE1_2 := Lib.hid (ex_below HE1_1.out hb)
  clear e0_0 e0_1 e0_2 e1_0 e1_1 e1_2 e1_3 hb
  have e0_0 := cells_heap HE0_2.out 0
  have e0_1 := cells_heap HE0_2.out 1
  have e0_2 := cells_heap HE0_2.out 2
  obtain ⟨e1_0, e1_1, e1_2, e1_3, -⟩ := four_at HE1_2.out
  go_wp2_with fail
  refine (HGD.out W2 HB2.out).mono ?_
  rintro e W3 ⟨rfl, hb⟩
  have HB3 := Lib.hid (HB2.out.trans (hb.mono HB2.out.size))
  have HE0_3 := Lib.hid (ex_below HE0_2.out hb)
  have HE1_3 := Lib.hid (ex_below HE1_2.out hb)
  clear e0_0 e0_1 e0_2 e1_0 e1_1 e1_2 e1_3 hb
  have e0_0 := cells_heap HE0_3.out 0
  have e0_1 := cells_heap HE0_3.out 1
  have e0_2 := cells_heap HE0_3.out 2
  obtain ⟨e1_0, e1_1, e1_2, e1_3, -⟩ := four_at HE1_3.out
  go_wp2_with fail
  refine (lives16 W3).mono ?_
  rintro e wl ⟨rfl, hb⟩
  have HBL := Lib.hid (HB3.out.trans (hb.mono HB3.out.size))
  clear e0_0 e0_1 e0_2 e1_0 e1_1 e1_2 e1_3 hb
  go_wp2_with fail
  go_ret
  exact ⟨rfl, HBL.out⟩
set_option maxRecDepth 100000 in
set_option maxHeartbeats 16000000 in
theorem ts_skip5 (off : Int) (a0 : Option Addr) (n0 ca0 : Nat) (b0 : Option Addr) (m0 cb0 : Nat) (F T G U : Nat → Int) (c : Int) (a : Option Addr) (n ca : Nat) (r b : Int) (B P : Nat → Int) (now : Int) (la : Option Addr) (ll lc : Nat) (KD WT : Nat → Int) (w : World) (hS0 : Sps w a0 n0 F T) (hR0 : Sps w b0 m0 G U) (hS : Sps w a n B P) (z0 : Int) (ez : checkE off F T n0 G U m0 = z0) (x0 : decide (n0 ≤ 60 ∧ m0 ≤ 60) = true) (x1 : decide (60 < (n : Int)) = false) (x2 : decide (60 < (ll : Int)) = false) (x3 : (z0 != 0) = false) (x4 : goodC c n r b B P = true) (x5 : decide (now < 0) = true) :
    Calls Try.prog 8 #[calV off a0 n0 ca0 b0 m0 cb0, conV c a n ca r b, .int .i64 now, .slice la ll lc] w fun e w' => e = .returned (.bool true) ∧ Below w.heap.size w w' := by
  obtain ⟨B2, s0, s1, sz⟩ := box2 w #[.int .i64 off, .slice a0 n0 ca0, .slice b0 m0 cb0] #[.int .i64 c, .slice a n ca, .int .i64 r, .int .i64 b] 24 27
  have HE0_0 := Lib.hid s0
  have HE1_0 := Lib.hid s1
  have HB0 := Lib.hid B2
  have HZ0 := Lib.hid sz
  have hli := light10 off a0 n0 ca0 b0 m0 cb0 ((w.alloc (.cells #[.int .i64 off, .slice a0 n0 ca0, .slice b0 m0 cb0] 24)).alloc (.cells #[.int .i64 c, .slice a n ca, .int .i64 r, .int .i64 b] 27)) hS0.1 hR0.1
  have HCK := Lib.hid (fun W (hb : Below w.heap.size w W) => rcheck10 off a0 n0 ca0 F T b0 m0 cb0 G U W (hS0.kept hb) (hR0.kept hb))
  have HGD := Lib.hid (fun W (hb : Below w.heap.size w W) => rgood_any c a n ca r b B P W (hS.kept hb))
  rw [x0] at hli
  rw [ez] at HCK
  rw [x4] at HGD
  clear x0 x4
  have e0_0 := cells_heap HE0_0.out 0
  have e0_1 := cells_heap HE0_0.out 1
  have e0_2 := cells_heap HE0_0.out 2
  obtain ⟨e1_0, e1_1, e1_2, e1_3, -⟩ := four_at HE1_0.out
  clear B2 sz s0 s1
  clear hS0 hR0 hS ez
  unfold conV at *
  unfold calV at *
  go_enter Try.func8, Try.ntmps8
  go_wp2_with fail
  generalize ((w.alloc (.cells #[.int .i64 off, .slice a0 n0 ca0, .slice b0 m0 cb0] 24)).alloc (.cells #[.int .i64 c, .slice a n ca, .int .i64 r, .int .i64 b] 27)) = W0 at HB0 HZ0 HE0_0 HE1_0 e0_0 e0_1 e0_2 e1_0 e1_1 e1_2 e1_3 hli ⊢
  refine (hli).mono ?_
  rintro e W1 ⟨rfl, hb⟩
  have HB1 := Lib.hid (HB0.out.trans (hb.mono HB0.out.size))
  have HE0_1 := Lib.hid (ex_below HE0_0.out hb)
  have HE1_1 := Lib.hid (ex_below HE1_0.out hb)
  clear e0_0 e0_1 e0_2 e1_0 e1_1 e1_2 e1_3 hb
  have e0_0 := cells_heap HE0_1.out 0
  have e0_1 := cells_heap HE0_1.out 1
  have e0_2 := cells_heap HE0_1.out 2
  obtain ⟨e1_0, e1_1, e1_2, e1_3, -⟩ := four_at HE1_1.out
  go_wp2_with fail
  refine (HCK.out W1 HB1.out).mono ?_
  rintro e W2 ⟨rfl, hb⟩
  have HB2 := Lib.hid (HB1.out.trans (hb.mono HB1.out.size))
  have HE0_2 := Lib.hid (ex_below HE0_1.out hb)
  have HE1_2 := Lib.hid (ex_below HE1_1.out hb)
  clear e0_0 e0_1 e0_2 e1_0 e1_1 e1_2 e1_3 hb
  have e0_0 := cells_heap HE0_2.out 0
  have e0_1 := cells_heap HE0_2.out 1
  have e0_2 := cells_heap HE0_2.out 2
  obtain ⟨e1_0, e1_1, e1_2, e1_3, -⟩ := four_at HE1_2.out
  go_wp2_with fail
  refine (HGD.out W2 HB2.out).mono ?_
  rintro e W3 ⟨rfl, hb⟩
  have HB3 := Lib.hid (HB2.out.trans (hb.mono HB2.out.size))
  have HE0_3 := Lib.hid (ex_below HE0_2.out hb)
  have HE1_3 := Lib.hid (ex_below HE1_2.out hb)
  clear e0_0 e0_1 e0_2 e1_0 e1_1 e1_2 e1_3 hb
  have e0_0 := cells_heap HE0_3.out 0
  have e0_1 := cells_heap HE0_3.out 1
  have e0_2 := cells_heap HE0_3.out 2
  obtain ⟨e1_0, e1_1, e1_2, e1_3, -⟩ := four_at HE1_3.out
  go_wp2_with fail
  refine (lives16 W3).mono ?_
  rintro e wl ⟨rfl, hb⟩
  have HBL := Lib.hid (HB3.out.trans (hb.mono HB3.out.size))
  clear e0_0 e0_1 e0_2 e1_0 e1_1 e1_2 e1_3 hb
  go_wp2_with fail
  go_ret
  exact ⟨rfl, HBL.out⟩
set_option maxRecDepth 100000 in
set_option maxHeartbeats 16000000 in
theorem ts_skip6 (off : Int) (a0 : Option Addr) (n0 ca0 : Nat) (b0 : Option Addr) (m0 cb0 : Nat) (F T G U : Nat → Int) (c : Int) (a : Option Addr) (n ca : Nat) (r b : Int) (B P : Nat → Int) (now : Int) (la : Option Addr) (ll lc : Nat) (KD WT : Nat → Int) (w : World) (hS0 : Sps w a0 n0 F T) (hR0 : Sps w b0 m0 G U) (hS : Sps w a n B P) (z0 : Int) (ez : checkE off F T n0 G U m0 = z0) (x0 : decide (n0 ≤ 60 ∧ m0 ≤ 60) = true) (x1 : decide (60 < (n : Int)) = false) (x2 : decide (60 < (ll : Int)) = false) (x3 : (z0 != 0) = false) (x4 : goodC c n r b B P = true) (x5 : decide (now < 0) = false) (x6 : decide (1125899906842624 < now) = true) :
    Calls Try.prog 8 #[calV off a0 n0 ca0 b0 m0 cb0, conV c a n ca r b, .int .i64 now, .slice la ll lc] w fun e w' => e = .returned (.bool true) ∧ Below w.heap.size w w' := by
  obtain ⟨B2, s0, s1, sz⟩ := box2 w #[.int .i64 off, .slice a0 n0 ca0, .slice b0 m0 cb0] #[.int .i64 c, .slice a n ca, .int .i64 r, .int .i64 b] 24 27
  have HE0_0 := Lib.hid s0
  have HE1_0 := Lib.hid s1
  have HB0 := Lib.hid B2
  have HZ0 := Lib.hid sz
  have hli := light10 off a0 n0 ca0 b0 m0 cb0 ((w.alloc (.cells #[.int .i64 off, .slice a0 n0 ca0, .slice b0 m0 cb0] 24)).alloc (.cells #[.int .i64 c, .slice a n ca, .int .i64 r, .int .i64 b] 27)) hS0.1 hR0.1
  have HCK := Lib.hid (fun W (hb : Below w.heap.size w W) => rcheck10 off a0 n0 ca0 F T b0 m0 cb0 G U W (hS0.kept hb) (hR0.kept hb))
  have HGD := Lib.hid (fun W (hb : Below w.heap.size w W) => rgood_any c a n ca r b B P W (hS.kept hb))
  rw [x0] at hli
  rw [ez] at HCK
  rw [x4] at HGD
  clear x0 x4
  have e0_0 := cells_heap HE0_0.out 0
  have e0_1 := cells_heap HE0_0.out 1
  have e0_2 := cells_heap HE0_0.out 2
  obtain ⟨e1_0, e1_1, e1_2, e1_3, -⟩ := four_at HE1_0.out
  clear B2 sz s0 s1
  clear hS0 hR0 hS ez
  unfold conV at *
  unfold calV at *
  go_enter Try.func8, Try.ntmps8
  go_wp2_with fail
  generalize ((w.alloc (.cells #[.int .i64 off, .slice a0 n0 ca0, .slice b0 m0 cb0] 24)).alloc (.cells #[.int .i64 c, .slice a n ca, .int .i64 r, .int .i64 b] 27)) = W0 at HB0 HZ0 HE0_0 HE1_0 e0_0 e0_1 e0_2 e1_0 e1_1 e1_2 e1_3 hli ⊢
  refine (hli).mono ?_
  rintro e W1 ⟨rfl, hb⟩
  have HB1 := Lib.hid (HB0.out.trans (hb.mono HB0.out.size))
  have HE0_1 := Lib.hid (ex_below HE0_0.out hb)
  have HE1_1 := Lib.hid (ex_below HE1_0.out hb)
  clear e0_0 e0_1 e0_2 e1_0 e1_1 e1_2 e1_3 hb
  have e0_0 := cells_heap HE0_1.out 0
  have e0_1 := cells_heap HE0_1.out 1
  have e0_2 := cells_heap HE0_1.out 2
  obtain ⟨e1_0, e1_1, e1_2, e1_3, -⟩ := four_at HE1_1.out
  go_wp2_with fail
  refine (HCK.out W1 HB1.out).mono ?_
  rintro e W2 ⟨rfl, hb⟩
  have HB2 := Lib.hid (HB1.out.trans (hb.mono HB1.out.size))
  have HE0_2 := Lib.hid (ex_below HE0_1.out hb)
  have HE1_2 := Lib.hid (ex_below HE1_1.out hb)
  clear e0_0 e0_1 e0_2 e1_0 e1_1 e1_2 e1_3 hb
  have e0_0 := cells_heap HE0_2.out 0
  have e0_1 := cells_heap HE0_2.out 1
  have e0_2 := cells_heap HE0_2.out 2
  obtain ⟨e1_0, e1_1, e1_2, e1_3, -⟩ := four_at HE1_2.out
  go_wp2_with fail
  refine (HGD.out W2 HB2.out).mono ?_
  rintro e W3 ⟨rfl, hb⟩
  have HB3 := Lib.hid (HB2.out.trans (hb.mono HB2.out.size))
  have HE0_3 := Lib.hid (ex_below HE0_2.out hb)
  have HE1_3 := Lib.hid (ex_below HE1_2.out hb)
  clear e0_0 e0_1 e0_2 e1_0 e1_1 e1_2 e1_3 hb
  have e0_0 := cells_heap HE0_3.out 0
  have e0_1 := cells_heap HE0_3.out 1
  have e0_2 := cells_heap HE0_3.out 2
  obtain ⟨e1_0, e1_1, e1_2, e1_3, -⟩ := four_at HE1_3.out
  go_wp2_with fail
  refine (lives16 W3).mono ?_
  rintro e wl ⟨rfl, hb⟩
  have HBL := Lib.hid (HB3.out.trans (hb.mono HB3.out.size))
  clear e0_0 e0_1 e0_2 e1_0 e1_1 e1_2 e1_3 hb
  go_wp2_with fail
  go_ret
  exact ⟨rfl, HBL.out⟩
end Go.Proofs.Ythnnbmofpmedhaa

import Derived.Test.YtnhaakdjijjinaaMRc
import Derived.Laws.AppendOwnNone
import Derived.Deep.QuietTactic
import Derived.BigQuiet
namespace Go.Proofs.Ytnhaakdjijjinaa
open Go.RowKit
/- Replies: whether one is sound, and whether two are the same, as the reference says; a copy is apart. -/
open Go.RowKit
set_option maxRecDepth 100000 in
set_option maxHeartbeats 8000000 in
theorem tells_skip (cd tm id cn st lv ge fr lf du tl : Int) (a : Option Addr) (n ca : Nat) (nt de : Int) (cd' tm' id' cn' st' lv' ge' fr' lf' du' tl' : Int) (a' : Option Addr) (n' ca' : Nat) (nt' de' : Int) (x : Int) (w : World) (h : ¬ (n ≤ 200 ∧ n' ≤ 200)) :
    Calls Try.prog 3 #[repV cd tm id cn st lv ge fr lf du tl a n ca nt de, repV cd' tm' id' cn' st' lv' ge' fr' lf' du' tl' a' n' ca' nt' de', .int .u64 x] w fun e w' => e = .returned (.bool true) ∧ Below w.heap.size w w' := by
  obtain ⟨B2, s0, s1, -⟩ := box2 w #[.int .i64 cd, .int .i64 tm, .int .u64 id, .int .i64 cn, .int .i64 st, .int .i64 lv, .int .u64 ge, .int .i64 fr, .int .i64 lf, .int .i64 du, .int .i64 tl, .slice a n ca, .int .u64 nt, .int .i64 de] #[.int .i64 cd', .int .i64 tm', .int .u64 id', .int .i64 cn', .int .i64 st', .int .i64 lv', .int .u64 ge', .int .i64 fr', .int .i64 lf', .int .i64 du', .int .i64 tl', .slice a' n' ca', .int .u64 nt', .int .i64 de'] 28 28
  have HL1 := Lib.hid (fun W => light19 cd tm id cn st lv ge fr lf du tl a n ca nt de W)
  have HL2 := Lib.hid (fun W => light19 cd' tm' id' cn' st' lv' ge' fr' lf' du' tl' a' n' ca' nt' de' W)
  obtain ⟨z1, e1⟩ : ∃ z, decide (n ≤ 200) = z := ⟨_, rfl⟩
  obtain ⟨z2, e2⟩ : ∃ z, decide (n' ≤ 200) = z := ⟨_, rfl⟩
  have hz : ¬ (z1 = true ∧ z2 = true) := by
    rw [← e1, ← e2]
    simpa using h
  rw [e1] at HL1
  rw [e2] at HL2
  obtain ⟨q0, q1, q2, q3, q4, q5, q6, q7, q8, q9, q10, q11, q12, q13⟩ := rep_at s0
  obtain ⟨r0, r1, r2, r3, r4, r5, r6, r7, r8, r9, r10, r11, r12, r13⟩ := rep_at s1
  have HB := Lib.hid B2
  have HS := Lib.hid (And.intro s0 s1)
  clear B2 s0 s1 e1 e2 h
  unfold repV at *
  cases z1
  case false =>
    clear hz
    go_enter Try.func3, Try.ntmps3
    go_wp2_with fail
    refine (HL1.out _).mono ?_
    rintro e w1 ⟨rfl, hb⟩
    have HB1 := Lib.hid (HB.out.trans (hb.mono HB.out.size))
    clear hb q0 q1 q2 q3 q4 q5 q6 q7 q8 q9 q10 q11 q12 q13 r0 r1 r2 r3 r4 r5 r6 r7 r8 r9 r10 r11 r12 r13
    go_wp2_with fail
    refine (lives19 _).mono ?_
    rintro e w2 ⟨rfl, hb⟩
    have HB2 := Lib.hid (HB1.out.trans (hb.mono HB1.out.size))
    clear hb
    go_wp2_with fail
    go_ret
    exact ⟨rfl, HB2.out⟩
  cases z2
  case true => exact absurd ⟨rfl, rfl⟩ hz
  clear hz
  go_enter Try.func3, Try.ntmps3
  go_wp2_with fail
  refine (HL1.out _).mono ?_
  rintro e w1 ⟨rfl, hb⟩
  have HB1 := Lib.hid (HB.out.trans (hb.mono HB.out.size))
  have HS1 := Lib.hid (And.intro (ex_below HS.out.1 hb) (ex_below HS.out.2 hb))
  clear hb q0 q1 q2 q3 q4 q5 q6 q7 q8 q9 q10 q11 q12 q13 r0 r1 r2 r3 r4 r5 r6 r7 r8 r9 r10 r11 r12 r13
  obtain ⟨r0, r1, r2, r3, r4, r5, r6, r7, r8, r9, r10, r11, r12, r13⟩ := rep_at HS1.out.2
  go_wp2_with fail
  refine (HL2.out _).mono ?_
  rintro e w3 ⟨rfl, hb⟩
  have HB3 := Lib.hid (HB1.out.trans (hb.mono HB1.out.size))
  clear hb r0 r1 r2 r3 r4 r5 r6 r7 r8 r9 r10 r11 r12 r13
  go_wp2_with fail
  refine (lives19 _).mono ?_
  rintro e w2 ⟨rfl, hb⟩
  have HB2 := Lib.hid (HB3.out.trans (hb.mono HB3.out.size))
  clear hb
  go_wp2_with fail
  go_ret
  exact ⟨rfl, HB2.out⟩
theorem yields_rep {S : World → Prop} {T : Nat} { x0 x1 x2 x3 x4 x5 x6 x7 x8 x9 x10 x11 x12 x13 : Value} (hS : ∀ W, S W → W.heap[T]? = some (.cells #[x0, x1, x2, x3, x4, x5, x6, x7, x8, x9, x10, x11, x12, x13] 28 (0, 0))) (ops : Array Oper) (op : Oper) (a : Act) (hw : Region.wanted op (yielded ops a.tmps) = true) (x : Operand) (ho : op.op = .load 28 x) (hx : a.eval x = .pointer (some ⟨T, 0, none⟩)) : YieldsIf Try.prog ops S op (.agg #[x0, x1, x2, x3, x4, x5, x6, x7, x8, x9, x10, x11, x12, x13]) a := by
  refine .inl ⟨hw, fun w hw' => ?_⟩
  obtain ⟨q0, q1, q2, q3, q4, q5, q6, q7, q8, q9, q10, q11, q12, q13⟩ := rep_at (hS w hw')
  clear hS hw hw'
  unfold execOp
  simp only [ho, hx]
  clear ho hx
  go_simp
theorem meas_up (n k : Nat) (v : Value) (hv : v = .int .i64 ((k : Int) + 1)) (h : k < n) : n - (intOf v).toNat < n - (intOf (.int .i64 (k : Int))).toNat := by
  subst hv
  simp only [intOf]
  omega
/-- A row's cells are there. -/
def CRow (W : World) (a : Option Addr) (n : Nat) (B : Nat) : Prop := ∀ k, k < n → ∃ g, a = some ⟨g, 0, none⟩ ∧ B ≤ g ∧ g < W.heap.size ∧ (∃ v, W.cell? ⟨g, k, none⟩ = some v) ∧ W.frozen? ⟨g, k, none⟩ = false
theorem OU.crow {w : World} {base : Nat} {a : Option Addr} {n c : Nat} {l : List Nat} (h : OU w base (.slice a n c) l) : CRow w a n base := by
  obtain ⟨a', c', e, hm, hc⟩ := h.shape
  injection e with e1 e2 e3
  subst e1 e2
  intro k hk
  obtain ⟨g, ha, hb, hlt, hh⟩ := hc (by omega)
  exact ⟨g, ha, hb, hlt, ⟨_, (hh k hk).1⟩, (hh k hk).2⟩
theorem CRow.kept {W W' : World} {a : Option Addr} {n B : Nat} (h : CRow W a n B) (hb : Below W.heap.size W W') : CRow W' a n B := by
  intro k hk
  obtain ⟨g, ha, hB, hlt, ⟨v, hv⟩, hf⟩ := h k hk
  exact ⟨g, ha, hB, Nat.lt_of_lt_of_le hlt hb.size, ⟨v, (hb.cell (p := ⟨g, k, none⟩) hlt).trans hv⟩, (hb.frozen (p := ⟨g, k, none⟩) hlt).trans hf⟩
theorem CRow.set {W : World} {a : Option Addr} {n B : Nat} (h : CRow W a n B) (p : Addr) (u : Value) : CRow (W.setCell p u) a n B := by
  intro k hk
  obtain ⟨g, ha, hB, hlt, ⟨v, hv⟩, hf⟩ := h k hk
  refine ⟨g, ha, hB, by simpa using hlt, ?_, by simpa using hf⟩
  by_cases e : (⟨g, k, none⟩ : Addr) = p
  · subst e
    exact ⟨u, World.cell?_setCell_same _ _ _ hv⟩
  · exact ⟨v, by rw [World.cell?_setCell_other _ _ _ _ (Ne.symm e)]; exact hv⟩
set_option maxRecDepth 100000 in
set_option maxHeartbeats 16000000 in
theorem tells_ok (cd tm id cn st lv ge fr lf du tl : Int) (a : Option Addr) (n ca : Nat) (nt de : Int) (xs : List Nat) (cd' tm' id' cn' st' lv' ge' fr' lf' du' tl' : Int) (a' : Option Addr) (n' ca' : Nat) (nt' de' : Int) (ys : List Nat) (x : Int) (w : World) (hU : Us w a n xs) (hU' : Us w a' n' ys) (hca : a = none → ca = 0) (hfr : fr ≤ 9223372036854775807) (hn : n ≤ 200) (hn' : n' ≤ 200) :
    Calls Try.prog 3 #[repV cd tm id cn st lv ge fr lf du tl a n ca nt de, repV cd' tm' id' cn' st' lv' ge' fr' lf' du' tl' a' n' ca' nt' de', .int .u64 x] w fun e w' => e = .returned (.bool true) ∧ Below w.heap.size w w' := by
  obtain ⟨B2, s0, s1, sz⟩ := box2 w #[.int .i64 cd, .int .i64 tm, .int .u64 id, .int .i64 cn, .int .i64 st, .int .i64 lv, .int .u64 ge, .int .i64 fr, .int .i64 lf, .int .i64 du, .int .i64 tl, .slice a n ca, .int .u64 nt, .int .i64 de] #[.int .i64 cd', .int .i64 tm', .int .u64 id', .int .i64 cn', .int .i64 st', .int .i64 lv', .int .u64 ge', .int .i64 fr', .int .i64 lf', .int .i64 du', .int .i64 tl', .slice a' n' ca', .int .u64 nt', .int .i64 de'] 28 28
  have HL1 : Hid (∀ W, Calls Try.prog 10 #[repV cd tm id cn st lv ge fr lf du tl a n ca nt de] W fun e w' => e = .returned (.bool true) ∧ Below W.heap.size W w') := Lib.hid (fun W => by rw [← decide_eq_true hn]; exact light19 cd tm id cn st lv ge fr lf du tl a n ca nt de W)
  have HL2 : Hid (∀ W, Calls Try.prog 10 #[repV cd' tm' id' cn' st' lv' ge' fr' lf' du' tl' a' n' ca' nt' de'] W fun e w' => e = .returned (.bool true) ∧ Below W.heap.size W w') := Lib.hid (fun W => by rw [← decide_eq_true hn']; exact light19 cd' tm' id' cn' st' lv' ge' fr' lf' du' tl' a' n' ca' nt' de' W)
  have HCP : Hid (∀ W, Us W a n xs → Calls Try.prog 12 #[repV cd tm id cn st lv ge fr lf du tl a n ca nt de] W (CopiedR cd tm id cn st lv ge fr lf du tl nt de xs W)) := Lib.hid (fun W h => copy_any cd tm id cn st lv ge fr lf du tl a n ca nt de xs W h (by omega))
  have HRF := Lib.hid (fun W => refused_any cd tm W)
  obtain ⟨q0, q1, q2, q3, q4, q5, q6, q7, q8, q9, q10, q11, q12, q13⟩ := rep_at s0
  obtain ⟨r0, r1, r2, r3, r4, r5, r6, r7, r8, r9, r10, r11, r12, r13⟩ := rep_at s1
  have HB := Lib.hid B2
  have HS := Lib.hid (And.intro s0 s1)
  have HU := Lib.hid (And.intro (hU.kept B2) (hU'.kept B2))
  have HSZ := Lib.hid sz
  have HCA := Lib.hid hca
  have HUB : Hid (∀ b off, a = some ⟨b, off, none⟩ → 0 < n → b < w.heap.size) := Lib.hid (fun b off h h0 => by
    obtain ⟨b', off', h1, h2, -⟩ := hU.2.2.2 0 h0
    rw [h] at h1
    injection h1 with h1
    injection h1 with h1 _ _
    omega)
  have HN := Lib.hid hn
  have HFR := Lib.hid hfr
  obtain ⟨zs, hzs⟩ : ∃ z, repS cd tm id cn st lv ge fr lf du tl n de = z := ⟨_, rfl⟩
  obtain ⟨ze, hze⟩ : ∃ z, repEq cd tm id cn st lv ge fr lf du tl nt de xs cd' tm' id' cn' st' lv' ge' fr' lf' du' tl' nt' de' ys = z := ⟨_, rfl⟩
  have HZS := Lib.hid hzs
  have HZE := Lib.hid hze
  clear B2 s0 s1 sz hU hU' hca hfr hn hn' hzs hze
  unfold repV at *
  go_enter Try.func3, Try.ntmps3
  go_wp2_with fail
  refine (HL1.out _).mono ?_
  rintro e w1 ⟨rfl, hb⟩
  have HB1 := Lib.hid (HB.out.trans (hb.mono HB.out.size))
  have HS1 := Lib.hid (And.intro (ex_below HS.out.1 hb) (ex_below HS.out.2 hb))
  have HU1 := Lib.hid (And.intro (HU.out.1.kept hb) (HU.out.2.kept hb))
  have HZ1 : Hid (w.heap.size + 2 ≤ w1.heap.size) := Lib.hid (by have := hb.size; have := HSZ.out; omega)
  clear hb q0 q1 q2 q3 q4 q5 q6 q7 q8 q9 q10 q11 q12 q13 r0 r1 r2 r3 r4 r5 r6 r7 r8 r9 r10 r11 r12 r13
  obtain ⟨r0, r1, r2, r3, r4, r5, r6, r7, r8, r9, r10, r11, r12, r13⟩ := rep_at HS1.out.2
  go_wp2_with fail
  refine (HL2.out _).mono ?_
  rintro e w3 ⟨rfl, hb⟩
  have HB3 := Lib.hid (HB1.out.trans (hb.mono HB1.out.size))
  have HS3 := Lib.hid (And.intro (ex_below HS1.out.1 hb) (ex_below HS1.out.2 hb))
  have HU3 := Lib.hid (And.intro (HU1.out.1.kept hb) (HU1.out.2.kept hb))
  have HZ3 : Hid (w.heap.size + 2 ≤ w3.heap.size) := Lib.hid (by have := hb.size; have := HZ1.out; omega)
  clear hb r0 r1 r2 r3 r4 r5 r6 r7 r8 r9 r10 r11 r12 r13
  obtain ⟨q0, q1, q2, q3, q4, q5, q6, q7, q8, q9, q10, q11, q12, q13⟩ := rep_at HS3.out.1
  go_wp2_with fail
  refine (HCP.out w3 HU3.out.1).mono ?_
  rintro e w4 ⟨ac, cc, rfl, ho, hb⟩
  obtain ⟨lc, hlc⟩ : ∃ y, xs.length = y := ⟨_, rfl⟩
  rw [hlc] at ho ⊢
  have HX : Hid (∀ y ∈ xs, y < 18446744073709551616) := Lib.hid HU3.out.1.2.2.1
  clear q0 q1 q2 q3 q4 q5 q6 q7 q8 q9 q10 q11 q12 q13
  unfold repV
  go_wp2_with fail
  obtain ⟨bx, bn, bz⟩ := box1 w4 #[.int .i64 cd, .int .i64 tm, .int .u64 id, .int .i64 cn, .int .i64 st, .int .i64 lv, .int .u64 ge, .int .i64 fr, .int .i64 lf, .int .i64 du, .int .i64 tl, .slice ac lc cc, .int .u64 nt, .int .i64 de] 28
  have hb4 := hb.trans (bx.mono hb.size)
  obtain ⟨g, hg⟩ : ∃ y, w4.heap.size = y := ⟨_, rfl⟩
  rw [hg] at bn
  have HGE : Hid (w.heap.size + 2 ≤ g) := Lib.hid (by have := hb.size; have := HZ3.out; omega)
  have HS0 := Lib.hid (show (fun W => W.heap[w.heap.size]? = some (.cells #[.int .i64 cd, .int .i64 tm, .int .u64 id, .int .i64 cn, .int .i64 st, .int .i64 lv, .int .u64 ge, .int .i64 fr, .int .i64 lf, .int .i64 du, .int .i64 tl, .slice a n ca, .int .u64 nt, .int .i64 de] 28 (0, 0)) ∧ W.heap[w.heap.size + 1]? = some (.cells #[.int .i64 cd', .int .i64 tm', .int .u64 id', .int .i64 cn', .int .i64 st', .int .i64 lv', .int .u64 ge', .int .i64 fr', .int .i64 lf', .int .i64 du', .int .i64 tl', .slice a' n' ca', .int .u64 nt', .int .i64 de'] 28 (0, 0)) ∧ W.heap[g]? = some (.cells #[.int .i64 cd, .int .i64 tm, .int .u64 id, .int .i64 cn, .int .i64 st, .int .i64 lv, .int .u64 ge, .int .i64 fr, .int .i64 lf, .int .i64 du, .int .i64 tl, .slice ac lc cc, .int .u64 nt, .int .i64 de] 28 (0, 0)) ∧ Below w.heap.size w W ∧ Us W a n xs ∧ Us W a' n' ys ∧ Us W ac lc xs ∧ CRow W ac lc (w.heap.size + 2)) (w4.alloc (.cells #[.int .i64 cd, .int .i64 tm, .int .u64 id, .int .i64 cn, .int .i64 st, .int .i64 lv, .int .u64 ge, .int .i64 fr, .int .i64 lf, .int .i64 du, .int .i64 tl, .slice ac lc cc, .int .u64 nt, .int .i64 de] 28)) from ⟨ex_below HS3.out.1 hb4, ex_below HS3.out.2 hb4, bn, HB3.out.trans (hb4.mono HB3.out.size), HU3.out.1.kept hb4, HU3.out.2.kept hb4, ((ho.us HX.out).2).kept bx, ((ho.mono HZ3.out).crow).kept bx⟩)
  have HCG : Hid (∀ k, ac = some ⟨k, 0, none⟩ → 0 < lc → k < g) := Lib.hid (fun k hk h0 => by
    obtain ⟨g', h1, -, h2, -⟩ := ho.crow 0 h0
    rw [hk] at h1
    injection h1 with h1
    injection h1 with h1
    omega)
  try rw [hg]
  clear ho hb bx bn bz hb4 hg HS3 HU3 HB3
  generalize w4.alloc (.cells #[.int .i64 cd, .int .i64 tm, .int .u64 id, .int .i64 cn, .int .i64 st, .int .i64 lv, .int .u64 ge, .int .i64 fr, .int .i64 lf, .int .i64 du, .int .i64 tl, .slice ac lc cc, .int .u64 nt, .int .i64 de] 28) = V3 at HS0 ⊢
  have HSD : Hid (∀ W, (fun W => W.heap[w.heap.size]? = some (.cells #[.int .i64 cd, .int .i64 tm, .int .u64 id, .int .i64 cn, .int .i64 st, .int .i64 lv, .int .u64 ge, .int .i64 fr, .int .i64 lf, .int .i64 du, .int .i64 tl, .slice a n ca, .int .u64 nt, .int .i64 de] 28 (0, 0)) ∧ W.heap[w.heap.size + 1]? = some (.cells #[.int .i64 cd', .int .i64 tm', .int .u64 id', .int .i64 cn', .int .i64 st', .int .i64 lv', .int .u64 ge', .int .i64 fr', .int .i64 lf', .int .i64 du', .int .i64 tl', .slice a' n' ca', .int .u64 nt', .int .i64 de'] 28 (0, 0)) ∧ W.heap[g]? = some (.cells #[.int .i64 cd, .int .i64 tm, .int .u64 id, .int .i64 cn, .int .i64 st, .int .i64 lv, .int .u64 ge, .int .i64 fr, .int .i64 lf, .int .i64 du, .int .i64 tl, .slice ac lc cc, .int .u64 nt, .int .i64 de] 28 (0, 0)) ∧ Below w.heap.size w W ∧ Us W a n xs ∧ Us W a' n' ys ∧ Us W ac lc xs ∧ CRow W ac lc (w.heap.size + 2)) W → ∀ W', Below W.heap.size W W' → (fun W => W.heap[w.heap.size]? = some (.cells #[.int .i64 cd, .int .i64 tm, .int .u64 id, .int .i64 cn, .int .i64 st, .int .i64 lv, .int .u64 ge, .int .i64 fr, .int .i64 lf, .int .i64 du, .int .i64 tl, .slice a n ca, .int .u64 nt, .int .i64 de] 28 (0, 0)) ∧ W.heap[w.heap.size + 1]? = some (.cells #[.int .i64 cd', .int .i64 tm', .int .u64 id', .int .i64 cn', .int .i64 st', .int .i64 lv', .int .u64 ge', .int .i64 fr', .int .i64 lf', .int .i64 du', .int .i64 tl', .slice a' n' ca', .int .u64 nt', .int .i64 de'] 28 (0, 0)) ∧ W.heap[g]? = some (.cells #[.int .i64 cd, .int .i64 tm, .int .u64 id, .int .i64 cn, .int .i64 st, .int .i64 lv, .int .u64 ge, .int .i64 fr, .int .i64 lf, .int .i64 du, .int .i64 tl, .slice ac lc cc, .int .u64 nt, .int .i64 de] 28 (0, 0)) ∧ Below w.heap.size w W ∧ Us W a n xs ∧ Us W a' n' ys ∧ Us W ac lc xs ∧ CRow W ac lc (w.heap.size + 2)) W') := Lib.hid (fun W ⟨k1, k2, k3, k4, k5, k6, k7, k8⟩ W' hb => ⟨ex_below k1 hb, ex_below k2 hb, ex_below k3 hb, k4.trans (hb.mono k4.size), k5.kept hb, k6.kept hb, k7.kept hb, k8.kept hb⟩)
  have HC1 : Hid (∀ W, (fun W => W.heap[w.heap.size]? = some (.cells #[.int .i64 cd, .int .i64 tm, .int .u64 id, .int .i64 cn, .int .i64 st, .int .i64 lv, .int .u64 ge, .int .i64 fr, .int .i64 lf, .int .i64 du, .int .i64 tl, .slice a n ca, .int .u64 nt, .int .i64 de] 28 (0, 0)) ∧ W.heap[w.heap.size + 1]? = some (.cells #[.int .i64 cd', .int .i64 tm', .int .u64 id', .int .i64 cn', .int .i64 st', .int .i64 lv', .int .u64 ge', .int .i64 fr', .int .i64 lf', .int .i64 du', .int .i64 tl', .slice a' n' ca', .int .u64 nt', .int .i64 de'] 28 (0, 0)) ∧ W.heap[g]? = some (.cells #[.int .i64 cd, .int .i64 tm, .int .u64 id, .int .i64 cn, .int .i64 st, .int .i64 lv, .int .u64 ge, .int .i64 fr, .int .i64 lf, .int .i64 du, .int .i64 tl, .slice ac lc cc, .int .u64 nt, .int .i64 de] 28 (0, 0)) ∧ Below w.heap.size w W ∧ Us W a n xs ∧ Us W a' n' ys ∧ Us W ac lc xs ∧ CRow W ac lc (w.heap.size + 2)) W → Calls Try.prog 13 #[.agg #[.int .i64 cd, .int .i64 tm, .int .u64 id, .int .i64 cn, .int .i64 st, .int .i64 lv, .int .u64 ge, .int .i64 fr, .int .i64 lf, .int .i64 du, .int .i64 tl, .slice ac lc cc, .int .u64 nt, .int .i64 de], .agg #[.int .i64 cd, .int .i64 tm, .int .u64 id, .int .i64 cn, .int .i64 st, .int .i64 lv, .int .u64 ge, .int .i64 fr, .int .i64 lf, .int .i64 du, .int .i64 tl, .slice a n ca, .int .u64 nt, .int .i64 de]] W fun e w' => e = .returned (.bool true) ∧ Below W.heap.size W w') := Lib.hid (fun W ⟨k1, k2, k3, k4, k5, k6, k7, k8⟩ => by
      have h := rrep_same cd tm id cn st lv ge fr lf du tl ac lc cc nt de xs cd tm id cn st lv ge fr lf du tl a n ca nt de xs W k7 k5
      rw [repEq_refl] at h
      exact h)
  have HC2 : Hid (∀ W, (fun W => W.heap[w.heap.size]? = some (.cells #[.int .i64 cd, .int .i64 tm, .int .u64 id, .int .i64 cn, .int .i64 st, .int .i64 lv, .int .u64 ge, .int .i64 fr, .int .i64 lf, .int .i64 du, .int .i64 tl, .slice a n ca, .int .u64 nt, .int .i64 de] 28 (0, 0)) ∧ W.heap[w.heap.size + 1]? = some (.cells #[.int .i64 cd', .int .i64 tm', .int .u64 id', .int .i64 cn', .int .i64 st', .int .i64 lv', .int .u64 ge', .int .i64 fr', .int .i64 lf', .int .i64 du', .int .i64 tl', .slice a' n' ca', .int .u64 nt', .int .i64 de'] 28 (0, 0)) ∧ W.heap[g]? = some (.cells #[.int .i64 cd, .int .i64 tm, .int .u64 id, .int .i64 cn, .int .i64 st, .int .i64 lv, .int .u64 ge, .int .i64 fr, .int .i64 lf, .int .i64 du, .int .i64 tl, .slice ac lc cc, .int .u64 nt, .int .i64 de] 28 (0, 0)) ∧ Below w.heap.size w W ∧ Us W a n xs ∧ Us W a' n' ys ∧ Us W ac lc xs ∧ CRow W ac lc (w.heap.size + 2)) W → Calls Try.prog 14 #[.agg #[.int .i64 cd, .int .i64 tm, .int .u64 id, .int .i64 cn, .int .i64 st, .int .i64 lv, .int .u64 ge, .int .i64 fr, .int .i64 lf, .int .i64 du, .int .i64 tl, .slice a n ca, .int .u64 nt, .int .i64 de]] W fun e w' => e = .returned (.bool zs) ∧ Below W.heap.size W w') := Lib.hid (fun W ⟨k1, k2, k3, k4, k5, k6, k7, k8⟩ => by rw [← HZS.out]; exact rsound19 cd tm id cn st lv ge fr lf du tl a n ca nt de W HFR.out)
  have HC3 : Hid (∀ W, (fun W => W.heap[w.heap.size]? = some (.cells #[.int .i64 cd, .int .i64 tm, .int .u64 id, .int .i64 cn, .int .i64 st, .int .i64 lv, .int .u64 ge, .int .i64 fr, .int .i64 lf, .int .i64 du, .int .i64 tl, .slice a n ca, .int .u64 nt, .int .i64 de] 28 (0, 0)) ∧ W.heap[w.heap.size + 1]? = some (.cells #[.int .i64 cd', .int .i64 tm', .int .u64 id', .int .i64 cn', .int .i64 st', .int .i64 lv', .int .u64 ge', .int .i64 fr', .int .i64 lf', .int .i64 du', .int .i64 tl', .slice a' n' ca', .int .u64 nt', .int .i64 de'] 28 (0, 0)) ∧ W.heap[g]? = some (.cells #[.int .i64 cd, .int .i64 tm, .int .u64 id, .int .i64 cn, .int .i64 st, .int .i64 lv, .int .u64 ge, .int .i64 fr, .int .i64 lf, .int .i64 du, .int .i64 tl, .slice ac lc cc, .int .u64 nt, .int .i64 de] 28 (0, 0)) ∧ Below w.heap.size w W ∧ Us W a n xs ∧ Us W a' n' ys ∧ Us W ac lc xs ∧ CRow W ac lc (w.heap.size + 2)) W → Calls Try.prog 15 #[.agg #[.int .i64 cd, .int .i64 tm, .int .u64 id, .int .i64 cn, .int .i64 st, .int .i64 lv, .int .u64 ge, .int .i64 fr, .int .i64 lf, .int .i64 du, .int .i64 tl, .slice a n ca, .int .u64 nt, .int .i64 de]] W fun e w' => e = .returned (.bool zs) ∧ Below W.heap.size W w') := Lib.hid (fun W ⟨k1, k2, k3, k4, k5, k6, k7, k8⟩ => by rw [← HZS.out]; exact rrsound19 cd tm id cn st lv ge fr lf du tl a n ca nt de W)
  have HC4 : Hid (∀ W, (fun W => W.heap[w.heap.size]? = some (.cells #[.int .i64 cd, .int .i64 tm, .int .u64 id, .int .i64 cn, .int .i64 st, .int .i64 lv, .int .u64 ge, .int .i64 fr, .int .i64 lf, .int .i64 du, .int .i64 tl, .slice a n ca, .int .u64 nt, .int .i64 de] 28 (0, 0)) ∧ W.heap[w.heap.size + 1]? = some (.cells #[.int .i64 cd', .int .i64 tm', .int .u64 id', .int .i64 cn', .int .i64 st', .int .i64 lv', .int .u64 ge', .int .i64 fr', .int .i64 lf', .int .i64 du', .int .i64 tl', .slice a' n' ca', .int .u64 nt', .int .i64 de'] 28 (0, 0)) ∧ W.heap[g]? = some (.cells #[.int .i64 cd, .int .i64 tm, .int .u64 id, .int .i64 cn, .int .i64 st, .int .i64 lv, .int .u64 ge, .int .i64 fr, .int .i64 lf, .int .i64 du, .int .i64 tl, .slice ac lc cc, .int .u64 nt, .int .i64 de] 28 (0, 0)) ∧ Below w.heap.size w W ∧ Us W a n xs ∧ Us W a' n' ys ∧ Us W ac lc xs ∧ CRow W ac lc (w.heap.size + 2)) W → Calls Try.prog 16 #[.agg #[.int .i64 cd, .int .i64 tm, .int .u64 id, .int .i64 cn, .int .i64 st, .int .i64 lv, .int .u64 ge, .int .i64 fr, .int .i64 lf, .int .i64 du, .int .i64 tl, .slice a n ca, .int .u64 nt, .int .i64 de], .agg #[.int .i64 cd', .int .i64 tm', .int .u64 id', .int .i64 cn', .int .i64 st', .int .i64 lv', .int .u64 ge', .int .i64 fr', .int .i64 lf', .int .i64 du', .int .i64 tl', .slice a' n' ca', .int .u64 nt', .int .i64 de']] W fun e w' => e = .returned (.bool ze) ∧ Below W.heap.size W w') := Lib.hid (fun W ⟨k1, k2, k3, k4, k5, k6, k7, k8⟩ => by rw [← HZE.out]; exact rep_same cd tm id cn st lv ge fr lf du tl a n ca nt de xs cd' tm' id' cn' st' lv' ge' fr' lf' du' tl' a' n' ca' nt' de' ys W k5 k6)
  have HC5 : Hid (∀ W, (fun W => W.heap[w.heap.size]? = some (.cells #[.int .i64 cd, .int .i64 tm, .int .u64 id, .int .i64 cn, .int .i64 st, .int .i64 lv, .int .u64 ge, .int .i64 fr, .int .i64 lf, .int .i64 du, .int .i64 tl, .slice a n ca, .int .u64 nt, .int .i64 de] 28 (0, 0)) ∧ W.heap[w.heap.size + 1]? = some (.cells #[.int .i64 cd', .int .i64 tm', .int .u64 id', .int .i64 cn', .int .i64 st', .int .i64 lv', .int .u64 ge', .int .i64 fr', .int .i64 lf', .int .i64 du', .int .i64 tl', .slice a' n' ca', .int .u64 nt', .int .i64 de'] 28 (0, 0)) ∧ W.heap[g]? = some (.cells #[.int .i64 cd, .int .i64 tm, .int .u64 id, .int .i64 cn, .int .i64 st, .int .i64 lv, .int .u64 ge, .int .i64 fr, .int .i64 lf, .int .i64 du, .int .i64 tl, .slice ac lc cc, .int .u64 nt, .int .i64 de] 28 (0, 0)) ∧ Below w.heap.size w W ∧ Us W a n xs ∧ Us W a' n' ys ∧ Us W ac lc xs ∧ CRow W ac lc (w.heap.size + 2)) W → Calls Try.prog 13 #[.agg #[.int .i64 cd, .int .i64 tm, .int .u64 id, .int .i64 cn, .int .i64 st, .int .i64 lv, .int .u64 ge, .int .i64 fr, .int .i64 lf, .int .i64 du, .int .i64 tl, .slice a n ca, .int .u64 nt, .int .i64 de], .agg #[.int .i64 cd', .int .i64 tm', .int .u64 id', .int .i64 cn', .int .i64 st', .int .i64 lv', .int .u64 ge', .int .i64 fr', .int .i64 lf', .int .i64 du', .int .i64 tl', .slice a' n' ca', .int .u64 nt', .int .i64 de']] W fun e w' => e = .returned (.bool ze) ∧ Below W.heap.size W w') := Lib.hid (fun W ⟨k1, k2, k3, k4, k5, k6, k7, k8⟩ => by rw [← HZE.out]; exact rrep_same cd tm id cn st lv ge fr lf du tl a n ca nt de xs cd' tm' id' cn' st' lv' ge' fr' lf' du' tl' a' n' ca' nt' de' ys W k5 k6)
  have HC6 : Hid (∀ W, (fun W => W.heap[w.heap.size]? = some (.cells #[.int .i64 cd, .int .i64 tm, .int .u64 id, .int .i64 cn, .int .i64 st, .int .i64 lv, .int .u64 ge, .int .i64 fr, .int .i64 lf, .int .i64 du, .int .i64 tl, .slice a n ca, .int .u64 nt, .int .i64 de] 28 (0, 0)) ∧ W.heap[w.heap.size + 1]? = some (.cells #[.int .i64 cd', .int .i64 tm', .int .u64 id', .int .i64 cn', .int .i64 st', .int .i64 lv', .int .u64 ge', .int .i64 fr', .int .i64 lf', .int .i64 du', .int .i64 tl', .slice a' n' ca', .int .u64 nt', .int .i64 de'] 28 (0, 0)) ∧ W.heap[g]? = some (.cells #[.int .i64 cd, .int .i64 tm, .int .u64 id, .int .i64 cn, .int .i64 st, .int .i64 lv, .int .u64 ge, .int .i64 fr, .int .i64 lf, .int .i64 du, .int .i64 tl, .slice ac lc cc, .int .u64 nt, .int .i64 de] 28 (0, 0)) ∧ Below w.heap.size w W ∧ Us W a n xs ∧ Us W a' n' ys ∧ Us W ac lc xs ∧ CRow W ac lc (w.heap.size + 2)) W → Calls Try.prog 16 #[.agg #[.int .i64 cd, .int .i64 tm, .int .u64 id, .int .i64 cn, .int .i64 st, .int .i64 lv, .int .u64 ge, .int .i64 fr, .int .i64 lf, .int .i64 du, .int .i64 tl, .slice a n ca, .int .u64 nt, .int .i64 de], .agg #[.int .i64 cd, .int .i64 tm, .int .u64 id, .int .i64 cn, .int .i64 st, .int .i64 lv, .int .u64 ge, .int .i64 fr, .int .i64 lf, .int .i64 du, .int .i64 tl, .slice a n ca, .int .u64 nt, .int .i64 de]] W fun e w' => e = .returned (.bool true) ∧ Below W.heap.size W w') := Lib.hid (fun W ⟨k1, k2, k3, k4, k5, k6, k7, k8⟩ => by
      have h := rep_same cd tm id cn st lv ge fr lf du tl a n ca nt de xs cd tm id cn st lv ge fr lf du tl a n ca nt de xs W k5 k5
      rw [repEq_refl] at h
      exact h)
  have hz1 : (zs != zs) = false := by cases zs <;> rfl
  have hz2 : (ze != ze) = false := by cases ze <;> rfl
  have HS0' := Lib.hid (HSD.out _ HS0.out V3.drew (Below.refl _ _).drew)
  clear HS0
  have HS0 := HS0'
  clear HS0'
  have HLA := Lib.hid (yields_rep (S := fun W => W.heap[w.heap.size]? = some (.cells #[.int .i64 cd, .int .i64 tm, .int .u64 id, .int .i64 cn, .int .i64 st, .int .i64 lv, .int .u64 ge, .int .i64 fr, .int .i64 lf, .int .i64 du, .int .i64 tl, .slice a n ca, .int .u64 nt, .int .i64 de] 28 (0, 0)) ∧ W.heap[w.heap.size + 1]? = some (.cells #[.int .i64 cd', .int .i64 tm', .int .u64 id', .int .i64 cn', .int .i64 st', .int .i64 lv', .int .u64 ge', .int .i64 fr', .int .i64 lf', .int .i64 du', .int .i64 tl', .slice a' n' ca', .int .u64 nt', .int .i64 de'] 28 (0, 0)) ∧ W.heap[g]? = some (.cells #[.int .i64 cd, .int .i64 tm, .int .u64 id, .int .i64 cn, .int .i64 st, .int .i64 lv, .int .u64 ge, .int .i64 fr, .int .i64 lf, .int .i64 du, .int .i64 tl, .slice ac lc cc, .int .u64 nt, .int .i64 de] 28 (0, 0)) ∧ Below w.heap.size w W ∧ Us W a n xs ∧ Us W a' n' ys ∧ Us W ac lc xs ∧ CRow W ac lc (w.heap.size + 2)) (T := w.heap.size) (fun W h => h.1))
  have HLB := Lib.hid (yields_rep (S := fun W => W.heap[w.heap.size]? = some (.cells #[.int .i64 cd, .int .i64 tm, .int .u64 id, .int .i64 cn, .int .i64 st, .int .i64 lv, .int .u64 ge, .int .i64 fr, .int .i64 lf, .int .i64 du, .int .i64 tl, .slice a n ca, .int .u64 nt, .int .i64 de] 28 (0, 0)) ∧ W.heap[w.heap.size + 1]? = some (.cells #[.int .i64 cd', .int .i64 tm', .int .u64 id', .int .i64 cn', .int .i64 st', .int .i64 lv', .int .u64 ge', .int .i64 fr', .int .i64 lf', .int .i64 du', .int .i64 tl', .slice a' n' ca', .int .u64 nt', .int .i64 de'] 28 (0, 0)) ∧ W.heap[g]? = some (.cells #[.int .i64 cd, .int .i64 tm, .int .u64 id, .int .i64 cn, .int .i64 st, .int .i64 lv, .int .u64 ge, .int .i64 fr, .int .i64 lf, .int .i64 du, .int .i64 tl, .slice ac lc cc, .int .u64 nt, .int .i64 de] 28 (0, 0)) ∧ Below w.heap.size w W ∧ Us W a n xs ∧ Us W a' n' ys ∧ Us W ac lc xs ∧ CRow W ac lc (w.heap.size + 2)) (T := w.heap.size + 1) (fun W h => h.2.1))
  have HLC := Lib.hid (yields_rep (S := fun W => W.heap[w.heap.size]? = some (.cells #[.int .i64 cd, .int .i64 tm, .int .u64 id, .int .i64 cn, .int .i64 st, .int .i64 lv, .int .u64 ge, .int .i64 fr, .int .i64 lf, .int .i64 du, .int .i64 tl, .slice a n ca, .int .u64 nt, .int .i64 de] 28 (0, 0)) ∧ W.heap[w.heap.size + 1]? = some (.cells #[.int .i64 cd', .int .i64 tm', .int .u64 id', .int .i64 cn', .int .i64 st', .int .i64 lv', .int .u64 ge', .int .i64 fr', .int .i64 lf', .int .i64 du', .int .i64 tl', .slice a' n' ca', .int .u64 nt', .int .i64 de'] 28 (0, 0)) ∧ W.heap[g]? = some (.cells #[.int .i64 cd, .int .i64 tm, .int .u64 id, .int .i64 cn, .int .i64 st, .int .i64 lv, .int .u64 ge, .int .i64 fr, .int .i64 lf, .int .i64 du, .int .i64 tl, .slice ac lc cc, .int .u64 nt, .int .i64 de] 28 (0, 0)) ∧ Below w.heap.size w W ∧ Us W a n xs ∧ Us W a' n' ys ∧ Us W ac lc xs ∧ CRow W ac lc (w.heap.size + 2)) (T := g) (fun W h => h.2.2.1))
  generalize hS : (fun W : World => W.heap[w.heap.size]? = some (.cells #[.int .i64 cd, .int .i64 tm, .int .u64 id, .int .i64 cn, .int .i64 st, .int .i64 lv, .int .u64 ge, .int .i64 fr, .int .i64 lf, .int .i64 du, .int .i64 tl, .slice a n ca, .int .u64 nt, .int .i64 de] 28 (0, 0)) ∧ W.heap[w.heap.size + 1]? = some (.cells #[.int .i64 cd', .int .i64 tm', .int .u64 id', .int .i64 cn', .int .i64 st', .int .i64 lv', .int .u64 ge', .int .i64 fr', .int .i64 lf', .int .i64 du', .int .i64 tl', .slice a' n' ca', .int .u64 nt', .int .i64 de'] 28 (0, 0)) ∧ W.heap[g]? = some (.cells #[.int .i64 cd, .int .i64 tm, .int .u64 id, .int .i64 cn, .int .i64 st, .int .i64 lv, .int .u64 ge, .int .i64 fr, .int .i64 lf, .int .i64 du, .int .i64 tl, .slice ac lc cc, .int .u64 nt, .int .i64 de] 28 (0, 0)) ∧ Below w.heap.size w W ∧ Us W a n xs ∧ Us W a' n' ys ∧ Us W ac lc xs ∧ CRow W ac lc (w.heap.size + 2)) = S at HS0 HSD HC1 HC2 HC3 HC4 HC5 HC6 HLA HLB HLC
  have HSE := Lib.hid hS
  clear hS
  generalize hA : Value.agg #[.int .i64 cd, .int .i64 tm, .int .u64 id, .int .i64 cn, .int .i64 st, .int .i64 lv, .int .u64 ge, .int .i64 fr, .int .i64 lf, .int .i64 du, .int .i64 tl, .slice a n ca, .int .u64 nt, .int .i64 de] = VA at HC1 HC2 HC3 HC4 HC5 HC6 HLA HLB HLC ⊢
  generalize hB : Value.agg #[.int .i64 cd', .int .i64 tm', .int .u64 id', .int .i64 cn', .int .i64 st', .int .i64 lv', .int .u64 ge', .int .i64 fr', .int .i64 lf', .int .i64 du', .int .i64 tl', .slice a' n' ca', .int .u64 nt', .int .i64 de'] = VB at HC1 HC2 HC3 HC4 HC5 HC6 HLA HLB HLC ⊢
  generalize hC : Value.agg #[.int .i64 cd, .int .i64 tm, .int .u64 id, .int .i64 cn, .int .i64 st, .int .i64 lv, .int .u64 ge, .int .i64 fr, .int .i64 lf, .int .i64 du, .int .i64 tl, .slice ac lc cc, .int .u64 nt, .int .i64 de] = VC at HC1 HC2 HC3 HC4 HC5 HC6 HLA HLB HLC ⊢
  have HVA := Lib.hid hA
  have HVB := Lib.hid hB
  have HVC := Lib.hid hC
  clear hA hB hC
  refine wp_region_held_drew (S := S) (by kernel_rfl) HS0.out (fun hHeld => ?_)
  clear hHeld
  generalize V3.drew = V4 at HS0 ⊢
  refine wpAnyH_take (i := 0) (oi := { dst := some 22, op := Go.Op.load 28 (Go.Operand.tmp 7), type := 28, pos := "law.go:28", after := #[], guard := none }) (v := VC) rfl (by kernel_rfl) (by kernel_rfl) (by kernel_rfl) (fun _ _ _ h => h) (HLC.out _ _ _ (by rfl) _ rfl rfl) (HS0.out) ?_
  try simp only [Act.put, List.setIfInBounds_toArray, List.set_cons_zero, List.set_cons_succ]
  refine wpAnyH_take (i := 1) (oi := { dst := some 23, op := Go.Op.load 28 (Go.Operand.tmp 3), type := 28, pos := "law.go:28", after := #[], guard := none }) (v := VA) rfl (by kernel_rfl) (by kernel_rfl) (by kernel_rfl) (fun _ _ _ h => h) (HLA.out _ _ _ (by rfl) _ rfl rfl) (HS0.out) ?_
  try simp only [Act.put, List.setIfInBounds_toArray, List.set_cons_zero, List.set_cons_succ]
  refine wpAnyH_ready (rs := [2]) (by kernel_rfl) (by simp) ?_
  refine AllReadyH.cons (o := { dst := some 24, op := Go.Op.call { callee := Go.Callee.value (Go.Operand.func 13), args := #[Go.Operand.tmp 22, Go.Operand.tmp 23], argTypes := #[28, 28] }, type := 4, pos := "law.go:28", after := #[{ on := 0, ground := Go.Ground.data }, { on := 1, ground := Go.Ground.data }], guard := none }) rfl (fun K hK => ?_) AllReadyH.nil
  go_simp
  refine (HC1.out _ HS0.out).mono ?_
  rintro e V21 ⟨rfl, hb⟩
  have HS0' := Lib.hid (HSD.out _ HS0.out V21 hb)
  clear hb
  clear HS0
  have HS0 := HS0'
  clear HS0'
  refine hK.out _ _ HS0.out (fun hHeld => ?_)
  clear hK K hHeld
  try simp only [Act.put, List.setIfInBounds_toArray, List.set_cons_zero, List.set_cons_succ]
  refine wpAnyH_take (i := 3) (oi := { dst := some 25, op := Go.Op.unOp Go.UnOp.not 4 (Go.Operand.tmp 24), type := 4, pos := "law.go:28", after := #[{ on := 2, ground := Go.Ground.data }], guard := none }) (v := ?_) rfl (by kernel_rfl) (by kernel_rfl) (by kernel_rfl) (fun _ _ _ h => h) (Or.inl ⟨by rfl, ?_⟩) (HS0.out) ?_
  case refine_2 => (intro w1 hS1; clear hS1; go_simp; try with_reducible rfl)
  try simp only [Act.put, List.setIfInBounds_toArray, List.set_cons_zero, List.set_cons_succ]
  refine wpAnyH_take (i := 4) (oi := { dst := some 26, op := Go.Op.move (Go.Operand.tmp 25), type := 4, pos := "law.go:28", after := #[{ on := 3, ground := Go.Ground.data }, { on := 2, ground := Go.Ground.chain }], guard := none }) (v := ?_) rfl (by kernel_rfl) (by kernel_rfl) (by kernel_rfl) (fun _ _ _ h => h) (Or.inl ⟨by rfl, ?_⟩) (HS0.out) ?_
  case refine_2 => (intro w1 hS1; clear hS1; go_simp; try with_reducible rfl)
  try simp only [Act.put, List.setIfInBounds_toArray, List.set_cons_zero, List.set_cons_succ]
  refine wpAnyH_take (i := 5) (oi := { dst := some 27, op := Go.Op.load 28 (Go.Operand.tmp 3), type := 28, pos := "law.go:28", after := #[{ on := 4, ground := Go.Ground.guard }], guard := some (4, false) }) (v := VA) rfl (by kernel_rfl) (by kernel_rfl) (by kernel_rfl) (fun _ _ _ h => h) (HLA.out _ _ _ (by rfl) _ rfl rfl) (HS0.out) ?_
  try simp only [Act.put, List.setIfInBounds_toArray, List.set_cons_zero, List.set_cons_succ]
  refine wpAnyH_take (i := 7) (oi := { dst := some 29, op := Go.Op.load 28 (Go.Operand.tmp 3), type := 28, pos := "law.go:28", after := #[{ on := 4, ground := Go.Ground.guard }], guard := some (4, false) }) (v := VA) rfl (by kernel_rfl) (by kernel_rfl) (by kernel_rfl) (fun _ _ _ h => h) (HLA.out _ _ _ (by rfl) _ rfl rfl) (HS0.out) ?_
  try simp only [Act.put, List.setIfInBounds_toArray, List.set_cons_zero, List.set_cons_succ]
  refine wpAnyH_ready (rs := [6]) (by kernel_rfl) (by simp) ?_
  refine AllReadyH.cons (o := { dst := some 28, op := Go.Op.call { callee := Go.Callee.value (Go.Operand.func 14), args := #[Go.Operand.tmp 27], argTypes := #[28] }, type := 4, pos := "law.go:28", after := #[{ on := 5, ground := Go.Ground.data }, { on := 4, ground := Go.Ground.chain }, { on := 4, ground := Go.Ground.guard }], guard := some (4, false) }) rfl (fun K hK => ?_) AllReadyH.nil
  go_simp
  refine (HC2.out _ HS0.out).mono ?_
  rintro e V22 ⟨rfl, hb⟩
  have HS0' := Lib.hid (HSD.out _ HS0.out V22 hb)
  clear hb
  clear HS0
  have HS0 := HS0'
  clear HS0'
  refine hK.out _ _ HS0.out (fun hHeld => ?_)
  clear hK K hHeld
  try simp only [Act.put, List.setIfInBounds_toArray, List.set_cons_zero, List.set_cons_succ]
  refine wpAnyH_ready (rs := [8]) (by kernel_rfl) (by simp) ?_
  refine AllReadyH.cons (o := { dst := some 30, op := Go.Op.call { callee := Go.Callee.value (Go.Operand.func 15), args := #[Go.Operand.tmp 29], argTypes := #[28] }, type := 4, pos := "law.go:28", after := #[{ on := 7, ground := Go.Ground.data }, { on := 6, ground := Go.Ground.chain }, { on := 4, ground := Go.Ground.guard }], guard := some (4, false) }) rfl (fun K hK => ?_) AllReadyH.nil
  go_simp
  refine (HC3.out _ HS0.out).mono ?_
  rintro e V23 ⟨rfl, hb⟩
  have HS0' := Lib.hid (HSD.out _ HS0.out V23 hb)
  clear hb
  clear HS0
  have HS0 := HS0'
  clear HS0'
  refine hK.out _ _ HS0.out (fun hHeld => ?_)
  clear hK K hHeld
  try simp only [Act.put, List.setIfInBounds_toArray, List.set_cons_zero, List.set_cons_succ]
  refine wpAnyH_take (i := 9) (oi := { dst := some 31, op := Go.Op.binOp Go.BinOp.neq 4 (Go.Operand.tmp 28) (Go.Operand.tmp 30) 4, type := 4, pos := "law.go:28", after := #[{ on := 6, ground := Go.Ground.data }, { on := 8, ground := Go.Ground.data }, { on := 4, ground := Go.Ground.guard }], guard := some (4, false) }) (v := ?_) rfl (by kernel_rfl) (by kernel_rfl) (by kernel_rfl) (fun _ _ _ h => h) (Or.inl ⟨by rfl, ?_⟩) (HS0.out) ?_
  case refine_2 => (intro w1 hS1; clear hS1; go_simp; try with_reducible rfl)
  try simp only [Act.put, List.setIfInBounds_toArray, List.set_cons_zero, List.set_cons_succ]
  refine wpAnyH_take (i := 10) (oi := { dst := some 32, op := Go.Op.pick (Go.Operand.tmp 26) (Go.Operand.const (Go.Value.bool true)) (Go.Operand.tmp 31), type := 4, pos := "law.go:28", after := #[{ on := 4, ground := Go.Ground.data }, { on := 9, ground := Go.Ground.data }], guard := none }) (v := ?_) rfl (by kernel_rfl) (by kernel_rfl) (by kernel_rfl) (fun _ _ _ h => h) (Or.inl ⟨by rfl, ?_⟩) (HS0.out) ?_
  case refine_2 => (intro w1 hS1; clear hS1; go_simp; try with_reducible rfl)
  try simp only [Act.put, List.setIfInBounds_toArray, List.set_cons_zero, List.set_cons_succ]
  refine wpAnyH_take (i := 11) (oi := { dst := some 33, op := Go.Op.move (Go.Operand.tmp 32), type := 4, pos := "law.go:28", after := #[{ on := 10, ground := Go.Ground.data }, { on := 8, ground := Go.Ground.chain }], guard := none }) (v := ?_) rfl (by kernel_rfl) (by kernel_rfl) (by kernel_rfl) (fun _ _ _ h => h) (Or.inl ⟨by rfl, ?_⟩) (HS0.out) ?_
  case refine_2 => (intro w1 hS1; clear hS1; go_simp; try with_reducible rfl)
  try simp only [Act.put, List.setIfInBounds_toArray, List.set_cons_zero, List.set_cons_succ]
  refine wpAnyH_take (i := 12) (oi := { dst := some 34, op := Go.Op.load 28 (Go.Operand.tmp 3), type := 28, pos := "law.go:28", after := #[{ on := 11, ground := Go.Ground.guard }], guard := some (11, false) }) (v := VA) rfl (by kernel_rfl) (by kernel_rfl) (by kernel_rfl) (fun _ _ _ h => h) (HLA.out _ _ _ (by rfl) _ rfl rfl) (HS0.out) ?_
  try simp only [Act.put, List.setIfInBounds_toArray, List.set_cons_zero, List.set_cons_succ]
  refine wpAnyH_take (i := 13) (oi := { dst := some 35, op := Go.Op.load 28 (Go.Operand.tmp 4), type := 28, pos := "law.go:28", after := #[{ on := 11, ground := Go.Ground.guard }], guard := some (11, false) }) (v := VB) rfl (by kernel_rfl) (by kernel_rfl) (by kernel_rfl) (fun _ _ _ h => h) (HLB.out _ _ _ (by rfl) _ rfl rfl) (HS0.out) ?_
  try simp only [Act.put, List.setIfInBounds_toArray, List.set_cons_zero, List.set_cons_succ]
  refine wpAnyH_take (i := 15) (oi := { dst := some 37, op := Go.Op.load 28 (Go.Operand.tmp 3), type := 28, pos := "law.go:28", after := #[{ on := 11, ground := Go.Ground.guard }], guard := some (11, false) }) (v := VA) rfl (by kernel_rfl) (by kernel_rfl) (by kernel_rfl) (fun _ _ _ h => h) (HLA.out _ _ _ (by rfl) _ rfl rfl) (HS0.out) ?_
  try simp only [Act.put, List.setIfInBounds_toArray, List.set_cons_zero, List.set_cons_succ]
  refine wpAnyH_take (i := 16) (oi := { dst := some 38, op := Go.Op.load 28 (Go.Operand.tmp 4), type := 28, pos := "law.go:28", after := #[{ on := 11, ground := Go.Ground.guard }], guard := some (11, false) }) (v := VB) rfl (by kernel_rfl) (by kernel_rfl) (by kernel_rfl) (fun _ _ _ h => h) (HLB.out _ _ _ (by rfl) _ rfl rfl) (HS0.out) ?_
  try simp only [Act.put, List.setIfInBounds_toArray, List.set_cons_zero, List.set_cons_succ]
  refine wpAnyH_ready (rs := [14]) (by kernel_rfl) (by simp) ?_
  refine AllReadyH.cons (o := { dst := some 36, op := Go.Op.call { callee := Go.Callee.value (Go.Operand.func 16), args := #[Go.Operand.tmp 34, Go.Operand.tmp 35], argTypes := #[28, 28] }, type := 4, pos := "law.go:28", after := #[{ on := 12, ground := Go.Ground.data }, { on := 13, ground := Go.Ground.data }, { on := 11, ground := Go.Ground.chain }, { on := 11, ground := Go.Ground.guard }], guard := some (11, false) }) rfl (fun K hK => ?_) AllReadyH.nil
  go_simp
  refine (HC4.out _ HS0.out).mono ?_
  rintro e V24 ⟨rfl, hb⟩
  have HS0' := Lib.hid (HSD.out _ HS0.out V24 hb)
  clear hb
  clear HS0
  have HS0 := HS0'
  clear HS0'
  refine hK.out _ _ HS0.out (fun hHeld => ?_)
  clear hK K hHeld
  try simp only [Act.put, List.setIfInBounds_toArray, List.set_cons_zero, List.set_cons_succ]
  refine wpAnyH_ready (rs := [17]) (by kernel_rfl) (by simp) ?_
  refine AllReadyH.cons (o := { dst := some 39, op := Go.Op.call { callee := Go.Callee.value (Go.Operand.func 13), args := #[Go.Operand.tmp 37, Go.Operand.tmp 38], argTypes := #[28, 28] }, type := 4, pos := "law.go:28", after := #[{ on := 15, ground := Go.Ground.data }, { on := 16, ground := Go.Ground.data }, { on := 14, ground := Go.Ground.chain }, { on := 11, ground := Go.Ground.guard }], guard := some (11, false) }) rfl (fun K hK => ?_) AllReadyH.nil
  go_simp
  refine (HC5.out _ HS0.out).mono ?_
  rintro e V25 ⟨rfl, hb⟩
  have HS0' := Lib.hid (HSD.out _ HS0.out V25 hb)
  clear hb
  clear HS0
  have HS0 := HS0'
  clear HS0'
  refine hK.out _ _ HS0.out (fun hHeld => ?_)
  clear hK K hHeld
  try simp only [Act.put, List.setIfInBounds_toArray, List.set_cons_zero, List.set_cons_succ]
  refine wpAnyH_take (i := 18) (oi := { dst := some 40, op := Go.Op.binOp Go.BinOp.neq 4 (Go.Operand.tmp 36) (Go.Operand.tmp 39) 4, type := 4, pos := "law.go:28", after := #[{ on := 14, ground := Go.Ground.data }, { on := 17, ground := Go.Ground.data }, { on := 11, ground := Go.Ground.guard }], guard := some (11, false) }) (v := ?_) rfl (by kernel_rfl) (by kernel_rfl) (by kernel_rfl) (fun _ _ _ h => h) (Or.inl ⟨by rfl, ?_⟩) (HS0.out) ?_
  case refine_2 => (intro w1 hS1; clear hS1; go_simp; try with_reducible rfl)
  try simp only [Act.put, List.setIfInBounds_toArray, List.set_cons_zero, List.set_cons_succ]
  refine wpAnyH_take (i := 19) (oi := { dst := some 41, op := Go.Op.pick (Go.Operand.tmp 33) (Go.Operand.const (Go.Value.bool true)) (Go.Operand.tmp 40), type := 4, pos := "law.go:28", after := #[{ on := 11, ground := Go.Ground.data }, { on := 18, ground := Go.Ground.data }], guard := none }) (v := ?_) rfl (by kernel_rfl) (by kernel_rfl) (by kernel_rfl) (fun _ _ _ h => h) (Or.inl ⟨by rfl, ?_⟩) (HS0.out) ?_
  case refine_2 => (intro w1 hS1; clear hS1; go_simp; try with_reducible rfl)
  try simp only [Act.put, List.setIfInBounds_toArray, List.set_cons_zero, List.set_cons_succ]
  refine wpAnyH_take (i := 20) (oi := { dst := some 42, op := Go.Op.move (Go.Operand.tmp 41), type := 4, pos := "law.go:28", after := #[{ on := 19, ground := Go.Ground.data }, { on := 17, ground := Go.Ground.chain }], guard := none }) (v := ?_) rfl (by kernel_rfl) (by kernel_rfl) (by kernel_rfl) (fun _ _ _ h => h) (Or.inl ⟨by rfl, ?_⟩) (HS0.out) ?_
  case refine_2 => (intro w1 hS1; clear hS1; go_simp; try with_reducible rfl)
  try simp only [Act.put, List.setIfInBounds_toArray, List.set_cons_zero, List.set_cons_succ]
  refine wpAnyH_take (i := 21) (oi := { dst := some 43, op := Go.Op.load 28 (Go.Operand.tmp 3), type := 28, pos := "law.go:28", after := #[{ on := 20, ground := Go.Ground.guard }], guard := some (20, false) }) (v := VA) rfl (by kernel_rfl) (by kernel_rfl) (by kernel_rfl) (fun _ _ _ h => h) (HLA.out _ _ _ (by rfl) _ rfl rfl) (HS0.out) ?_
  try simp only [Act.put, List.setIfInBounds_toArray, List.set_cons_zero, List.set_cons_succ]
  refine wpAnyH_take (i := 22) (oi := { dst := some 44, op := Go.Op.load 28 (Go.Operand.tmp 3), type := 28, pos := "law.go:28", after := #[{ on := 20, ground := Go.Ground.guard }], guard := some (20, false) }) (v := VA) rfl (by kernel_rfl) (by kernel_rfl) (by kernel_rfl) (fun _ _ _ h => h) (HLA.out _ _ _ (by rfl) _ rfl rfl) (HS0.out) ?_
  try simp only [Act.put, List.setIfInBounds_toArray, List.set_cons_zero, List.set_cons_succ]
  refine wpAnyH_ready (rs := [23]) (by kernel_rfl) (by simp) ?_
  refine AllReadyH.cons (o := { dst := some 45, op := Go.Op.call { callee := Go.Callee.value (Go.Operand.func 16), args := #[Go.Operand.tmp 43, Go.Operand.tmp 44], argTypes := #[28, 28] }, type := 4, pos := "law.go:28", after := #[{ on := 21, ground := Go.Ground.data }, { on := 22, ground := Go.Ground.data }, { on := 20, ground := Go.Ground.chain }, { on := 20, ground := Go.Ground.guard }], guard := some (20, false) }) rfl (fun K hK => ?_) AllReadyH.nil
  go_simp
  refine (HC6.out _ HS0.out).mono ?_
  rintro e V26 ⟨rfl, hb⟩
  have HS0' := Lib.hid (HSD.out _ HS0.out V26 hb)
  clear hb
  clear HS0
  have HS0 := HS0'
  clear HS0'
  refine hK.out _ _ HS0.out (fun hHeld => ?_)
  clear hK K hHeld
  try simp only [Act.put, List.setIfInBounds_toArray, List.set_cons_zero, List.set_cons_succ]
  refine wpAnyH_take (i := 24) (oi := { dst := some 46, op := Go.Op.unOp Go.UnOp.not 4 (Go.Operand.tmp 45), type := 4, pos := "law.go:28", after := #[{ on := 23, ground := Go.Ground.data }, { on := 20, ground := Go.Ground.guard }], guard := some (20, false) }) (v := ?_) rfl (by kernel_rfl) (by kernel_rfl) (by kernel_rfl) (fun _ _ _ h => h) (Or.inl ⟨by rfl, ?_⟩) (HS0.out) ?_
  case refine_2 => (intro w1 hS1; clear hS1; go_simp; try with_reducible rfl)
  try simp only [Act.put, List.setIfInBounds_toArray, List.set_cons_zero, List.set_cons_succ]
  refine wpAnyH_take (i := 25) (oi := { dst := some 47, op := Go.Op.pick (Go.Operand.tmp 42) (Go.Operand.const (Go.Value.bool true)) (Go.Operand.tmp 46), type := 4, pos := "law.go:28", after := #[{ on := 20, ground := Go.Ground.data }, { on := 24, ground := Go.Ground.data }], guard := none }) (v := ?_) rfl (by kernel_rfl) (by kernel_rfl) (by kernel_rfl) (fun _ _ _ h => h) (Or.inl ⟨by rfl, ?_⟩) (HS0.out) ?_
  case refine_2 => (intro w1 hS1; clear hS1; go_simp; try with_reducible rfl)
  try simp only [Act.put, List.setIfInBounds_toArray, List.set_cons_zero, List.set_cons_succ]
  refine wpAnyH_done (by kernel_rfl) ?_ _
  have hS := HSE.out
  subst hS
  clear HSE HVA HVB HVC HLA HLB HLC
  clear HC1 HC2 HC3 HC4 HC5 HC6 HL1 HL2 HCP HZS HZE hz1 hz2
  cases a with
  | none =>
    obtain ⟨rfl, rfl⟩ := us_none HS0.out.2.2.2.2.1
    obtain rfl := HCA.out rfl
    obtain ⟨i0, hi, hz0, hz1, hz2⟩ := info_parts nums_info
    obtain ⟨p0, p1, p2, p3, p4, p5, p6, p7, p8, p9, p10, p11, p12, p13⟩ := rep_at (ex_below HS0.out.2.2.1 ((Below.refl _ V26).alloc (Nat.le_refl _) (.cells #[] 23)))
    obtain ⟨q0, q1, q2, q3, q4, q5, q6, q7, q8, q9, q10, q11, q12, q13⟩ := rep_at (ex_below HS0.out.1 ((Below.refl _ V26).alloc (Nat.le_refl _) (.cells #[] 23)))
    go_wp2_with (at_builtin; refine wpList_append_own_none rfl (.tmp 48) (.tmp 50) 26 rfl V26.heap.size 23 i0 1 Try.underlying26 hi _ _ _ rfl (ou_made V26) rfl ?_)
    have hb5 : Below V26.heap.size V26 (V26.alloc (.cells #[] 23)) := (Below.refl V26.heap.size V26).alloc (Nat.le_refl _) (.cells #[] 23)
    have ho5 := ou_made V26
    obtain ⟨v5, hv5⟩ : ∃ v5 : Value, .slice (some ⟨V26.heap.size, 0, none⟩) 0 0 = v5 := ⟨_, rfl⟩
    rw [hv5] at ho5 ⊢
    generalize V26.alloc (.cells #[] 23) = w5 at hb5 ho5 q0 q1 q2 q3 q4 q5 q6 q7 q8 q9 q10 q11 q12 q13 p0 p1 p2 p3 p4 p5 p6 p7 p8 p9 p10 p11 p12 p13 ⊢
    clear q0 q1 q2 q3 q4 q5 q6 q7 q8 q9 q10 q11 q12 q13 p0 p1 p2 p3 p4 p5 p6 p7 p8 p9 p10 p11 p12 p13 hv5
    obtain ⟨a9, c9, hv9, -, -⟩ := ho5.shape
    obtain ⟨lo, hlo⟩ : ∃ y, ([] : List Nat).length = y := ⟨_, rfl⟩
    rw [hlo] at hv9
    subst hv9
    obtain ⟨B9, hB9⟩ : ∃ y, V26.heap.size = y := ⟨_, rfl⟩
    have HO9 : Hid (OU w5 B9 (.slice a9 lo c9) ([] : List Nat)) := Lib.hid (by rw [← hB9]; exact ho5)
    have HB9 : Hid (g < B9) := Lib.hid (by rw [← hB9]; exact ex_lt HS0.out.2.2.1)
    have HLO : Hid (lo = 0 ∧ ([] : List Nat).length = lo ∧ lo ≤ 200) := Lib.hid ⟨by rw [← hlo]; exact HS0.out.2.2.2.2.1.1, hlo, by rw [← hlo]; have := HS0.out.2.2.2.2.1.1; have := HN.out; omega⟩
    have HLC : Hid (lc ≤ 200) := Lib.hid (by have h1 := HS0.out.2.2.2.2.2.2.1.1; have := HS0.out.2.2.2.2.1.1; have := HN.out; omega)
    have HUA : Hid (∀ W : World, Us W none 0 ([] : List Nat) → ∀ gc, w.heap.size + 2 ≤ gc → ∀ k v, Us (W.setCell ⟨gc, k, none⟩ v) none 0 ([] : List Nat)) := Lib.hid (fun W h gc hgc k v => by
      obtain ⟨h1, h2, h3, h4⟩ := h
      refine ⟨h1, h2, h3, fun i hi => ?_⟩
      obtain ⟨b, off, ha, hlt, hc⟩ := h4 i hi
      have hb := HUB.out b off ha (by omega)
      refine ⟨b, off, ha, by simpa using hlt, ?_⟩
      rw [World.cell?_of_block (Below.heap_setCell _ _ _ _ (by show b ≠ gc; omega))]
      exact hc)
    have HSM : Hid (∀ W, Calls Try.prog 13 #[.agg #[.int .i64 cd, .int .i64 tm, .int .u64 0, .int .i64 0, .int .i64 0, .int .i64 0, .int .u64 0, .int .i64 0, .int .i64 0, .int .i64 0, .int .i64 0, .slice none 0 0, .int .u64 0, .int .i64 0], .agg #[.int .i64 cd, .int .i64 tm, .int .u64 0, .int .i64 0, .int .i64 0, .int .i64 0, .int .u64 0, .int .i64 0, .int .i64 0, .int .i64 0, .int .i64 0, .slice none 0 0, .int .u64 0, .int .i64 0]] W fun e w' => e = .returned (.bool true) ∧ Below W.heap.size W w') := Lib.hid (fun W => by
      have h := rrep_same cd tm 0 0 0 0 0 0 0 0 0 none 0 0 0 0 [] cd tm 0 0 0 0 0 0 0 0 0 none 0 0 0 0 [] W (Us.none W) (Us.none W)
      rw [repEq_refl] at h
      exact h)
    clear ho5 hlo hB9 hi hz0 hz1 hz2
    have HS5 := Lib.hid (show (fun W => W.heap[w.heap.size]? = some (.cells #[.int .i64 cd, .int .i64 tm, .int .u64 id, .int .i64 cn, .int .i64 st, .int .i64 lv, .int .u64 ge, .int .i64 fr, .int .i64 lf, .int .i64 du, .int .i64 tl, .slice none 0 0, .int .u64 nt, .int .i64 de] 28 (0, 0)) ∧ W.heap[g]? = some (.cells #[.int .i64 cd, .int .i64 tm, .int .u64 id, .int .i64 cn, .int .i64 st, .int .i64 lv, .int .u64 ge, .int .i64 fr, .int .i64 lf, .int .i64 du, .int .i64 tl, .slice ac lc cc, .int .u64 nt, .int .i64 de] 28 (0, 0)) ∧ Below w.heap.size w W ∧ Us W (none) 0 ([] : List Nat) ∧ CRow W ac lc (w.heap.size + 2)) w5 from ⟨ex_below HS0.out.1 hb5, ex_below HS0.out.2.2.1 hb5, HS0.out.2.2.2.1.trans (hb5.mono HS0.out.2.2.2.1.size), HS0.out.2.2.2.2.1.kept hb5, HS0.out.2.2.2.2.2.2.2.kept hb5⟩)
    clear hb5 HS0 HSD
    obtain ⟨q0, q1, q2, q3, q4, q5, q6, q7, q8, q9, q10, q11, q12, q13⟩ := rep_at HS5.out.2.1
    clear q0 q1 q2 q3 q4 q5 q6 q7 q8 q9 q10 q11 q12 q13
    go_loopw [55] (fun i wr => ∃ k : Nat, k ≤ lc ∧ i = .int .i64 k ∧ Hid ((fun W => W.heap[w.heap.size]? = some (.cells #[.int .i64 cd, .int .i64 tm, .int .u64 id, .int .i64 cn, .int .i64 st, .int .i64 lv, .int .u64 ge, .int .i64 fr, .int .i64 lf, .int .i64 du, .int .i64 tl, .slice none 0 0, .int .u64 nt, .int .i64 de] 28 (0, 0)) ∧ W.heap[g]? = some (.cells #[.int .i64 cd, .int .i64 tm, .int .u64 id, .int .i64 cn, .int .i64 st, .int .i64 lv, .int .u64 ge, .int .i64 fr, .int .i64 lf, .int .i64 du, .int .i64 tl, .slice ac lc cc, .int .u64 nt, .int .i64 de] 28 (0, 0)) ∧ Below w.heap.size w W ∧ Us W (none) 0 ([] : List Nat) ∧ CRow W ac lc (w.heap.size + 2)) wr) ∧ Hid (OU wr B9 (.slice a9 lo c9) ([] : List Nat))) (fun i _ => lc - (intOf i).toNat)
    case atStart => exact ⟨0, Nat.zero_le _, rfl, HS5, HO9⟩
    case round =>
      clear HS5 HO9
      obtain ⟨k, hk, rfl, HS5, HO9⟩ := hrel
      by_cases hlt : k < lc
      · obtain ⟨gc, hac, hgB, hglt, ⟨cv, hcv⟩, hcf⟩ := HS5.out.2.2.2.2 k hlt
        have hgg := HCG.out gc hac (by omega)
        obtain ⟨k1, k2, k3, k4, k5⟩ := HS5.out
        have HS6 := Lib.hid (show (fun W => W.heap[w.heap.size]? = some (.cells #[.int .i64 cd, .int .i64 tm, .int .u64 id, .int .i64 cn, .int .i64 st, .int .i64 lv, .int .u64 ge, .int .i64 fr, .int .i64 lf, .int .i64 du, .int .i64 tl, .slice none 0 0, .int .u64 nt, .int .i64 de] 28 (0, 0)) ∧ W.heap[g]? = some (.cells #[.int .i64 cd, .int .i64 tm, .int .u64 id, .int .i64 cn, .int .i64 st, .int .i64 lv, .int .u64 ge, .int .i64 fr, .int .i64 lf, .int .i64 du, .int .i64 tl, .slice ac lc cc, .int .u64 nt, .int .i64 de] 28 (0, 0)) ∧ Below w.heap.size w W ∧ Us W (none) 0 ([] : List Nat) ∧ CRow W ac lc (w.heap.size + 2)) (wr.setCell ⟨gc, k, none⟩ (.int .u64 x)) from ⟨(Below.heap_setCell _ _ _ _ (by show w.heap.size ≠ gc; omega)).trans k1, (Below.heap_setCell _ _ _ _ (by show g ≠ gc; omega)).trans k2, k3.setCell (p := ⟨gc, k, none⟩) (by show w.heap.size ≤ gc; omega) _, (HUA.out _ k4 gc (by omega) k _), k5.set _ _⟩)
        have HO6 := Lib.hid (HO9.out.set (p := ⟨gc, k, none⟩) (by show gc < B9; have := HB9.out; omega) (.int .u64 x))
        obtain ⟨q0, q1, q2, q3, q4, q5, q6, q7, q8, q9, q10, q11, q12, q13⟩ := rep_at k2
        have k0 : (0 : Int) ≤ (k : Int) := by omega
        have kl : (k : Int) < (lc : Int) := by omega
        have d4 : decide ((k : Int) < (lc : Int)) = true := by simp [hlt]
        have hw64 : wrap64 ((k : Int) + 1) = (k : Int) + 1 := IntWalk.wrap64_in _ (by have := HLC.out; omega)
        subst hac
        clear k1 k2 k3 k4 k5 HS5 HO9 hgg
        go_wp2_with fail
        go_roundw
        case rel => exact ⟨k + 1, hlt, by rw [hw64]; rfl, HS6, HO6⟩
        case measure => exact meas_up lc k _ (by rw [hw64]) hlt
      · obtain rfl : k = lc := by omega
        go_wp2_with fail
        go_loopw [66] (fun i wr2 => ∃ k2 : Nat, k2 ≤ lo ∧ i = .int .i64 k2 ∧ ∃ q, wr2 = wr.drewN q) (fun i _ => lo - (intOf i).toNat)
        case atStart => exact ⟨0, Nat.zero_le _, rfl, 0, rfl⟩
        case round =>
          obtain ⟨k2, hk2, rfl, q, rfl⟩ := hrel
          by_cases hlt2 : k2 < lo
          · exact absurd hlt2 (by have := HLO.out; omega)
          · obtain rfl : k2 = lo := by omega
            go_wp2_with fail
            have HS0 : Hid ((fun W => W.heap[w.heap.size]? = some (.cells #[.int .i64 cd, .int .i64 tm, .int .u64 id, .int .i64 cn, .int .i64 st, .int .i64 lv, .int .u64 ge, .int .i64 fr, .int .i64 lf, .int .i64 du, .int .i64 tl, .slice none 0 0, .int .u64 nt, .int .i64 de] 28 (0, 0)) ∧ Below w.heap.size w W) (wr.drewN q).drew) := Lib.hid ⟨HS5.out.1, (below_drewN' HS5.out.2.2.1 q).drew⟩
            refine wp_region_held_drew (S := fun W => W.heap[w.heap.size]? = some (.cells #[.int .i64 cd, .int .i64 tm, .int .u64 id, .int .i64 cn, .int .i64 st, .int .i64 lv, .int .u64 ge, .int .i64 fr, .int .i64 lf, .int .i64 du, .int .i64 tl, .slice none 0 0, .int .u64 nt, .int .i64 de] 28 (0, 0)) ∧ Below w.heap.size w W) (by kernel_rfl) HS0.out (fun hHeld => ?_)
            clear hHeld
            generalize (wr.drewN q).drew = Y0 at HS0 ⊢
            refine wpAnyH_take (i := 0) (oi := { dst := some 80, op := Go.Op.fieldAddr 28 (Go.Operand.tmp 3) 0, type := 0, pos := "law.go:40", after := #[], guard := none }) (v := ?_) rfl (by kernel_rfl) (by kernel_rfl) (by kernel_rfl) (fun _ _ _ h => h) (Or.inl ⟨by rfl, ?_⟩) (HS0.out) ?_
            case refine_2 => (intro w1 hS1; obtain ⟨k1, -⟩ := hS1; obtain ⟨q0, q1, q2, q3, q4, q5, q6, q7, q8, q9, q10, q11, q12, q13⟩ := rep_at k1; clear k1; go_simp; try with_reducible rfl)
            try simp only [Act.put, List.setIfInBounds_toArray, List.set_cons_zero, List.set_cons_succ]
            refine wpAnyH_take (i := 1) (oi := { dst := some 81, op := Go.Op.load 22 (Go.Operand.tmp 80), type := 22, pos := "law.go:40", after := #[{ on := 0, ground := Go.Ground.data }], guard := none }) (v := ?_) rfl (by kernel_rfl) (by kernel_rfl) (by kernel_rfl) (fun _ _ _ h => h) (Or.inl ⟨by rfl, ?_⟩) (HS0.out) ?_
            case refine_2 => (intro w1 hS1; obtain ⟨k1, -⟩ := hS1; obtain ⟨q0, q1, q2, q3, q4, q5, q6, q7, q8, q9, q10, q11, q12, q13⟩ := rep_at k1; clear k1; go_simp; try with_reducible rfl)
            try simp only [Act.put, List.setIfInBounds_toArray, List.set_cons_zero, List.set_cons_succ]
            refine wpAnyH_take (i := 2) (oi := { dst := some 82, op := Go.Op.fieldAddr 28 (Go.Operand.tmp 3) 1, type := 0, pos := "law.go:40", after := #[], guard := none }) (v := ?_) rfl (by kernel_rfl) (by kernel_rfl) (by kernel_rfl) (fun _ _ _ h => h) (Or.inl ⟨by rfl, ?_⟩) (HS0.out) ?_
            case refine_2 => (intro w1 hS1; obtain ⟨k1, -⟩ := hS1; obtain ⟨q0, q1, q2, q3, q4, q5, q6, q7, q8, q9, q10, q11, q12, q13⟩ := rep_at k1; clear k1; go_simp; try with_reducible rfl)
            try simp only [Act.put, List.setIfInBounds_toArray, List.set_cons_zero, List.set_cons_succ]
            refine wpAnyH_take (i := 3) (oi := { dst := some 83, op := Go.Op.load 2 (Go.Operand.tmp 82), type := 2, pos := "law.go:40", after := #[{ on := 2, ground := Go.Ground.data }], guard := none }) (v := ?_) rfl (by kernel_rfl) (by kernel_rfl) (by kernel_rfl) (fun _ _ _ h => h) (Or.inl ⟨by rfl, ?_⟩) (HS0.out) ?_
            case refine_2 => (intro w1 hS1; obtain ⟨k1, -⟩ := hS1; obtain ⟨q0, q1, q2, q3, q4, q5, q6, q7, q8, q9, q10, q11, q12, q13⟩ := rep_at k1; clear k1; go_simp; try with_reducible rfl)
            try simp only [Act.put, List.setIfInBounds_toArray, List.set_cons_zero, List.set_cons_succ]
            refine wpAnyH_take (i := 5) (oi := { dst := some 85, op := Go.Op.fieldAddr 28 (Go.Operand.tmp 3) 0, type := 0, pos := "law.go:40", after := #[], guard := none }) (v := ?_) rfl (by kernel_rfl) (by kernel_rfl) (by kernel_rfl) (fun _ _ _ h => h) (Or.inl ⟨by rfl, ?_⟩) (HS0.out) ?_
            case refine_2 => (intro w1 hS1; obtain ⟨k1, -⟩ := hS1; obtain ⟨q0, q1, q2, q3, q4, q5, q6, q7, q8, q9, q10, q11, q12, q13⟩ := rep_at k1; clear k1; go_simp; try with_reducible rfl)
            try simp only [Act.put, List.setIfInBounds_toArray, List.set_cons_zero, List.set_cons_succ]
            refine wpAnyH_take (i := 6) (oi := { dst := some 86, op := Go.Op.load 22 (Go.Operand.tmp 85), type := 22, pos := "law.go:40", after := #[{ on := 5, ground := Go.Ground.data }], guard := none }) (v := ?_) rfl (by kernel_rfl) (by kernel_rfl) (by kernel_rfl) (fun _ _ _ h => h) (Or.inl ⟨by rfl, ?_⟩) (HS0.out) ?_
            case refine_2 => (intro w1 hS1; obtain ⟨k1, -⟩ := hS1; obtain ⟨q0, q1, q2, q3, q4, q5, q6, q7, q8, q9, q10, q11, q12, q13⟩ := rep_at k1; clear k1; go_simp; try with_reducible rfl)
            try simp only [Act.put, List.setIfInBounds_toArray, List.set_cons_zero, List.set_cons_succ]
            refine wpAnyH_take (i := 7) (oi := { dst := some 87, op := Go.Op.fieldAddr 28 (Go.Operand.tmp 3) 1, type := 0, pos := "law.go:40", after := #[], guard := none }) (v := ?_) rfl (by kernel_rfl) (by kernel_rfl) (by kernel_rfl) (fun _ _ _ h => h) (Or.inl ⟨by rfl, ?_⟩) (HS0.out) ?_
            case refine_2 => (intro w1 hS1; obtain ⟨k1, -⟩ := hS1; obtain ⟨q0, q1, q2, q3, q4, q5, q6, q7, q8, q9, q10, q11, q12, q13⟩ := rep_at k1; clear k1; go_simp; try with_reducible rfl)
            try simp only [Act.put, List.setIfInBounds_toArray, List.set_cons_zero, List.set_cons_succ]
            refine wpAnyH_take (i := 8) (oi := { dst := some 88, op := Go.Op.load 2 (Go.Operand.tmp 87), type := 2, pos := "law.go:40", after := #[{ on := 7, ground := Go.Ground.data }], guard := none }) (v := ?_) rfl (by kernel_rfl) (by kernel_rfl) (by kernel_rfl) (fun _ _ _ h => h) (Or.inl ⟨by rfl, ?_⟩) (HS0.out) ?_
            case refine_2 => (intro w1 hS1; obtain ⟨k1, -⟩ := hS1; obtain ⟨q0, q1, q2, q3, q4, q5, q6, q7, q8, q9, q10, q11, q12, q13⟩ := rep_at k1; clear k1; go_simp; try with_reducible rfl)
            try simp only [Act.put, List.setIfInBounds_toArray, List.set_cons_zero, List.set_cons_succ]
            refine wpAnyH_take (i := 9) (oi := { dst := some 89, op := Go.Op.build 28 #[(0, Go.Operand.tmp 86), (1, Go.Operand.tmp 88)], type := 28, pos := "law.go:40", after := #[{ on := 6, ground := Go.Ground.data }, { on := 8, ground := Go.Ground.data }], guard := none }) (v := ?_) rfl (by kernel_rfl) (by kernel_rfl) (by kernel_rfl) (fun _ _ _ h => h) (Or.inl ⟨by rfl, ?_⟩) (HS0.out) ?_
            case refine_2 => (intro w1 hS1; obtain ⟨k1, -⟩ := hS1; obtain ⟨q0, q1, q2, q3, q4, q5, q6, q7, q8, q9, q10, q11, q12, q13⟩ := rep_at k1; clear k1; go_simp; try with_reducible rfl)
            try simp only [Act.put, List.setIfInBounds_toArray, List.set_cons_zero, List.set_cons_succ]
            refine wpAnyH_ready (rs := [4]) (by kernel_rfl) (by simp) ?_
            refine AllReadyH.cons (o := { dst := some 84, op := Go.Op.call { callee := Go.Callee.value (Go.Operand.func 17), args := #[Go.Operand.tmp 81, Go.Operand.tmp 83], argTypes := #[22, 2] }, type := 28, pos := "law.go:40", after := #[{ on := 1, ground := Go.Ground.data }, { on := 3, ground := Go.Ground.data }], guard := none }) rfl (fun K hK => ?_) AllReadyH.nil
            go_simp
            refine (HRF.out _).mono ?_
            rintro e X4 ⟨rfl, hb⟩
            have HS0' : Hid ((fun W => W.heap[w.heap.size]? = some (.cells #[.int .i64 cd, .int .i64 tm, .int .u64 id, .int .i64 cn, .int .i64 st, .int .i64 lv, .int .u64 ge, .int .i64 fr, .int .i64 lf, .int .i64 du, .int .i64 tl, .slice none 0 0, .int .u64 nt, .int .i64 de] 28 (0, 0)) ∧ Below w.heap.size w W) X4) := Lib.hid ⟨ex_below HS0.out.1 hb, HS0.out.2.trans (hb.mono HS0.out.2.size)⟩
            clear hb
            clear HS0
            have HS0 := HS0'
            clear HS0'
            refine hK.out _ _ HS0.out (fun hHeld => ?_)
            clear hK K hHeld
            try simp only [Act.put, List.setIfInBounds_toArray, List.set_cons_zero, List.set_cons_succ]
            refine wpAnyH_ready (rs := [10]) (by kernel_rfl) (by simp) ?_
            refine AllReadyH.cons (o := { dst := some 90, op := Go.Op.call { callee := Go.Callee.value (Go.Operand.func 13), args := #[Go.Operand.tmp 84, Go.Operand.tmp 89], argTypes := #[28, 28] }, type := 4, pos := "law.go:40", after := #[{ on := 4, ground := Go.Ground.data }, { on := 9, ground := Go.Ground.data }, { on := 4, ground := Go.Ground.chain }], guard := none }) rfl (fun K hK => ?_) AllReadyH.nil
            go_simp
            refine (HSM.out _).mono ?_
            rintro e X10 ⟨rfl, hb⟩
            have HS0' : Hid ((fun W => W.heap[w.heap.size]? = some (.cells #[.int .i64 cd, .int .i64 tm, .int .u64 id, .int .i64 cn, .int .i64 st, .int .i64 lv, .int .u64 ge, .int .i64 fr, .int .i64 lf, .int .i64 du, .int .i64 tl, .slice none 0 0, .int .u64 nt, .int .i64 de] 28 (0, 0)) ∧ Below w.heap.size w W) X10) := Lib.hid ⟨ex_below HS0.out.1 hb, HS0.out.2.trans (hb.mono HS0.out.2.size)⟩
            clear hb
            clear HS0
            have HS0 := HS0'
            clear HS0'
            refine hK.out _ _ HS0.out (fun hHeld => ?_)
            clear hK K hHeld
            try simp only [Act.put, List.setIfInBounds_toArray, List.set_cons_zero, List.set_cons_succ]
            refine wpAnyH_take (i := 11) (oi := { dst := some 91, op := Go.Op.move (Go.Operand.tmp 90), type := 4, pos := "law.go:40", after := #[{ on := 10, ground := Go.Ground.data }, { on := 10, ground := Go.Ground.chain }], guard := none }) (v := ?_) rfl (by kernel_rfl) (by kernel_rfl) (by kernel_rfl) (fun _ _ _ h => h) (Or.inl ⟨by rfl, ?_⟩) (HS0.out) ?_
            case refine_2 => (intro w1 hS1; obtain ⟨k1, -⟩ := hS1; obtain ⟨q0, q1, q2, q3, q4, q5, q6, q7, q8, q9, q10, q11, q12, q13⟩ := rep_at k1; clear k1; go_simp; try with_reducible rfl)
            try simp only [Act.put, List.setIfInBounds_toArray, List.set_cons_zero, List.set_cons_succ]
            refine wpAnyH_ready (rs := [12]) (by kernel_rfl) (by simp) ?_
            refine AllReadyH.cons (o := { dst := some 92, op := Go.Op.call { callee := Go.Callee.value (Go.Operand.func 11), args := #[], argTypes := #[] }, type := 4, pos := "law.go:40", after := #[{ on := 11, ground := Go.Ground.chain }, { on := 11, ground := Go.Ground.guard }], guard := some (11, true) }) rfl (fun K hK => ?_) AllReadyH.nil
            go_simp
            refine (lives19 _).mono ?_
            rintro e X12 ⟨rfl, hb⟩
            have HS0' : Hid ((fun W => W.heap[w.heap.size]? = some (.cells #[.int .i64 cd, .int .i64 tm, .int .u64 id, .int .i64 cn, .int .i64 st, .int .i64 lv, .int .u64 ge, .int .i64 fr, .int .i64 lf, .int .i64 du, .int .i64 tl, .slice none 0 0, .int .u64 nt, .int .i64 de] 28 (0, 0)) ∧ Below w.heap.size w W) X12) := Lib.hid ⟨ex_below HS0.out.1 hb, HS0.out.2.trans (hb.mono HS0.out.2.size)⟩
            clear hb
            clear HS0
            have HS0 := HS0'
            clear HS0'
            refine hK.out _ _ HS0.out (fun hHeld => ?_)
            clear hK K hHeld
            try simp only [Act.put, List.setIfInBounds_toArray, List.set_cons_zero, List.set_cons_succ]
            refine wpAnyH_take (i := 13) (oi := { dst := some 93, op := Go.Op.pick (Go.Operand.tmp 91) (Go.Operand.tmp 92) (Go.Operand.const (Go.Value.bool false)), type := 4, pos := "law.go:40", after := #[{ on := 11, ground := Go.Ground.data }, { on := 12, ground := Go.Ground.data }], guard := none }) (v := ?_) rfl (by kernel_rfl) (by kernel_rfl) (by kernel_rfl) (fun _ _ _ h => h) (Or.inl ⟨by rfl, ?_⟩) (HS0.out) ?_
            case refine_2 => (intro w1 hS1; obtain ⟨k1, -⟩ := hS1; obtain ⟨q0, q1, q2, q3, q4, q5, q6, q7, q8, q9, q10, q11, q12, q13⟩ := rep_at k1; clear k1; go_simp; try with_reducible rfl)
            try simp only [Act.put, List.setIfInBounds_toArray, List.set_cons_zero, List.set_cons_succ]
            refine wpAnyH_take (i := 14) (oi := { dst := some 6, op := Go.Op.assign (Go.Operand.tmp 93), type := 4, pos := "law.go:40", after := #[{ on := 13, ground := Go.Ground.data }, { on := 12, ground := Go.Ground.chain }, { on := 0, ground := Go.Ground.phase }, { on := 1, ground := Go.Ground.phase }, { on := 2, ground := Go.Ground.phase }, { on := 3, ground := Go.Ground.phase }, { on := 4, ground := Go.Ground.phase }, { on := 5, ground := Go.Ground.phase }, { on := 6, ground := Go.Ground.phase }, { on := 7, ground := Go.Ground.phase }, { on := 8, ground := Go.Ground.phase }, { on := 9, ground := Go.Ground.phase }, { on := 10, ground := Go.Ground.phase }, { on := 11, ground := Go.Ground.phase }, { on := 12, ground := Go.Ground.phase }, { on := 13, ground := Go.Ground.phase }], guard := none }) (v := ?_) rfl (by kernel_rfl) (by kernel_rfl) (by kernel_rfl) (fun _ _ _ h => h) (Or.inl ⟨by rfl, ?_⟩) (HS0.out) ?_
            case refine_2 => (intro w1 hS1; obtain ⟨k1, -⟩ := hS1; obtain ⟨q0, q1, q2, q3, q4, q5, q6, q7, q8, q9, q10, q11, q12, q13⟩ := rep_at k1; clear k1; go_simp; try with_reducible rfl)
            try simp only [Act.put, List.setIfInBounds_toArray, List.set_cons_zero, List.set_cons_succ]
            refine wpAnyH_done (by kernel_rfl) ?_ _
            go_wp2_with fail
            go_ret
            exact ⟨rfl, HS0.out.2⟩
  | some y0 =>
    obtain ⟨i0, hi, hz0, hz1, hz2⟩ := info_parts nums_info
    have hnews : ∀ j u, (uc xs)[j]? = some u → (V26.alloc (.cells #[] 23)).cell? (y0.add j) = some u := by
      intro j u hu
      obtain ⟨h1, h2⟩ := us_news HS0.out.2.2.2.2.1 j u hu
      have hx := cell_spot h1
      rw [((Below.refl _ V26).alloc (Nat.le_refl _) (.cells #[] 23)).cell hx.2]
      exact h1
    have HNW := Lib.hid hnews
    have HLX := Lib.hid HS0.out.2.2.2.2.1.1
    obtain ⟨q0, q1, q2, q3, q4, q5, q6, q7, q8, q9, q10, q11, q12, q13⟩ := rep_at (ex_below HS0.out.1 ((Below.refl _ V26).alloc (Nat.le_refl _) (.cells #[] 23)))
    clear hnews
    go_wp2_with (at_builtin; refine wpList_append_own _ rfl (.tmp 48) (.tmp 50) 26 rfl V26.heap.size 23 i0 (.int .u64 0) 1 8 Try.underlying26 hi hz0 hz1 hz2 rfl (by decide) _ _ _ rfl (ou_made V26) y0 n ca (uc xs) rfl ?c0 HNW.out (uc_one _) ?c3 ?c4 ?c5 ?_)
    case c0 => rw [uc_len, HLX.out]
    case c3 => have := HN.out; unfold maxLen; omega
    case c4 => have := HN.out; omega
    intro v5 w5 hown hgrow _
    have hb5 : Below V26.heap.size V26 w5 := ((Below.refl V26.heap.size V26).alloc (Nat.le_refl _) (.cells #[] 23)).grown hgrow (by simp) fun k hk => (World.ownsRow.lt (ou_made V26) k hk).1
    have ho5 : OU w5 V26.heap.size v5 xs := by
      unfold OU
      have : ([] : List Nat).length + n = xs.length := by rw [HLX.out]; simp
      rw [← this]
      simpa [uc] using hown
    clear hown hgrow q0 q1 q2 q3 q4 q5 q6 q7 q8 q9 q10 q11 q12 q13 HNW
    obtain ⟨a9, c9, hv9, -, -⟩ := ho5.shape
    obtain ⟨lo, hlo⟩ : ∃ y, xs.length = y := ⟨_, rfl⟩
    rw [hlo] at hv9
    subst hv9
    obtain ⟨B9, hB9⟩ : ∃ y, V26.heap.size = y := ⟨_, rfl⟩
    have HO9 : Hid (OU w5 B9 (.slice a9 lo c9) xs) := Lib.hid (by rw [← hB9]; exact ho5)
    have HB9 : Hid (g < B9) := Lib.hid (by rw [← hB9]; exact ex_lt HS0.out.2.2.1)
    have HLO : Hid (lo = n ∧ xs.length = lo ∧ lo ≤ 200) := Lib.hid ⟨by rw [← hlo]; exact HS0.out.2.2.2.2.1.1, hlo, by rw [← hlo]; have := HS0.out.2.2.2.2.1.1; have := HN.out; omega⟩
    have HLC : Hid (lc ≤ 200) := Lib.hid (by have h1 := HS0.out.2.2.2.2.2.2.1.1; have := HS0.out.2.2.2.2.1.1; have := HN.out; omega)
    have HUA : Hid (∀ W : World, Us W (some y0) n xs → ∀ gc, w.heap.size + 2 ≤ gc → ∀ k v, Us (W.setCell ⟨gc, k, none⟩ v) (some y0) n xs) := Lib.hid (fun W h gc hgc k v => by
      obtain ⟨h1, h2, h3, h4⟩ := h
      refine ⟨h1, h2, h3, fun i hi => ?_⟩
      obtain ⟨b, off, ha, hlt, hc⟩ := h4 i hi
      have hb := HUB.out b off ha (by omega)
      refine ⟨b, off, ha, by simpa using hlt, ?_⟩
      rw [World.cell?_of_block (Below.heap_setCell _ _ _ _ (by show b ≠ gc; omega))]
      exact hc)
    have HSM : Hid (∀ W, Calls Try.prog 13 #[.agg #[.int .i64 cd, .int .i64 tm, .int .u64 0, .int .i64 0, .int .i64 0, .int .i64 0, .int .u64 0, .int .i64 0, .int .i64 0, .int .i64 0, .int .i64 0, .slice none 0 0, .int .u64 0, .int .i64 0], .agg #[.int .i64 cd, .int .i64 tm, .int .u64 0, .int .i64 0, .int .i64 0, .int .i64 0, .int .u64 0, .int .i64 0, .int .i64 0, .int .i64 0, .int .i64 0, .slice none 0 0, .int .u64 0, .int .i64 0]] W fun e w' => e = .returned (.bool true) ∧ Below W.heap.size W w') := Lib.hid (fun W => by
      have h := rrep_same cd tm 0 0 0 0 0 0 0 0 0 none 0 0 0 0 [] cd tm 0 0 0 0 0 0 0 0 0 none 0 0 0 0 [] W (Us.none W) (Us.none W)
      rw [repEq_refl] at h
      exact h)
    clear ho5 hlo hB9 hi hz0 hz1 hz2
    have HS5 := Lib.hid (show (fun W => W.heap[w.heap.size]? = some (.cells #[.int .i64 cd, .int .i64 tm, .int .u64 id, .int .i64 cn, .int .i64 st, .int .i64 lv, .int .u64 ge, .int .i64 fr, .int .i64 lf, .int .i64 du, .int .i64 tl, .slice (some y0) n ca, .int .u64 nt, .int .i64 de] 28 (0, 0)) ∧ W.heap[g]? = some (.cells #[.int .i64 cd, .int .i64 tm, .int .u64 id, .int .i64 cn, .int .i64 st, .int .i64 lv, .int .u64 ge, .int .i64 fr, .int .i64 lf, .int .i64 du, .int .i64 tl, .slice ac lc cc, .int .u64 nt, .int .i64 de] 28 (0, 0)) ∧ Below w.heap.size w W ∧ Us W ((some y0)) n xs ∧ CRow W ac lc (w.heap.size + 2)) w5 from ⟨ex_below HS0.out.1 hb5, ex_below HS0.out.2.2.1 hb5, HS0.out.2.2.2.1.trans (hb5.mono HS0.out.2.2.2.1.size), HS0.out.2.2.2.2.1.kept hb5, HS0.out.2.2.2.2.2.2.2.kept hb5⟩)
    clear hb5 HS0 HSD
    obtain ⟨q0, q1, q2, q3, q4, q5, q6, q7, q8, q9, q10, q11, q12, q13⟩ := rep_at HS5.out.2.1
    go_wp2_with fail
    clear q0 q1 q2 q3 q4 q5 q6 q7 q8 q9 q10 q11 q12 q13
    go_loopw [55] (fun i wr => ∃ k : Nat, k ≤ lc ∧ i = .int .i64 k ∧ Hid ((fun W => W.heap[w.heap.size]? = some (.cells #[.int .i64 cd, .int .i64 tm, .int .u64 id, .int .i64 cn, .int .i64 st, .int .i64 lv, .int .u64 ge, .int .i64 fr, .int .i64 lf, .int .i64 du, .int .i64 tl, .slice (some y0) n ca, .int .u64 nt, .int .i64 de] 28 (0, 0)) ∧ W.heap[g]? = some (.cells #[.int .i64 cd, .int .i64 tm, .int .u64 id, .int .i64 cn, .int .i64 st, .int .i64 lv, .int .u64 ge, .int .i64 fr, .int .i64 lf, .int .i64 du, .int .i64 tl, .slice ac lc cc, .int .u64 nt, .int .i64 de] 28 (0, 0)) ∧ Below w.heap.size w W ∧ Us W ((some y0)) n xs ∧ CRow W ac lc (w.heap.size + 2)) wr) ∧ Hid (OU wr B9 (.slice a9 lo c9) xs)) (fun i _ => lc - (intOf i).toNat)
    case atStart => exact ⟨0, Nat.zero_le _, rfl, HS5, HO9⟩
    case round =>
      clear HS5 HO9
      obtain ⟨k, hk, rfl, HS5, HO9⟩ := hrel
      by_cases hlt : k < lc
      · obtain ⟨gc, hac, hgB, hglt, ⟨cv, hcv⟩, hcf⟩ := HS5.out.2.2.2.2 k hlt
        have hgg := HCG.out gc hac (by omega)
        obtain ⟨k1, k2, k3, k4, k5⟩ := HS5.out
        have HS6 := Lib.hid (show (fun W => W.heap[w.heap.size]? = some (.cells #[.int .i64 cd, .int .i64 tm, .int .u64 id, .int .i64 cn, .int .i64 st, .int .i64 lv, .int .u64 ge, .int .i64 fr, .int .i64 lf, .int .i64 du, .int .i64 tl, .slice (some y0) n ca, .int .u64 nt, .int .i64 de] 28 (0, 0)) ∧ W.heap[g]? = some (.cells #[.int .i64 cd, .int .i64 tm, .int .u64 id, .int .i64 cn, .int .i64 st, .int .i64 lv, .int .u64 ge, .int .i64 fr, .int .i64 lf, .int .i64 du, .int .i64 tl, .slice ac lc cc, .int .u64 nt, .int .i64 de] 28 (0, 0)) ∧ Below w.heap.size w W ∧ Us W ((some y0)) n xs ∧ CRow W ac lc (w.heap.size + 2)) (wr.setCell ⟨gc, k, none⟩ (.int .u64 x)) from ⟨(Below.heap_setCell _ _ _ _ (by show w.heap.size ≠ gc; omega)).trans k1, (Below.heap_setCell _ _ _ _ (by show g ≠ gc; omega)).trans k2, k3.setCell (p := ⟨gc, k, none⟩) (by show w.heap.size ≤ gc; omega) _, (HUA.out _ k4 gc (by omega) k _), k5.set _ _⟩)
        have HO6 := Lib.hid (HO9.out.set (p := ⟨gc, k, none⟩) (by show gc < B9; have := HB9.out; omega) (.int .u64 x))
        obtain ⟨q0, q1, q2, q3, q4, q5, q6, q7, q8, q9, q10, q11, q12, q13⟩ := rep_at k2
        have k0 : (0 : Int) ≤ (k : Int) := by omega
        have kl : (k : Int) < (lc : Int) := by omega
        have d4 : decide ((k : Int) < (lc : Int)) = true := by simp [hlt]
        have hw64 : wrap64 ((k : Int) + 1) = (k : Int) + 1 := IntWalk.wrap64_in _ (by have := HLC.out; omega)
        subst hac
        clear k1 k2 k3 k4 k5 HS5 HO9 hgg
        go_wp2_with fail
        go_roundw
        case rel => exact ⟨k + 1, hlt, by rw [hw64]; rfl, HS6, HO6⟩
        case measure => exact meas_up lc k _ (by rw [hw64]) hlt
      · obtain rfl : k = lc := by omega
        go_wp2_with fail
        go_loopw [66] (fun i wr2 => ∃ k2 : Nat, k2 ≤ lo ∧ i = .int .i64 k2 ∧ ∃ q, wr2 = wr.drewN q) (fun i _ => lo - (intOf i).toNat)
        case atStart => exact ⟨0, Nat.zero_le _, rfl, 0, rfl⟩
        case round =>
          obtain ⟨k2, hk2, rfl, q, rfl⟩ := hrel
          by_cases hlt2 : k2 < lo
          · obtain ⟨ab, ao, hab, habl, c0⟩ := HS5.out.2.2.2.1.2.2.2 k2 (by have := HLO.out; omega)
            obtain ⟨a9', c9', hv9, -, hc9⟩ := HO9.out.shape
            obtain ⟨g9, hg9, -, hg9l, hcell⟩ := hc9 (by have := HLO.out; omega)
            have c1 := (hcell k2 (by have := HLO.out; omega)).1
            injection hv9 with hv1 hv2 hv3
            rw [← hv1] at hg9
            clear hv1 hv2 hv3 hcell hc9
            subst hg9
            injection hab with hab
            subst hab
            obtain ⟨y, ey⟩ : ∃ y : Nat, xs.getD k2 0 = y := ⟨_, rfl⟩
            rw [ey] at c0 c1
            obtain ⟨q0, q1, q2, q3, q4, q5, q6, q7, q8, q9, q10, q11, q12, q13⟩ := rep_at HS5.out.1
            have k0 : (0 : Int) ≤ (k2 : Int) := by omega
            have kl : (k2 : Int) < (lo : Int) := by omega
            have kl2 : (k2 : Int) < (n : Int) := by have := HLO.out; omega
            have d4 : decide ((k2 : Int) < (lo : Int)) = true := by simp [hlt2]
            have hw64 : wrap64 ((k2 : Int) + 1) = (k2 : Int) + 1 := IntWalk.wrap64_in _ (by have := HLO.out; omega)
            clear ey
            go_wp2_with fail
            go_quiet (fail)
            go_wp2_with fail
            go_roundw
            case rel => first | exact ⟨k2 + 1, hlt2, by rw [hw64]; rfl, _, World.drewN_drewN _ _ _⟩ | exact ⟨k2 + 1, hlt2, by rw [hw64]; rfl, _, rfl⟩
            case measure => exact meas_up lo k2 _ (by rw [hw64]) hlt2
          · obtain rfl : k2 = lo := by omega
            go_wp2_with fail
            have HS0 : Hid ((fun W => W.heap[w.heap.size]? = some (.cells #[.int .i64 cd, .int .i64 tm, .int .u64 id, .int .i64 cn, .int .i64 st, .int .i64 lv, .int .u64 ge, .int .i64 fr, .int .i64 lf, .int .i64 du, .int .i64 tl, .slice (some y0) n ca, .int .u64 nt, .int .i64 de] 28 (0, 0)) ∧ Below w.heap.size w W) (wr.drewN q).drew) := Lib.hid ⟨HS5.out.1, (below_drewN' HS5.out.2.2.1 q).drew⟩
            refine wp_region_held_drew (S := fun W => W.heap[w.heap.size]? = some (.cells #[.int .i64 cd, .int .i64 tm, .int .u64 id, .int .i64 cn, .int .i64 st, .int .i64 lv, .int .u64 ge, .int .i64 fr, .int .i64 lf, .int .i64 du, .int .i64 tl, .slice (some y0) n ca, .int .u64 nt, .int .i64 de] 28 (0, 0)) ∧ Below w.heap.size w W) (by kernel_rfl) HS0.out (fun hHeld => ?_)
            clear hHeld
            generalize (wr.drewN q).drew = Y0 at HS0 ⊢
            refine wpAnyH_take (i := 0) (oi := { dst := some 80, op := Go.Op.fieldAddr 28 (Go.Operand.tmp 3) 0, type := 0, pos := "law.go:40", after := #[], guard := none }) (v := ?_) rfl (by kernel_rfl) (by kernel_rfl) (by kernel_rfl) (fun _ _ _ h => h) (Or.inl ⟨by rfl, ?_⟩) (HS0.out) ?_
            case refine_2 => (intro w1 hS1; obtain ⟨k1, -⟩ := hS1; obtain ⟨q0, q1, q2, q3, q4, q5, q6, q7, q8, q9, q10, q11, q12, q13⟩ := rep_at k1; clear k1; go_simp; try with_reducible rfl)
            try simp only [Act.put, List.setIfInBounds_toArray, List.set_cons_zero, List.set_cons_succ]
            refine wpAnyH_take (i := 1) (oi := { dst := some 81, op := Go.Op.load 22 (Go.Operand.tmp 80), type := 22, pos := "law.go:40", after := #[{ on := 0, ground := Go.Ground.data }], guard := none }) (v := ?_) rfl (by kernel_rfl) (by kernel_rfl) (by kernel_rfl) (fun _ _ _ h => h) (Or.inl ⟨by rfl, ?_⟩) (HS0.out) ?_
            case refine_2 => (intro w1 hS1; obtain ⟨k1, -⟩ := hS1; obtain ⟨q0, q1, q2, q3, q4, q5, q6, q7, q8, q9, q10, q11, q12, q13⟩ := rep_at k1; clear k1; go_simp; try with_reducible rfl)
            try simp only [Act.put, List.setIfInBounds_toArray, List.set_cons_zero, List.set_cons_succ]
            refine wpAnyH_take (i := 2) (oi := { dst := some 82, op := Go.Op.fieldAddr 28 (Go.Operand.tmp 3) 1, type := 0, pos := "law.go:40", after := #[], guard := none }) (v := ?_) rfl (by kernel_rfl) (by kernel_rfl) (by kernel_rfl) (fun _ _ _ h => h) (Or.inl ⟨by rfl, ?_⟩) (HS0.out) ?_
            case refine_2 => (intro w1 hS1; obtain ⟨k1, -⟩ := hS1; obtain ⟨q0, q1, q2, q3, q4, q5, q6, q7, q8, q9, q10, q11, q12, q13⟩ := rep_at k1; clear k1; go_simp; try with_reducible rfl)
            try simp only [Act.put, List.setIfInBounds_toArray, List.set_cons_zero, List.set_cons_succ]
            refine wpAnyH_take (i := 3) (oi := { dst := some 83, op := Go.Op.load 2 (Go.Operand.tmp 82), type := 2, pos := "law.go:40", after := #[{ on := 2, ground := Go.Ground.data }], guard := none }) (v := ?_) rfl (by kernel_rfl) (by kernel_rfl) (by kernel_rfl) (fun _ _ _ h => h) (Or.inl ⟨by rfl, ?_⟩) (HS0.out) ?_
            case refine_2 => (intro w1 hS1; obtain ⟨k1, -⟩ := hS1; obtain ⟨q0, q1, q2, q3, q4, q5, q6, q7, q8, q9, q10, q11, q12, q13⟩ := rep_at k1; clear k1; go_simp; try with_reducible rfl)
            try simp only [Act.put, List.setIfInBounds_toArray, List.set_cons_zero, List.set_cons_succ]
            refine wpAnyH_take (i := 5) (oi := { dst := some 85, op := Go.Op.fieldAddr 28 (Go.Operand.tmp 3) 0, type := 0, pos := "law.go:40", after := #[], guard := none }) (v := ?_) rfl (by kernel_rfl) (by kernel_rfl) (by kernel_rfl) (fun _ _ _ h => h) (Or.inl ⟨by rfl, ?_⟩) (HS0.out) ?_
            case refine_2 => (intro w1 hS1; obtain ⟨k1, -⟩ := hS1; obtain ⟨q0, q1, q2, q3, q4, q5, q6, q7, q8, q9, q10, q11, q12, q13⟩ := rep_at k1; clear k1; go_simp; try with_reducible rfl)
            try simp only [Act.put, List.setIfInBounds_toArray, List.set_cons_zero, List.set_cons_succ]
            refine wpAnyH_take (i := 6) (oi := { dst := some 86, op := Go.Op.load 22 (Go.Operand.tmp 85), type := 22, pos := "law.go:40", after := #[{ on := 5, ground := Go.Ground.data }], guard := none }) (v := ?_) rfl (by kernel_rfl) (by kernel_rfl) (by kernel_rfl) (fun _ _ _ h => h) (Or.inl ⟨by rfl, ?_⟩) (HS0.out) ?_
            case refine_2 => (intro w1 hS1; obtain ⟨k1, -⟩ := hS1; obtain ⟨q0, q1, q2, q3, q4, q5, q6, q7, q8, q9, q10, q11, q12, q13⟩ := rep_at k1; clear k1; go_simp; try with_reducible rfl)
            try simp only [Act.put, List.setIfInBounds_toArray, List.set_cons_zero, List.set_cons_succ]
            refine wpAnyH_take (i := 7) (oi := { dst := some 87, op := Go.Op.fieldAddr 28 (Go.Operand.tmp 3) 1, type := 0, pos := "law.go:40", after := #[], guard := none }) (v := ?_) rfl (by kernel_rfl) (by kernel_rfl) (by kernel_rfl) (fun _ _ _ h => h) (Or.inl ⟨by rfl, ?_⟩) (HS0.out) ?_
            case refine_2 => (intro w1 hS1; obtain ⟨k1, -⟩ := hS1; obtain ⟨q0, q1, q2, q3, q4, q5, q6, q7, q8, q9, q10, q11, q12, q13⟩ := rep_at k1; clear k1; go_simp; try with_reducible rfl)
            try simp only [Act.put, List.setIfInBounds_toArray, List.set_cons_zero, List.set_cons_succ]
            refine wpAnyH_take (i := 8) (oi := { dst := some 88, op := Go.Op.load 2 (Go.Operand.tmp 87), type := 2, pos := "law.go:40", after := #[{ on := 7, ground := Go.Ground.data }], guard := none }) (v := ?_) rfl (by kernel_rfl) (by kernel_rfl) (by kernel_rfl) (fun _ _ _ h => h) (Or.inl ⟨by rfl, ?_⟩) (HS0.out) ?_
            case refine_2 => (intro w1 hS1; obtain ⟨k1, -⟩ := hS1; obtain ⟨q0, q1, q2, q3, q4, q5, q6, q7, q8, q9, q10, q11, q12, q13⟩ := rep_at k1; clear k1; go_simp; try with_reducible rfl)
            try simp only [Act.put, List.setIfInBounds_toArray, List.set_cons_zero, List.set_cons_succ]
            refine wpAnyH_take (i := 9) (oi := { dst := some 89, op := Go.Op.build 28 #[(0, Go.Operand.tmp 86), (1, Go.Operand.tmp 88)], type := 28, pos := "law.go:40", after := #[{ on := 6, ground := Go.Ground.data }, { on := 8, ground := Go.Ground.data }], guard := none }) (v := ?_) rfl (by kernel_rfl) (by kernel_rfl) (by kernel_rfl) (fun _ _ _ h => h) (Or.inl ⟨by rfl, ?_⟩) (HS0.out) ?_
            case refine_2 => (intro w1 hS1; obtain ⟨k1, -⟩ := hS1; obtain ⟨q0, q1, q2, q3, q4, q5, q6, q7, q8, q9, q10, q11, q12, q13⟩ := rep_at k1; clear k1; go_simp; try with_reducible rfl)
            try simp only [Act.put, List.setIfInBounds_toArray, List.set_cons_zero, List.set_cons_succ]
            refine wpAnyH_ready (rs := [4]) (by kernel_rfl) (by simp) ?_
            refine AllReadyH.cons (o := { dst := some 84, op := Go.Op.call { callee := Go.Callee.value (Go.Operand.func 17), args := #[Go.Operand.tmp 81, Go.Operand.tmp 83], argTypes := #[22, 2] }, type := 28, pos := "law.go:40", after := #[{ on := 1, ground := Go.Ground.data }, { on := 3, ground := Go.Ground.data }], guard := none }) rfl (fun K hK => ?_) AllReadyH.nil
            go_simp
            refine (HRF.out _).mono ?_
            rintro e X4 ⟨rfl, hb⟩
            have HS0' : Hid ((fun W => W.heap[w.heap.size]? = some (.cells #[.int .i64 cd, .int .i64 tm, .int .u64 id, .int .i64 cn, .int .i64 st, .int .i64 lv, .int .u64 ge, .int .i64 fr, .int .i64 lf, .int .i64 du, .int .i64 tl, .slice (some y0) n ca, .int .u64 nt, .int .i64 de] 28 (0, 0)) ∧ Below w.heap.size w W) X4) := Lib.hid ⟨ex_below HS0.out.1 hb, HS0.out.2.trans (hb.mono HS0.out.2.size)⟩
            clear hb
            clear HS0
            have HS0 := HS0'
            clear HS0'
            refine hK.out _ _ HS0.out (fun hHeld => ?_)
            clear hK K hHeld
            try simp only [Act.put, List.setIfInBounds_toArray, List.set_cons_zero, List.set_cons_succ]
            refine wpAnyH_ready (rs := [10]) (by kernel_rfl) (by simp) ?_
            refine AllReadyH.cons (o := { dst := some 90, op := Go.Op.call { callee := Go.Callee.value (Go.Operand.func 13), args := #[Go.Operand.tmp 84, Go.Operand.tmp 89], argTypes := #[28, 28] }, type := 4, pos := "law.go:40", after := #[{ on := 4, ground := Go.Ground.data }, { on := 9, ground := Go.Ground.data }, { on := 4, ground := Go.Ground.chain }], guard := none }) rfl (fun K hK => ?_) AllReadyH.nil
            go_simp
            refine (HSM.out _).mono ?_
            rintro e X10 ⟨rfl, hb⟩
            have HS0' : Hid ((fun W => W.heap[w.heap.size]? = some (.cells #[.int .i64 cd, .int .i64 tm, .int .u64 id, .int .i64 cn, .int .i64 st, .int .i64 lv, .int .u64 ge, .int .i64 fr, .int .i64 lf, .int .i64 du, .int .i64 tl, .slice (some y0) n ca, .int .u64 nt, .int .i64 de] 28 (0, 0)) ∧ Below w.heap.size w W) X10) := Lib.hid ⟨ex_below HS0.out.1 hb, HS0.out.2.trans (hb.mono HS0.out.2.size)⟩
            clear hb
            clear HS0
            have HS0 := HS0'
            clear HS0'
            refine hK.out _ _ HS0.out (fun hHeld => ?_)
            clear hK K hHeld
            try simp only [Act.put, List.setIfInBounds_toArray, List.set_cons_zero, List.set_cons_succ]
            refine wpAnyH_take (i := 11) (oi := { dst := some 91, op := Go.Op.move (Go.Operand.tmp 90), type := 4, pos := "law.go:40", after := #[{ on := 10, ground := Go.Ground.data }, { on := 10, ground := Go.Ground.chain }], guard := none }) (v := ?_) rfl (by kernel_rfl) (by kernel_rfl) (by kernel_rfl) (fun _ _ _ h => h) (Or.inl ⟨by rfl, ?_⟩) (HS0.out) ?_
            case refine_2 => (intro w1 hS1; obtain ⟨k1, -⟩ := hS1; obtain ⟨q0, q1, q2, q3, q4, q5, q6, q7, q8, q9, q10, q11, q12, q13⟩ := rep_at k1; clear k1; go_simp; try with_reducible rfl)
            try simp only [Act.put, List.setIfInBounds_toArray, List.set_cons_zero, List.set_cons_succ]
            refine wpAnyH_ready (rs := [12]) (by kernel_rfl) (by simp) ?_
            refine AllReadyH.cons (o := { dst := some 92, op := Go.Op.call { callee := Go.Callee.value (Go.Operand.func 11), args := #[], argTypes := #[] }, type := 4, pos := "law.go:40", after := #[{ on := 11, ground := Go.Ground.chain }, { on := 11, ground := Go.Ground.guard }], guard := some (11, true) }) rfl (fun K hK => ?_) AllReadyH.nil
            go_simp
            refine (lives19 _).mono ?_
            rintro e X12 ⟨rfl, hb⟩
            have HS0' : Hid ((fun W => W.heap[w.heap.size]? = some (.cells #[.int .i64 cd, .int .i64 tm, .int .u64 id, .int .i64 cn, .int .i64 st, .int .i64 lv, .int .u64 ge, .int .i64 fr, .int .i64 lf, .int .i64 du, .int .i64 tl, .slice (some y0) n ca, .int .u64 nt, .int .i64 de] 28 (0, 0)) ∧ Below w.heap.size w W) X12) := Lib.hid ⟨ex_below HS0.out.1 hb, HS0.out.2.trans (hb.mono HS0.out.2.size)⟩
            clear hb
            clear HS0
            have HS0 := HS0'
            clear HS0'
            refine hK.out _ _ HS0.out (fun hHeld => ?_)
            clear hK K hHeld
            try simp only [Act.put, List.setIfInBounds_toArray, List.set_cons_zero, List.set_cons_succ]
            refine wpAnyH_take (i := 13) (oi := { dst := some 93, op := Go.Op.pick (Go.Operand.tmp 91) (Go.Operand.tmp 92) (Go.Operand.const (Go.Value.bool false)), type := 4, pos := "law.go:40", after := #[{ on := 11, ground := Go.Ground.data }, { on := 12, ground := Go.Ground.data }], guard := none }) (v := ?_) rfl (by kernel_rfl) (by kernel_rfl) (by kernel_rfl) (fun _ _ _ h => h) (Or.inl ⟨by rfl, ?_⟩) (HS0.out) ?_
            case refine_2 => (intro w1 hS1; obtain ⟨k1, -⟩ := hS1; obtain ⟨q0, q1, q2, q3, q4, q5, q6, q7, q8, q9, q10, q11, q12, q13⟩ := rep_at k1; clear k1; go_simp; try with_reducible rfl)
            try simp only [Act.put, List.setIfInBounds_toArray, List.set_cons_zero, List.set_cons_succ]
            refine wpAnyH_take (i := 14) (oi := { dst := some 6, op := Go.Op.assign (Go.Operand.tmp 93), type := 4, pos := "law.go:40", after := #[{ on := 13, ground := Go.Ground.data }, { on := 12, ground := Go.Ground.chain }, { on := 0, ground := Go.Ground.phase }, { on := 1, ground := Go.Ground.phase }, { on := 2, ground := Go.Ground.phase }, { on := 3, ground := Go.Ground.phase }, { on := 4, ground := Go.Ground.phase }, { on := 5, ground := Go.Ground.phase }, { on := 6, ground := Go.Ground.phase }, { on := 7, ground := Go.Ground.phase }, { on := 8, ground := Go.Ground.phase }, { on := 9, ground := Go.Ground.phase }, { on := 10, ground := Go.Ground.phase }, { on := 11, ground := Go.Ground.phase }, { on := 12, ground := Go.Ground.phase }, { on := 13, ground := Go.Ground.phase }], guard := none }) (v := ?_) rfl (by kernel_rfl) (by kernel_rfl) (by kernel_rfl) (fun _ _ _ h => h) (Or.inl ⟨by rfl, ?_⟩) (HS0.out) ?_
            case refine_2 => (intro w1 hS1; obtain ⟨k1, -⟩ := hS1; obtain ⟨q0, q1, q2, q3, q4, q5, q6, q7, q8, q9, q10, q11, q12, q13⟩ := rep_at k1; clear k1; go_simp; try with_reducible rfl)
            try simp only [Act.put, List.setIfInBounds_toArray, List.set_cons_zero, List.set_cons_succ]
            refine wpAnyH_done (by kernel_rfl) ?_ _
            go_wp2_with fail
            go_ret
            exact ⟨rfl, HS0.out.2⟩
/- Replies: the law of what is told, for every input. -/
open Go.RowKit
set_option maxRecDepth 100000 in
theorem us_in2 {H : Type} {enc : TypeId × Value → H} {w : World} {base : Nat} {sp : Nat → Bool} {held : Bool} {fuel : Nat} {v : Value} {x : DataW H × List MemPlace}
    (h : DataW.trod enc Try.prog w base sp held fuel 26 [v] = some x) : ∃ a n c xs, v = .slice a n c ∧ Us w a n xs ∧ (a = none → c = 0) := by
  rcases Deep.open_slice Try.underlying26 h with ⟨hcs, _⟩ | ⟨x, l, c, m, nn, D, Pl, hcs, _, hl, hm, hmm, _, hi⟩
  · simp only [List.cons.injEq, and_true] at hcs
    exact ⟨_, _, _, [], hcs, Us.none w, fun _ => rfl⟩
  · simp only [List.cons.injEq, and_true] at hcs
    have hlm : l ≤ m := by rw [hmm]; split <;> omega
    have cellsB : Try.prog.cellsOf 23 = 1 := by kernel_rfl
    have key : ∀ i, i < l → ∃ t : Nat, w.cell? (x.add i) = some (.int .u64 (t : Int)) ∧ t < 18446744073709551616 := by
      intro i hil
      obtain ⟨cs', hc, ht⟩ := hi i (by omega)
      obtain ⟨f, e0, _, w0⟩ := DataW.trod_int Try.underlying23 ht
      subst e0
      rw [cellsB] at hc
      obtain ⟨_, hcl, hat⟩ := World.cells?_some hc
      have hb := tb_wfU w0
      refine ⟨f.toNat, ?_, by omega⟩
      have h1 := hat 0 (by omega)
      rw [Deep.add_add] at h1
      have e : ((f.toNat : Nat) : Int) = f := by omega
      rw [e]
      simpa using h1
    obtain ⟨f, hf⟩ := Deep.choose_lt key
    refine ⟨_, _, _, (List.range l).map f, hcs, ⟨by simp, by unfold maxLen at *; omega, fun c hc => ?_, fun i hi' => ?_⟩, fun h => by cases h⟩
    · obtain ⟨i, hi', rfl⟩ := List.mem_map.1 hc
      exact (hf i (by simpa using hi')).2
    · have h0 := (hf i hi').1
      have hs := cell_spot h0
      have hb : (x.add i).block = x.block := by unfold Addr.add; split <;> rfl
      have hx : x = ⟨x.block, x.off, none⟩ := by
        have h00 : w.cell? x = some (.int .u64 ((f 0 : Nat) : Int)) := (hf 0 (by omega)).1
        exact (cell_spot h00).1
      refine ⟨x.block, x.off, by rw [← hx], by rw [← hb]; exact hs.2, ?_⟩
      rw [← add_at, ← hx, h0]
      simp [hi']
set_option maxRecDepth 100000 in
set_option maxHeartbeats 4000000 in
theorem reply_in2 {H : Type} {enc : TypeId × Value → H} {w : World} {base b0 : Nat} {sp : Nat → Bool} {held : Bool} {v : Value} {dd : DataW H} {p : List MemPlace}
    (hv : Value.okWide Try.prog w .any b0 28 v) (h : DataW.Trod enc Try.prog w base sp held 28 v dd p) :
    ∃ cd tm id cn st lv ge fr lf du tl a n ca nt de xs, v = repV cd tm id cn st lv ge fr lf du tl a n ca nt de ∧ ReplyIn w id cn st lv ge fr lf du tl tm nt a n xs ∧ (a = none → ca = 0) := by
  have hv' := hv
  obtain ⟨cs, rfl, hsz⟩ := Go.WideShapes.okWide_struct Try.underlying28 hv
  obtain ⟨c0, c1, c2, c3, c4, c5, c6, c7, c8, c9, c10, c11, c12, c13, rfl⟩ := array14 (hsz.trans (by kernel_rfl))
  obtain ⟨fuel, hf⟩ := h
  obtain ⟨xs, n, _, _, hlen, hxl, hg⟩ := DataW.trod_struct Try.underlying28 hf
  obtain ⟨z1, z2, z3, z4, z5, z6⟩ := ry_cells
  have g0 := hg 0 _ rfl
  have g1 := hg 1 _ rfl
  have g2 := hg 2 _ rfl
  have g3 := hg 3 _ rfl
  have g4 := hg 4 _ rfl
  have g5 := hg 5 _ rfl
  simp [Value.cells, z1, z2, z3, z4, z5, z6] at g0 g1 g2 g3 g4 g5
  have hx2 : xs.length = 6 := hxl
  rw [List.getElem?_eq_getElem (by omega)] at g0 g1 g2 g3 g4 g5
  obtain ⟨cd, e0, _, w0⟩ := DataW.trod_int Try.underlying22 g0
  obtain ⟨tm, e1, _, w1⟩ := DataW.trod_int Try.underlying2 g1
  obtain ⟨nt, e4, _, w4⟩ := DataW.trod_int Try.underlying23 g4
  obtain ⟨de, e5, _, w5⟩ := DataW.trod_int Try.underlying3 g5
  simp only [List.cons.injEq, and_true] at e0 e1 e4 e5
  subst e0 e1 e4 e5
  obtain ⟨ys, n6, _, _, hl6, hy6, hg6⟩ := DataW.trod_struct Try.underlying25 g2
  have k0 := hg6 0 _ rfl
  have k1 := hg6 1 _ rfl
  have k2 := hg6 2 _ rfl
  have k3 := hg6 3 _ rfl
  have k4 := hg6 4 _ rfl
  have k5 := hg6 5 _ rfl
  have k6 := hg6 6 _ rfl
  have k7 := hg6 7 _ rfl
  have k8 := hg6 8 _ rfl
  simp [z1, z2, z3] at k0 k1 k2 k3 k4 k5 k6 k7 k8
  have hy2 : ys.length = 9 := hy6
  rw [List.getElem?_eq_getElem (by omega)] at k0 k1 k2 k3 k4 k5 k6 k7 k8
  obtain ⟨id, f0, _, u0⟩ := DataW.trod_int Try.underlying23 k0
  obtain ⟨cn, f1, _, _⟩ := DataW.trod_int Try.underlying3 k1
  obtain ⟨st, f2, _, _⟩ := DataW.trod_int Try.underlying3 k2
  obtain ⟨lv, f3, _, _⟩ := DataW.trod_int Try.underlying3 k3
  obtain ⟨ge, f4, _, u4⟩ := DataW.trod_int Try.underlying23 k4
  obtain ⟨fr, f5, _, u5⟩ := DataW.trod_int Try.underlying2 k5
  obtain ⟨lf, f6, _, _⟩ := DataW.trod_int Try.underlying2 k6
  obtain ⟨du, f7, _, _⟩ := DataW.trod_int Try.underlying2 k7
  obtain ⟨tl, f8, _, _⟩ := DataW.trod_int Try.underlying3 k8
  simp only [List.cons.injEq, and_true] at f0 f1 f2 f3 f4 f5 f6 f7 f8
  subst f0 f1 f2 f3 f4 f5 f6 f7 f8
  obtain ⟨a, m, ca, us, rfl, hU, hZ⟩ := us_in2 g3
  have hF : Fr w a := by
    intro g o ha
    subst ha
    simp only [Value.okWide, Try.underlying28] at hv'
    obtain ⟨cs, hcs, -, ts, hts, -, hrow⟩ := hv'
    injection hcs with hcs
    subst hcs
    have ht := ry_types
    rw [hts] at ht
    simp only [Option.map_some, Option.some.injEq, Prod.mk.injEq] at ht
    obtain ⟨u, hu, hc⟩ := hrow 11 _ rfl
    rw [ht.1] at hu
    have hu2 : ts[11]? = some u := hu
    rw [ht.2] at hu2
    injection hu2 with hu2
    subst hu2
    simp only [Cell.okWide, Try.underlying26, Cell.ok] at hc
    obtain ⟨_, _, _, _, row, cells, hs, _⟩ := hc
    rcases Nat.lt_or_ge g w.heap.size with hl | hl
    · exact hl
    · have hx : w.heap[g]? = none := Array.getElem?_eq_none (by omega)
      simp [World.shape?, hx] at hs
  exact ⟨cd, tm, id, cn, st, lv, ge, fr, lf, du, tl, a, m, ca, nt, de, us, rfl, ⟨hU, hF, tb_wfI w1, tb_wfU u0, tb_wfU u4, (tb_wfI u5).2, tb_wfU w4⟩, hZ⟩
/- Replies: the law of what is told, from its two cases. -/
open Go.RowKit
theorem tells_walk (cd tm id cn st lv ge fr lf du tl : Int) (a : Option Addr) (n ca : Nat) (nt de : Int) (xs : List Nat) (cd' tm' id' cn' st' lv' ge' fr' lf' du' tl' : Int) (a' : Option Addr) (n' ca' : Nat) (nt' de' : Int) (ys : List Nat) (x : Int) (w : World) (h : ReplyIn w id cn st lv ge fr lf du tl tm nt a n xs ∧ (a = none → ca = 0)) (h' : ReplyIn w id' cn' st' lv' ge' fr' lf' du' tl' tm' nt' a' n' ys ∧ (a' = none → ca' = 0)) :
    Calls Try.prog 3 #[repV cd tm id cn st lv ge fr lf du tl a n ca nt de, repV cd' tm' id' cn' st' lv' ge' fr' lf' du' tl' a' n' ca' nt' de', .int .u64 x] w fun e w' => e = .returned (.bool true) ∧ Below w.heap.size w w' := by
  by_cases hl : n ≤ 200 ∧ n' ≤ 200
  · exact tells_ok cd tm id cn st lv ge fr lf du tl a n ca nt de xs cd' tm' id' cn' st' lv' ge' fr' lf' du' tl' a' n' ca' nt' de' ys x w h.1.1 h'.1.1 h.2 h.1.2.2.2.2.2.1 hl.1 hl.2
  · exact tells_skip cd tm id cn st lv ge fr lf du tl a n ca nt de cd' tm' id' cn' st' lv' ge' fr' lf' du' tl' a' n' ca' nt' de' x w hl
end Go.Proofs.Ytnhaakdjijjinaa

import Derived.Test.YtibjboacjobaoaaMgBG
import Derived.Test.YtibjboacjobaoaaNkL
import Derived.Test.YtibjboacjobaoaaMgAP
import Derived.Test.YtibjboacjobaoaaMgAM
import Derived.Test.YtibjboacjobaoaaMgAW
import Derived.Lib.SmallJoins
import Derived.WideShapes
import Derived.ProofKit
import Derived.OpenShut
import Derived.Deep.Slices
import Derived.Test.YtibjboacjobaoaaMgBC
namespace Go.Proofs.Ytibjboacjobaoaa
open Go.RowKit
/- The chapter's example. -/
open Go.RowKit
set_option maxRecDepth 100000 in
set_option maxHeartbeats 8000000 in
theorem lives18 (w : World) : Calls Try.prog 12 #[] w fun e w' => e = .returned (.bool true) ∧ Below w.heap.size w w' := by
  have HBY := Lib.hid (fun W => bytes_noop W)
  have HRD := Lib.hid (fun v W h => read_noop v W h)
  unfold cmdV at *
  go_enter Try.func12, Try.ntmps12
  go_wp2_with fail
  refine (HBY.out w).mono ?_
  rintro e W1 ⟨v, rfl, ho, hb⟩
  have hrb : RB W1 v [1, 1, 1, 1, 1, 2] := ho.rb (by decide) (by decide)
  obtain ⟨a, cap, rfl, -, -⟩ := hrb.shape
  simp only [List.length_cons, List.length_nil, Nat.reduceAdd] at hrb ho
  have HB1 := Lib.hid hb
  have HV1 := Lib.hid hrb
  clear ho hb hrb HBY
  go_wp2_with fail
  refine (HRD.out _ W1 HV1.out).mono ?_
  rintro e W2 ⟨rfl, hb⟩
  obtain ⟨B3, s3, z3⟩ := box1 W2 #[.int .i64 1, .int .u64 1, .int .u64 2, .int .u64 0, .int .i64 0, .int .i64 0, .int .i64 0, .slice none 0 0, .slice none 0 0, .int .i64 0, .slice none 0 0, .int .i64 0, .int .i64 0] 30
  have HB3 := Lib.hid ((HB1.out.trans (hb.mono HB1.out.size)).trans (B3.mono (Nat.le_trans HB1.out.size hb.size)))
  have HV3 := Lib.hid ((HV1.out.kept hb).kept B3)
  obtain ⟨q0, q1, q2, -⟩ := cmd_at s3
  have hcv := rb_string (P := Try.prog) HV3.out 36 9 5 Try.underlying36 Try.underlying5 Try.underlying9
  have hstr : str [1, 1, 1, 1, 1, 2] = ⟨#[1, 1, 1, 1, 1, 2]⟩ := rfl
  rw [hstr] at hcv
  clear hb B3 s3 z3 HRD HV1 hstr
  go_wp2_with fail
  go_ret
  exact ⟨rfl, HB3.out⟩
/- What the law of commands looks at. -/
open Go.RowKit
set_option maxRecDepth 100000 in
set_option maxHeartbeats 8000000 in
theorem light18 (kd cl rq id cn tm off : Int) (a : Option Addr) (n ca : Nat) (b : Option Addr) (m cb : Nat) (tc : Int) (d : Option Addr) (l cd : Nat) (tr tb : Int) (w : World) (hn : n ≤ maxLen) (hm : m ≤ maxLen) :
    Calls Try.prog 11 #[cmdV kd cl rq id cn tm off a n ca b m cb tc d l cd tr tb] w fun e w' => e = .returned (.bool (decide (n ≤ 60 ∧ m ≤ 60) && decide ((l : Int) ≤ 60))) ∧ Below w.heap.size w w' := by
  have HL := Lib.hid (fun W => light10 off a n ca b m cb W hn hm)
  obtain ⟨lt, hlt⟩ : ∃ x, decide (n ≤ 60 ∧ m ≤ 60) = x := ⟨_, rfl⟩
  rw [hlt] at HL ⊢
  obtain ⟨B1, s0, sz⟩ := box1 w #[.int .i64 kd, .int .u64 cl, .int .u64 rq, .int .u64 id, .int .i64 cn, .int .i64 tm, .int .i64 off, .slice a n ca, .slice b m cb, .int .i64 tc, .slice d l cd, .int .i64 tr, .int .i64 tb] 30
  have HB1 := Lib.hid B1
  have HT0 := Lib.hid s0
  obtain ⟨q0, q1, q2, q3, q4, q5, q6, q7, q8, q9, q10, q11, q12⟩ := cmd_at s0
  obtain ⟨b2, e2⟩ : ∃ x, decide ((l : Int) ≤ 60) = x := ⟨_, rfl⟩
  rw [e2]
  clear hlt B1 s0 sz hn hm
  unfold cmdV calV at *
  cases lt
  · go_enter Try.func11, Try.ntmps11
    go_wp2_with (go_at_call 50; refine (HL.out _).mono ?_; rintro e W1 ⟨rfl, hb⟩; have HB2 := Lib.hid (HB1.out.trans (hb.mono HB1.out.size)); clear hb)
    go_ret
    exact ⟨rfl, HB2.out⟩
  · go_enter Try.func11, Try.ntmps11
    go_wp2_with fail
    refine (HL.out _).mono ?_
    rintro e W1 ⟨rfl, hb⟩
    have HB2 := Lib.hid (HB1.out.trans (hb.mono HB1.out.size))
    have HT2 := Lib.hid (ex_below HT0.out hb)
    clear hb q0 q1 q2 q3 q4 q5 q6 q7 q8 q9 q10 q11 q12
    obtain ⟨q0, q1, q2, q3, q4, q5, q6, q7, q8, q9, q10, q11, q12⟩ := cmd_at HT2.out
    go_wp2_with fail
    go_ret
    exact ⟨by simp, HB2.out⟩
/- How a command reads that came in. -/
open Go.RowKit
theorem cellsLevel : Try.prog.cellsOf 164 = 2 := by kernel_rfl
theorem cellsInt : Try.prog.cellsOf 3 = 1 := by kernel_rfl
set_option maxRecDepth 100000 in
theorem level_cells {H : Type} {enc : TypeId × Value → H} {w : World} {base : Nat} {sp : Nat → Bool} {held : Bool} {fuel : Nat} {cs : List Value} {x : DataW H × List MemPlace}
    (h : DataW.trod enc Try.prog w base sp held fuel 164 cs = some x) :
    ∃ f t, cs = [.int .i64 f, .int .i64 t] ∧ (Lit.int .i64 f).wf = true ∧ (Lit.int .i64 t).wf = true := by
  obtain ⟨xs, n, _, _, hlen, hxl, hg⟩ := DataW.trod_struct Try.underlying164 h
  rw [cellsLevel] at hlen
  match cs, hlen with
  | [c0, c1], _ =>
    have g0 := hg 0 _ rfl
    have g1 := hg 1 _ rfl
    simp [cellsI64, cellsInt] at g0 g1
    have hx2 : xs.length = 2 := hxl
    rw [List.getElem?_eq_getElem (by omega)] at g0 g1
    obtain ⟨f, e0, _, w0⟩ := DataW.trod_int Try.underlying2 g0
    obtain ⟨t, e1, _, w1⟩ := DataW.trod_int Try.underlying3 g1
    simp only [List.cons.injEq, and_true] at e0 e1
    subst e0 e1
    exact ⟨f, t, rfl, w0, w1⟩
set_option maxRecDepth 100000 in
theorem levels_in {H : Type} {enc : TypeId × Value → H} {w : World} {base : Nat} {sp : Nat → Bool} {held : Bool} {fuel : Nat} {a : Option Addr} {n cap : Nat} {x : DataW H × List MemPlace}
    (h : DataW.trod enc Try.prog w base sp held fuel 26 (Value.slice a n cap).cells.toList = some x) : ∃ F T, Sps w a n F T := by
  rcases Deep.open_slice Try.underlying26 h with ⟨hcs, _⟩ | ⟨x, l, c, m, nn, D, Pl, hcs, _, hl, hm, hmm, _, hi⟩
  · simp [Value.cells] at hcs
    obtain ⟨rfl, rfl, rfl⟩ := hcs
    exact ⟨fun _ => 0, fun _ => 0, by simp, fun h => by omega⟩
  · simp [Value.cells] at hcs
    obtain ⟨rfl, rfl, rfl⟩ := hcs
    have hlm : n ≤ m := by rw [hmm]; split <;> omega
    have hex : 0 < n → x = ⟨x.block, x.off, none⟩ ∧ x.block < w.heap.size := by
      intro h0
      obtain ⟨cs', hc, ht⟩ := hi 0 (by omega)
      obtain ⟨_, _, rfl, _⟩ := level_cells ht
      rw [cellsLevel] at hc
      obtain ⟨_, hcl, hat⟩ := World.cells?_some hc
      have e00 := cell_spot ((hat 0 (by omega)).trans (List.getElem?_cons_zero))
      have e0 := e00.1
      have e1 := e00.2
      rw [Deep.add_add] at e0 e1
      refine ⟨?_, by simpa [Addr.add] using e1⟩
      cases x; simp [Addr.add] at e0; simp [e0]
    have key : ∀ i, i < n → ∃ y : Int × Int, w.cell? ⟨x.block, x.off + i * 2, none⟩ = some (.int .i64 y.1) ∧ w.cell? ⟨x.block, x.off + i * 2 + 1, none⟩ = some (.int .i64 y.2) ∧
        (-9223372036854775808 ≤ y.1 ∧ y.1 ≤ 9223372036854775807 ∧ -9223372036854775808 ≤ y.2 ∧ y.2 ≤ 9223372036854775807) := by
      intro i hil
      obtain ⟨cs', hc, ht⟩ := hi i (by omega)
      obtain ⟨f, t, rfl, wf, wt⟩ := level_cells ht
      rw [cellsLevel] at hc
      obtain ⟨_, hcl, hat⟩ := World.cells?_some hc
      have bf := bounds_i64 wf
      have bt := bounds_i64 wt
      have ex := (hex (by omega)).1
      refine ⟨⟨f, t⟩, ?_, ?_, ?_⟩
      · have h1 := hat 0 (by omega)
        rw [Deep.add_add, ex, add_at, ← Nat.add_assoc] at h1
        exact h1
      · have h1 := hat 1 (by omega)
        rw [Deep.add_add, ex, add_at, ← Nat.add_assoc] at h1
        exact h1
      · show -9223372036854775808 ≤ f ∧ f ≤ 9223372036854775807 ∧ -9223372036854775808 ≤ t ∧ t ≤ 9223372036854775807
        omega
    obtain ⟨f, hf⟩ := Deep.choose_lt key
    exact ⟨fun i => (f i).1, fun i => (f i).2, by unfold maxLen at *; omega, fun h0 => ⟨x.block, x.off, by rw [← (hex h0).1], (hex h0).2, fun k hk => hf k hk⟩⟩
set_option maxRecDepth 100000 in
theorem lslice_form {H : Type} {enc : TypeId × Value → H} {w : World} {base : Nat} {sp : Nat → Bool} {held : Bool} {fuel : Nat} {v : Value} {x : DataW H × List MemPlace}
    (h : DataW.trod enc Try.prog w base sp held fuel 26 [v] = some x) : ∃ a n c, v = .slice a n c := by
  rcases Deep.open_slice Try.underlying26 h with ⟨hcs, _⟩ | ⟨x, l, c, m, nn, D, Pl, hcs, _⟩
  · simp only [List.cons.injEq, and_true] at hcs
    exact ⟨_, _, _, hcs⟩
  · simp only [List.cons.injEq, and_true] at hcs
    exact ⟨_, _, _, hcs⟩
theorem array13 {α : Type} {cs : Array α} (h : cs.size = 13) : ∃ c0 c1 c2 c3 c4 c5 c6 c7 c8 c9 c10 c11 c12, cs = #[c0, c1, c2, c3, c4, c5, c6, c7, c8, c9, c10, c11, c12] := by
  obtain ⟨l⟩ := cs
  match l, h with
  | [c0, c1, c2, c3, c4, c5, c6, c7, c8, c9, c10, c11, c12], _ => exact ⟨c0, c1, c2, c3, c4, c5, c6, c7, c8, c9, c10, c11, c12, rfl⟩
theorem nk_cells : Try.prog.cellsOf 2 = 1 ∧ Try.prog.cellsOf 22 = 1 ∧ Try.prog.cellsOf 3 = 1 ∧ Try.prog.cellsOf 23 = 1 ∧ Try.prog.cellsOf 26 = 1 ∧ Try.prog.cellsOf 25 = 3 ∧ Try.prog.cellsOf 28 = 4 := ⟨by kernel_rfl, by kernel_rfl, by kernel_rfl, by kernel_rfl, by kernel_rfl, by kernel_rfl, by kernel_rfl⟩
theorem nk_wfU {n : Int} (h : (Lit.int .u64 n).wf = true) : 0 ≤ n ∧ n < 18446744073709551616 := by
  simp [Lit.wf, IntKind.min, IntKind.max, IntKind.signed, IntKind.bits] at h
  omega
theorem nk_wfI {n : Int} (h : (Lit.int .i64 n).wf = true) : -9223372036854775808 ≤ n ∧ n ≤ 9223372036854775807 := by
  simp [Lit.wf, IntKind.min, IntKind.max, IntKind.signed, IntKind.bits] at h
  omega
/-- What is told of a command that came in. -/
def CmdIn (w : World) (kd cl rq id cn tm off : Int) (a : Option Addr) (n : Nat) (b : Option Addr) (m : Nat) (tc : Int) (d : Option Addr) (l : Nat) (tr tb : Int) (F T G U B P : Nat → Int) : Prop :=
  Sps w a n F T ∧ Sps w b m G U ∧ Sps w d l B P ∧ (0 ≤ cl ∧ cl < 18446744073709551616) ∧ (0 ≤ rq ∧ rq < 18446744073709551616) ∧ (0 ≤ id ∧ id < 18446744073709551616) ∧ (-9223372036854775808 ≤ tm ∧ tm ≤ 9223372036854775807) ∧ (-9223372036854775808 ≤ kd ∧ kd ≤ 9223372036854775807)
set_option maxRecDepth 100000 in
set_option maxHeartbeats 4000000 in
theorem cmd_in {H : Type} {enc : TypeId × Value → H} {w : World} {base b0 : Nat} {r : Reach} {sp : Nat → Bool} {held : Bool} {v : Value} {dd : DataW H} {p : List MemPlace}
    (hv : Value.okWide Try.prog w r b0 30 v) (h : DataW.Trod enc Try.prog w base sp held 30 v dd p) :
    ∃ kd cl rq id cn tm off a n ca b m cb tc d l cd tr tb F T G U B P, v = cmdV kd cl rq id cn tm off a n ca b m cb tc d l cd tr tb ∧ CmdIn w kd cl rq id cn tm off a n b m tc d l tr tb F T G U B P := by
  obtain ⟨cs, rfl, hsz⟩ := Go.WideShapes.okWide_struct Try.underlying30 hv
  obtain ⟨c0, c1, c2, c3, c4, c5, c6, c7, c8, c9, c10, c11, c12, rfl⟩ := array13 (hsz.trans (by kernel_rfl))
  obtain ⟨fuel, hf⟩ := h
  obtain ⟨xs, n, _, _, hlen, hxl, hg⟩ := DataW.trod_struct Try.underlying30 hf
  obtain ⟨z1, z2, z3, z4, z5, z6, z7⟩ := nk_cells
  have g0 := hg 0 _ rfl
  have g1 := hg 1 _ rfl
  have g2 := hg 2 _ rfl
  have g3 := hg 3 _ rfl
  have g4 := hg 4 _ rfl
  have g5 := hg 5 _ rfl
  have g6 := hg 6 _ rfl
  have g7 := hg 7 _ rfl
  simp [Value.cells, z1, z2, z3, z6, z7] at g0 g1 g2 g3 g4 g5 g6 g7
  have hx2 : xs.length = 8 := hxl
  rw [List.getElem?_eq_getElem (by omega)] at g0 g1 g2 g3 g4 g5 g6 g7
  obtain ⟨kd, e0, _, w0⟩ := DataW.trod_int Try.underlying3 g0
  obtain ⟨cl, e1, _, w1⟩ := DataW.trod_int Try.underlying22 g1
  obtain ⟨rq, e2, _, w2⟩ := DataW.trod_int Try.underlying22 g2
  obtain ⟨id, e3, _, w3⟩ := DataW.trod_int Try.underlying22 g3
  obtain ⟨cn, e4, _, w4⟩ := DataW.trod_int Try.underlying3 g4
  obtain ⟨tm, e5, _, w5⟩ := DataW.trod_int Try.underlying2 g5
  simp only [List.cons.injEq, and_true] at e0 e1 e2 e3 e4 e5
  subst e0 e1 e2 e3 e4 e5
  obtain ⟨ys, n6, _, _, hl6, hy6, hg6⟩ := DataW.trod_struct Try.underlying25 g6
  have k0 := hg6 0 _ rfl
  have k1 := hg6 1 _ rfl
  have k2 := hg6 2 _ rfl
  simp [z1, z4] at k0 k1 k2
  have hy2 : ys.length = 3 := hy6
  rw [List.getElem?_eq_getElem (by omega)] at k0 k1 k2
  obtain ⟨off, e6, _, _⟩ := DataW.trod_int Try.underlying2 k0
  simp only [List.cons.injEq, and_true] at e6
  subst e6
  obtain ⟨a, n, ca, rfl⟩ := slice_form k1
  obtain ⟨b, m, cb, rfl⟩ := slice_form k2
  obtain ⟨F, T, hS⟩ := spans_in k1
  obtain ⟨G, U, hR⟩ := spans_in k2
  obtain ⟨us, n7, _, _, hl7, hu7, hg7⟩ := DataW.trod_struct Try.underlying28 g7
  have j0 := hg7 0 _ rfl
  have j1 := hg7 1 _ rfl
  have j2 := hg7 2 _ rfl
  have j3 := hg7 3 _ rfl
  simp [z1, z3, z5] at j0 j1 j2 j3
  have hu2 : us.length = 4 := hu7
  rw [List.getElem?_eq_getElem (by omega)] at j0 j1 j2 j3
  obtain ⟨tc, e7, _, _⟩ := DataW.trod_int Try.underlying3 j0
  obtain ⟨tr, e8, _, _⟩ := DataW.trod_int Try.underlying3 j2
  obtain ⟨tb, e9, _, _⟩ := DataW.trod_int Try.underlying2 j3
  simp only [List.cons.injEq, and_true] at e7 e8 e9
  subst e7 e8 e9
  obtain ⟨d, l, cd, rfl⟩ := lslice_form j1
  obtain ⟨B, P, hD⟩ := levels_in j1
  exact ⟨kd, cl, rq, id, cn, tm, off, a, n, ca, b, m, cb, tc, d, l, cd, tr, tb, F, T, G, U, B, P, rfl, hS, hR, hD, nk_wfU w1, nk_wfU w2, nk_wfU w3, nk_wfI w5, nk_wfI w0⟩
/- Commands: the law of what may be and what is the same: its walk. -/
open Go.RowKit
set_option maxRecDepth 100000 in
set_option maxHeartbeats 16000000 in
theorem ctells_skip (kd cl rq id cn tm off : Int) (a : Option Addr) (n ca : Nat) (b : Option Addr) (m cb : Nat) (tc : Int) (d : Option Addr) (l cd : Nat) (tr tb : Int) (F T G U B P : Nat → Int) (kd' cl' rq' id' cn' tm' off' : Int) (a' : Option Addr) (n' ca' : Nat) (b' : Option Addr) (m' cb' : Nat) (tc' : Int) (d' : Option Addr) (l' cd' : Nat) (tr' tb' : Int) (F' T' G' U' B' P' : Nat → Int) (kind : Int) (w : World) (hS : Sps w a n F T) (hR : Sps w b m G U) (hD : Sps w d l B P) (hS' : Sps w a' n' F' T') (hR' : Sps w b' m' G' U') (hD' : Sps w d' l' B' P') (hl : ((decide (n ≤ 60 ∧ m ≤ 60) && decide ((l : Int) ≤ 60)) && (decide (n' ≤ 60 ∧ m' ≤ 60) && decide ((l' : Int) ≤ 60))) = false) :
    Calls Try.prog 3 #[cmdV kd cl rq id cn tm off a n ca b m cb tc d l cd tr tb, cmdV kd' cl' rq' id' cn' tm' off' a' n' ca' b' m' cb' tc' d' l' cd' tr' tb', .int .i64 kind] w fun e w' => e = .returned (.bool true) ∧ Below w.heap.size w w' := by
  have HL1 := Lib.hid (fun W => light18 kd cl rq id cn tm off a n ca b m cb tc d l cd tr tb W hS.1 hR.1)
  have HL2 := Lib.hid (fun W => light18 kd' cl' rq' id' cn' tm' off' a' n' ca' b' m' cb' tc' d' l' cd' tr' tb' W hS'.1 hR'.1)
  have HLV := Lib.hid (fun W => lives18 W)
  clear hS hR hD hS' hR' hD'
  obtain ⟨l1, hl1⟩ : ∃ x, (decide (n ≤ 60 ∧ m ≤ 60) && decide ((l : Int) ≤ 60)) = x := ⟨_, rfl⟩
  obtain ⟨l2, hl2⟩ : ∃ x, (decide (n' ≤ 60 ∧ m' ≤ 60) && decide ((l' : Int) ≤ 60)) = x := ⟨_, rfl⟩
  rw [hl1, hl2] at hl
  rw [hl1] at HL1
  rw [hl2] at HL2
  clear hl1 hl2
  obtain ⟨B2, s0, s1, sz⟩ := box2 w #[.int .i64 kd, .int .u64 cl, .int .u64 rq, .int .u64 id, .int .i64 cn, .int .i64 tm, .int .i64 off, .slice a n ca, .slice b m cb, .int .i64 tc, .slice d l cd, .int .i64 tr, .int .i64 tb] #[.int .i64 kd', .int .u64 cl', .int .u64 rq', .int .u64 id', .int .i64 cn', .int .i64 tm', .int .i64 off', .slice a' n' ca', .slice b' m' cb', .int .i64 tc', .slice d' l' cd', .int .i64 tr', .int .i64 tb'] 30 30
  have HB2 := Lib.hid B2
  have HT2 := Lib.hid (And.intro s0 s1)
  obtain ⟨q0, q1, q2, q3, q4, q5, q6, q7, q8, q9, q10, q11, q12⟩ := cmd_at s0
  obtain ⟨r0, r1, r2, r3, r4, r5, r6, r7, r8, r9, r10, r11, r12⟩ := cmd_at s1
  clear B2 s0 s1 sz
  unfold cmdV at *
  go_enter Try.func3, Try.ntmps3
  go_wp2_with fail
  generalize (w.alloc (.cells #[.int .i64 kd, .int .u64 cl, .int .u64 rq, .int .u64 id, .int .i64 cn, .int .i64 tm, .int .i64 off, .slice a n ca, .slice b m cb, .int .i64 tc, .slice d l cd, .int .i64 tr, .int .i64 tb] 30)).alloc (.cells #[.int .i64 kd', .int .u64 cl', .int .u64 rq', .int .u64 id', .int .i64 cn', .int .i64 tm', .int .i64 off', .slice a' n' ca', .slice b' m' cb', .int .i64 tc', .slice d' l' cd', .int .i64 tr', .int .i64 tb'] 30) = W2 at HB2 HT2 q0 q1 q2 q3 q4 q5 q6 q7 q8 q9 q10 q11 q12 r0 r1 r2 r3 r4 r5 r6 r7 r8 r9 r10 r11 r12 ⊢
  refine (HL1.out W2).mono ?_
  rintro e W3 ⟨rfl, hb⟩
  have HB3 := Lib.hid (HB2.out.trans (hb.mono HB2.out.size))
  have HT3 := Lib.hid (And.intro (ex_below HT2.out.1 hb) (ex_below HT2.out.2 hb))
  clear hb HB2 HT2 q0 q1 q2 q3 q4 q5 q6 q7 q8 q9 q10 q11 q12 r0 r1 r2 r3 r4 r5 r6 r7 r8 r9 r10 r11 r12
  obtain ⟨q0, q1, q2, q3, q4, q5, q6, q7, q8, q9, q10, q11, q12⟩ := cmd_at HT3.out.1
  obtain ⟨r0, r1, r2, r3, r4, r5, r6, r7, r8, r9, r10, r11, r12⟩ := cmd_at HT3.out.2
  cases l1
  · go_wp2_with fail
    refine (HLV.out _).mono ?_
    rintro e W4 ⟨rfl, hb⟩
    have HB4 := Lib.hid (HB3.out.trans (hb.mono HB3.out.size))
    clear hb
    go_wp2_with fail
    go_ret
    exact ⟨rfl, HB4.out⟩
  · obtain rfl : l2 = false := by simpa using hl
    go_wp2_with fail
    refine (HL2.out _).mono ?_
    rintro e W4 ⟨rfl, hb⟩
    have HB4 := Lib.hid (HB3.out.trans (hb.mono HB3.out.size))
    clear hb
    go_wp2_with fail
    refine (HLV.out _).mono ?_
    rintro e W5 ⟨rfl, hb⟩
    have HB5 := Lib.hid (HB4.out.trans (hb.mono HB4.out.size))
    clear hb
    go_wp2_with fail
    go_ret
    exact ⟨rfl, HB5.out⟩
end Go.Proofs.Ytibjboacjobaoaa

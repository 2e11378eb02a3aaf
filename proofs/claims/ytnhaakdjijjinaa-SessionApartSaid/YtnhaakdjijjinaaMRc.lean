import Derived.Test.YtnhaakdjijjinaaMRb
import Derived.Test.YtnhaakdjijjinaaTbH
import Derived.Lib.SmallJoins
import Derived.WideShapes
import Derived.ProofKit
import Derived.OpenShut
import Derived.Deep.Slices
namespace Go.Proofs.Ytnhaakdjijjinaa
open Go.RowKit
/- Replies: their bytes; the example. -/
open Go.RowKit
/-- Where a row lies. -/
def Fr (w : World) (a : Option Addr) : Prop := ∀ g o, a = some ⟨g, o, none⟩ → g < w.heap.size
theorem Fr.none (w : World) : Fr w none := fun _ _ h => by cases h
set_option maxRecDepth 100000 in
set_option maxHeartbeats 8000000 in
theorem bytes19_no (cd tm id cn st lv ge fr lf du tl : Int) (a : Option Addr) (n ca : Nat) (nt de : Int) (w : World) (hfr : fr ≤ 9223372036854775807) (hs : repS cd tm id cn st lv ge fr lf du tl n de = false) :
    Calls Try.prog 18 #[repV cd tm id cn st lv ge fr lf du tl a n ca nt de] w fun e w' => e = .returned (.tuple #[.slice none 0 0, .int .i64 2]) ∧ Below w.heap.size w w' := by
  have HSN : Hid (∀ W, Calls Try.prog 14 #[repV cd tm id cn st lv ge fr lf du tl a n ca nt de] W fun e w' => e = .returned (.bool false) ∧ Below W.heap.size W w') := Lib.hid (fun W => by rw [← hs]; exact rsound19 cd tm id cn st lv ge fr lf du tl a n ca nt de W hfr)
  obtain ⟨B1, s0, -⟩ := box1 w #[.int .i64 cd, .int .i64 tm, .int .u64 id, .int .i64 cn, .int .i64 st, .int .i64 lv, .int .u64 ge, .int .i64 fr, .int .i64 lf, .int .i64 du, .int .i64 tl, .slice a n ca, .int .u64 nt, .int .i64 de] 28
  obtain ⟨q0, q1, q2, q3, q4, q5, q6, q7, q8, q9, q10, q11, q12, q13⟩ := rep_at s0
  have HB := Lib.hid B1
  clear B1 s0 hs hfr
  unfold repV at *
  go_enter Try.func18, Try.ntmps18
  go_wp2_with fail
  refine (HSN.out _).mono ?_
  rintro e w1 ⟨rfl, hb⟩
  have HB1 := Lib.hid (HB.out.trans (hb.mono HB.out.size))
  clear hb q0 q1 q2 q3 q4 q5 q6 q7 q8 q9 q10 q11 q12 q13
  go_wp2_with fail
  go_ret2
  exact ⟨rfl, HB1.out⟩
set_option maxRecDepth 100000 in
set_option maxHeartbeats 16000000 in
theorem bytes19_yes (c : Nat) (tm : Int) (n1 n2 n3 n4 n5 n6 n7 n8 n9 : Nat) (b1 : n1 < 18446744073709551616) (b2 : n2 < 9223372036854775808) (b3 : n3 < 9223372036854775808) (b4 : n4 < 9223372036854775808) (b5 : n5 < 18446744073709551616) (b6 : n6 < 9223372036854775808) (b7 : n7 < 9223372036854775808) (b8 : n8 < 9223372036854775808) (b9 : n9 < 9223372036854775808) (a : Option Addr) (n ca : Nat) (xs : List Nat) (nt de : Nat) (hc : c < 9223372036854775808) (ht0 : -9223372036854775808 ≤ tm) (ht1 : tm ≤ 9223372036854775807) (hnt : nt < 18446744073709551616) (hde : de < 9223372036854775808) (hn : n ≤ 100000) (w : World) (hS : Us w a n xs) (hF : Fr w a) (hs : repS (c : Int) tm (n1 : Int) (n2 : Int) (n3 : Int) (n4 : Int) (n5 : Int) (n6 : Int) (n7 : Int) (n8 : Int) (n9 : Int) n (de : Int) = true) :
    Calls Try.prog 18 #[repV c tm n1 n2 n3 n4 n5 n6 n7 n8 n9 a n ca nt de] w fun e w' => ∃ v, e = .returned (.tuple #[v, .int .i64 0]) ∧ OB w' w.heap.size v (repW c tm (noT n1 n2 n3 n4 n5 n6 n7 n8 n9) [n1, n2, n3, n4, n5, n6, n7, n8, n9] xs nt de) ∧ Below w.heap.size w w' := by
  have HSN : Hid (∀ W, Calls Try.prog 14 #[repV c tm n1 n2 n3 n4 n5 n6 n7 n8 n9 a n ca nt de] W fun e w' => e = .returned (.bool true) ∧ Below W.heap.size W w') := Lib.hid (fun W => by rw [← hs]; exact rsound19 c tm n1 n2 n3 n4 n5 n6 n7 n8 n9 a n ca nt de W (by omega))
  have HPU : Hid (∀ (b base : Nat) (v : Value) (W : World), WR W b base v [] → Us W a n xs → (∀ g o, a = some ⟨g, o, none⟩ → g < base ∧ g ≠ b) → Calls Try.prog 19 #[.pointer (some ⟨b, 0, none⟩), repV c tm n1 n2 n3 n4 n5 n6 n7 n8 n9 a n ca nt de] W fun e w' => e = .returned (.tuple #[]) ∧ Wrote b base v W (repW c tm (noT n1 n2 n3 n4 n5 n6 n7 n8 n9) [n1, n2, n3, n4, n5, n6, n7, n8, n9] xs nt de) w') := Lib.hid (fun b base v W h1 h2 h3 => by
    have h := put19 b base v [] (Nat.zero_le _) c tm n1 n2 n3 n4 n5 n6 n7 n8 n9 b1 b2 b3 b4 b5 b6 b7 b8 b9 a n ca xs nt de hc ht0 ht1 hnt hde hn W h1 h2 h3
    rw [List.nil_append] at h
    exact h)
  have HLN : Hid ((repW c tm (noT n1 n2 n3 n4 n5 n6 n7 n8 n9) [n1, n2, n3, n4, n5, n6, n7, n8, n9] xs nt de).length ≤ 10000000) := Lib.hid (by
    have h1 := num_len9 0 c (by omega)
    have h2 := intB_len9 tm ht0 ht1
    have h3 := flagB_len9 (!noT n1 n2 n3 n4 n5 n6 n7 n8 n9)
    have h4 : (tkW (noT n1 n2 n3 n4 n5 n6 n7 n8 n9) [n1, n2, n3, n4, n5, n6, n7, n8, n9]).length ≤ 81 := by
      unfold tkW
      split
      · simp
      · exact flat_len (num 0) 9 _ (fun x hx => num_len9 0 x (nine_nums n1 n2 n3 n4 n5 n6 n7 n8 n9 b1 b2 b3 b4 b5 b6 b7 b8 b9 x hx))
    have h5 := num_len9 0 xs.length (by have := hS.1; omega)
    have h6 : (nums xs).length ≤ 9 * xs.length := flat_len (num 0) 9 xs (fun x hx => num_len9 0 x (hS.2.2.1 x hx))
    have h7 := num_len9 0 nt hnt
    have h8 := num_len9 0 de (by omega)
    have h9 := hS.1
    unfold repW
    simp only [List.length_append]
    omega)
  obtain ⟨X, hX⟩ : ∃ X, repW c tm (noT n1 n2 n3 n4 n5 n6 n7 n8 n9) [n1, n2, n3, n4, n5, n6, n7, n8, n9] xs nt de = X := ⟨_, rfl⟩
  rw [hX] at HPU HLN ⊢
  obtain ⟨B1, s0, -⟩ := box1 w #[.int .i64 (c : Int), .int .i64 tm, .int .u64 (n1 : Int), .int .i64 (n2 : Int), .int .i64 (n3 : Int), .int .i64 (n4 : Int), .int .u64 (n5 : Int), .int .i64 (n6 : Int), .int .i64 (n7 : Int), .int .i64 (n8 : Int), .int .i64 (n9 : Int), .slice a n ca, .int .u64 (nt : Int), .int .i64 (de : Int)] 28
  obtain ⟨q0, q1, q2, q3, q4, q5, q6, q7, q8, q9, q10, q11, q12, q13⟩ := rep_at s0
  have HB := Lib.hid B1
  have HS0 := Lib.hid s0
  have HUS := Lib.hid (hS.kept B1)
  have HF := Lib.hid hF
  clear b1 b2 b3 b4 b5 b6 b7 b8 b9 hc ht0 ht1 hnt hde hn hS hF hs hX B1 s0
  unfold repV at *
  go_enter Try.func18, Try.ntmps18
  go_wp2_with fail
  generalize w.alloc (.cells #[.int .i64 (c : Int), .int .i64 tm, .int .u64 (n1 : Int), .int .i64 (n2 : Int), .int .i64 (n3 : Int), .int .i64 (n4 : Int), .int .u64 (n5 : Int), .int .i64 (n6 : Int), .int .i64 (n7 : Int), .int .i64 (n8 : Int), .int .i64 (n9 : Int), .slice a n ca, .int .u64 (nt : Int), .int .i64 (de : Int)] 28) = W0 at HB HS0 HUS q0 q1 q2 q3 q4 q5 q6 q7 q8 q9 q10 q11 q12 q13 ⊢
  refine (HSN.out _).mono ?_
  rintro e W1 ⟨rfl, hb⟩
  have HB1 := Lib.hid (HB.out.trans (hb.mono HB.out.size))
  have HS1 := Lib.hid (ex_below HS0.out hb)
  have HU1 := Lib.hid (HUS.out.kept hb)
  clear hb q0 q1 q2 q3 q4 q5 q6 q7 q8 q9 q10 q11 q12 q13 HS0 HUS HB HSN
  obtain ⟨g, hg⟩ : ∃ g, W1.heap.size = g := ⟨_, rfl⟩
  obtain ⟨B2, s2, z2⟩ := box1 W1 #[.slice none 0 0] 39
  rw [hg] at s2 z2
  have HGE : Hid (w.heap.size ≤ g) := Lib.hid (by rw [← hg]; exact HB1.out.size)
  have HWR : Hid (WR (W1.alloc (.cells #[.slice none 0 0] 39)) g (g + 1) (.slice none 0 0) []) := Lib.hid ⟨s2, Nat.lt_succ_self g, by omega, World.ownsRow_nil _ _ _ _, by simp⟩
  have HB2 := Lib.hid (HB1.out.trans (B2.mono HB1.out.size))
  have HU2 := Lib.hid (HU1.out.kept B2)
  have HZ2 := Lib.hid z2
  obtain ⟨q0, q1, q2, q3, q4, q5, q6, q7, q8, q9, q10, q11, q12, q13⟩ := rep_at (ex_below HS1.out B2)
  obtain ⟨r0, r1, r2, r3, r4, r5, r6, r7, r8, r9, r10, r11, r12, r13⟩ := rep_at HS1.out
  clear B2 s2 z2 HU1
  go_wp2_with fail
  clear q0 q1 q2 q3 q4 q5 q6 q7 q8 q9 q10 q11 q12 q13 r0 r1 r2 r3 r4 r5 r6 r7 r8 r9 r10 r11 r12 r13
  generalize W1.alloc (.cells #[.slice none 0 0] 39) = W2 at HWR HB2 HU2 HZ2 ⊢
  first | (rw [hg]) | skip
  refine (HPU.out g (g + 1) _ W2 HWR.out HU2.out (fun g' o h => by have h1 := HF.out g' o h; have h2 := HGE.out; omega)).mono ?_
  rintro e W3 ⟨rfl, v3, hw3, ht3, hm3⟩
  have HB3 := Lib.hid (Turn.outside ht3 HB2.out HB2.out.size HGE.out (by simp [Value.ownBlock]))
  have hby := bytes_wr g (g + 1) v3 X W3 hw3 HLN.out
  clear hw3 ht3 hm3
  go_wp2_with fail
  refine hby.mono ?_
  rintro e W4 ⟨v4, rfl, ho4, hb4⟩
  have HB4 := Lib.hid (HB3.out.trans (hb4.mono HB3.out.size))
  have HO4 := Lib.hid (ho4.mono HB3.out.size)
  clear ho4 hb4 hby
  go_wp2_with fail
  go_ret2
  exact ⟨_, rfl, HO4.out, HB4.out⟩
/- Replies: the chapter's example; how a reply reads that came in. -/
open Go.RowKit
theorem ex_bytes : repW 31 0 (noT ((0 : Nat) : Int) ((0 : Nat) : Int) ((0 : Nat) : Int) ((0 : Nat) : Int) ((0 : Nat) : Int) ((0 : Nat) : Int) ((0 : Nat) : Int) ((0 : Nat) : Int) ((0 : Nat) : Int)) [0, 0, 0, 0, 0, 0, 0, 0, 0] [] 0 0 = [1, 31, 0, 0, 0, 0, 0] := by decide
theorem ex_ok : yOk [1, 31, 0, 0, 0, 0, 0] = true := by decide
theorem ex_code : nN 99 [1, 31, 0, 0, 0, 0, 0] = 31 := by decide
set_option maxRecDepth 100000 in
set_option maxHeartbeats 8000000 in
theorem lives19 (w : World) : Calls Try.prog 11 #[] w fun e w' => e = .returned (.bool true) ∧ Below w.heap.size w w' := by
  have HRF := Lib.hid (fun W => refused_any 31 0 W)
  have HBY : Hid (∀ W, Calls Try.prog 18 #[repV 31 0 0 0 0 0 0 0 0 0 0 none 0 0 0 0] W fun e w' => ∃ v, e = .returned (.tuple #[v, .int .i64 0]) ∧ OB w' W.heap.size v [1, 31, 0, 0, 0, 0, 0] ∧ Below W.heap.size W w') := Lib.hid (fun W => by
    have h := bytes19_yes 31 0 0 0 0 0 0 0 0 0 0 (by omega) (by omega) (by omega) (by omega) (by omega) (by omega) (by omega) (by omega) (by omega) none 0 0 [] 0 0 (by omega) (by omega) (by omega) (by omega) (by omega) (by omega) W (Us.none W) (Fr.none W) (by decide)
    rw [ex_bytes] at h
    exact h)
  have HRD : Hid (∀ b W, RR W b [1, 31, 0, 0, 0, 0, 0] false → Calls Try.prog 21 #[.pointer (some ⟨b, 0, none⟩)] W fun e w' => ∃ tm id cn st lv ge fr lf du tl nt de a n ca, e = .returned (.tuple #[repV 31 tm id cn st lv ge fr lf du tl a n ca nt de, .bool true]) ∧ Rd b W w') := Lib.hid (fun b W h => (read19 b _ false W h).mono fun e w' hh => by
    obtain ⟨a', ca', h1, -, -, h4⟩ := hh.1 ex_ok
    unfold yV at h1
    rw [ex_code] at h1
    exact ⟨_, _, _, _, _, _, _, _, _, _, _, _, _, _, _, h1, h4⟩)
  unfold repV at *
  go_enter Try.func11, Try.ntmps11
  go_wp2_with fail
  refine (HRF.out w).mono ?_
  rintro e W0 ⟨rfl, hb⟩
  have HB0 := Lib.hid hb
  clear hb HRF
  go_wp2_with fail
  refine (HBY.out W0).mono ?_
  rintro e W1 ⟨v, rfl, ho, hb⟩
  have hrb : RB W1 v [1, 31, 0, 0, 0, 0, 0] := ho.rb (by decide) (by decide)
  obtain ⟨a, cap, rfl, -, -⟩ := hrb.shape
  simp only [List.length_cons, List.length_nil, Nat.reduceAdd] at hrb ho
  have HB1 := Lib.hid (HB0.out.trans (hb.mono HB0.out.size))
  have HV1 := Lib.hid hrb
  have hop := open_any _ _ _ hrb (by simp)
  clear ho hb hrb HBY HB0
  unfold Opens at hop
  go_wp2_with fail
  refine hop.mono ?_
  rintro e W2 ⟨rb, rfl, hge, hr, hb⟩
  have HB2 := Lib.hid (HB1.out.trans (hb.mono HB1.out.size))
  have HV2 := Lib.hid (HV1.out.kept hb)
  have HR2 := Lib.hid hr
  have HGE : Hid (w.heap.size ≤ rb ∧ (Value.slice a 7 cap).ownBlock ≠ some rb) := Lib.hid ⟨Nat.le_trans HB1.out.size hge, fun h => by
    rcases HV1.out.2.2 with ⟨h1, -⟩ | ⟨x, c, h1, -, -, h2⟩
    · simp at h1
    · injection h1 with h1 _ _
      subst h1
      have h3 := (cell_spot (h2 0 (by simp))).2
      simp only [Value.ownBlock, Option.map_some, Option.some.injEq] at h
      have : (x.add 0).block = x.block := by unfold Addr.add; split <;> rfl
      omega⟩
  clear hop hge hr hb HV1 HB1
  go_wp2_with fail
  refine (HRD.out rb W2 HR2.out).mono ?_
  rintro e W3 ⟨tm, id, cn, st, lv, ge, fr, lf, du, tl, nt, de, a3, n3, c3, rfl, ht⟩
  have HB3 := Lib.hid (Rd.outside ht HB2.out HB2.out.size HGE.out.1)
  have HV3 := Lib.hid (HV2.out.turned ht HGE.out.2)
  obtain ⟨B4, s4, -⟩ := box1 W3 #[.int .i64 31, .int .i64 tm, .int .u64 id, .int .i64 cn, .int .i64 st, .int .i64 lv, .int .u64 ge, .int .i64 fr, .int .i64 lf, .int .i64 du, .int .i64 tl, .slice a3 n3 c3, .int .u64 nt, .int .i64 de] 28
  have HB4 := Lib.hid (HB3.out.trans (B4.mono HB3.out.size))
  have HV4 := Lib.hid (HV3.out.kept B4)
  obtain ⟨q0, q1, q2, q3, q4, q5, q6, q7, q8, q9, q10, q11, q12, q13⟩ := rep_at s4
  have hcv := rb_string (P := Try.prog) HV4.out 35 9 5 Try.underlying35 Try.underlying5 Try.underlying9
  have hstr : str [1, 31, 0, 0, 0, 0, 0] = ⟨#[1, 31, 0, 0, 0, 0, 0]⟩ := rfl
  rw [hstr] at hcv
  clear ht B4 s4 HV3 HV2 HR2 HRD HB2 HB3 HV4 HGE hstr
  go_wp2_with fail
  go_ret
  exact ⟨rfl, HB4.out⟩
theorem array14 {α : Type} {cs : Array α} (h : cs.size = 14) : ∃ c0 c1 c2 c3 c4 c5 c6 c7 c8 c9 c10 c11 c12 c13, cs = #[c0, c1, c2, c3, c4, c5, c6, c7, c8, c9, c10, c11, c12, c13] := by
  obtain ⟨l⟩ := cs
  match l, h with
  | [c0, c1, c2, c3, c4, c5, c6, c7, c8, c9, c10, c11, c12, c13], _ => exact ⟨c0, c1, c2, c3, c4, c5, c6, c7, c8, c9, c10, c11, c12, c13, rfl⟩
/- Replies: how a reply reads that came in. -/
open Go.RowKit
theorem ry_cells : Try.prog.cellsOf 2 = 1 ∧ Try.prog.cellsOf 23 = 1 ∧ Try.prog.cellsOf 3 = 1 ∧ Try.prog.cellsOf 22 = 1 ∧ Try.prog.cellsOf 26 = 1 ∧ Try.prog.cellsOf 25 = 9 := ⟨by kernel_rfl, by kernel_rfl, by kernel_rfl, by kernel_rfl, by kernel_rfl, by kernel_rfl⟩
theorem ry_types : (Try.prog.cellTypes Try.prog.depth 28).map (fun ts => (ts.length, ts[11]?)) = some (14, some 26) := by kernel_rfl
set_option maxRecDepth 100000 in
theorem us_in {H : Type} {enc : TypeId × Value → H} {w : World} {base : Nat} {sp : Nat → Bool} {held : Bool} {fuel : Nat} {v : Value} {x : DataW H × List MemPlace}
    (h : DataW.trod enc Try.prog w base sp held fuel 26 [v] = some x) : ∃ a n c xs, v = .slice a n c ∧ Us w a n xs := by
  rcases Deep.open_slice Try.underlying26 h with ⟨hcs, _⟩ | ⟨x, l, c, m, nn, D, Pl, hcs, _, hl, hm, hmm, _, hi⟩
  · simp only [List.cons.injEq, and_true] at hcs
    exact ⟨_, _, _, [], hcs, Us.none w⟩
  · simp only [List.cons.injEq, and_true] at hcs
    have hlm : l ≤ m := by rw [hmm]; split <;> omega
    have cellsB : Try.prog.cellsOf 23 = 1 := by kernel_rfl
    have key : ∀ i, i < l → ∃ t : Nat, w.cell? (x.add i) = some (.int .u64 (t : Int)) ∧ t < 18446744073709551616 := by
      intro i hil
      obtain ⟨cs', hc, ht⟩ := hi i (by omega)
      obtain ⟨f, e0, _, w0⟩ := DataW.trod_int Try.underlying23 ht
      subst e0
      rw [cellsB] at hc
      obtain ⟨_, hcl, hat⟩ := World.cells?_some hc
      have hb := tb_wfU w0
      refine ⟨f.toNat, ?_, by omega⟩
      have h1 := hat 0 (by omega)
      rw [Deep.add_add] at h1
      have e : ((f.toNat : Nat) : Int) = f := by omega
      rw [e]
      simpa using h1
    obtain ⟨f, hf⟩ := Deep.choose_lt key
    refine ⟨_, _, _, (List.range l).map f, hcs, by simp, by unfold maxLen at *; omega, fun c hc => ?_, fun i hi' => ?_⟩
    · obtain ⟨i, hi', rfl⟩ := List.mem_map.1 hc
      exact (hf i (by simpa using hi')).2
    · have h0 := (hf i hi').1
      have hs := cell_spot h0
      have hb : (x.add i).block = x.block := by unfold Addr.add; split <;> rfl
      have hx : x = ⟨x.block, x.off, none⟩ := by
        have h00 : w.cell? x = some (.int .u64 ((f 0 : Nat) : Int)) := (hf 0 (by omega)).1
        exact (cell_spot h00).1
      refine ⟨x.block, x.off, by rw [← hx], by rw [← hb]; exact hs.2, ?_⟩
      rw [← add_at, ← hx, h0]
      simp [hi']
/-- What is told of a reply that came in. -/
def ReplyIn (w : World) (id cn st lv ge fr lf du tl : Int) (tm nt : Int) (a : Option Addr) (n : Nat) (xs : List Nat) : Prop :=
  Us w a n xs ∧ Fr w a ∧ (-9223372036854775808 ≤ tm ∧ tm ≤ 9223372036854775807) ∧ (0 ≤ id ∧ id < 18446744073709551616) ∧ (0 ≤ ge ∧ ge < 18446744073709551616) ∧ fr ≤ 9223372036854775807 ∧ (0 ≤ nt ∧ nt < 18446744073709551616)
set_option maxRecDepth 100000 in
set_option maxHeartbeats 4000000 in
theorem reply_in {H : Type} {enc : TypeId × Value → H} {w : World} {base b0 : Nat} {sp : Nat → Bool} {held : Bool} {v : Value} {dd : DataW H} {p : List MemPlace}
    (hv : Value.okWide Try.prog w .any b0 28 v) (h : DataW.Trod enc Try.prog w base sp held 28 v dd p) :
    ∃ cd tm id cn st lv ge fr lf du tl a n ca nt de xs, v = repV cd tm id cn st lv ge fr lf du tl a n ca nt de ∧ ReplyIn w id cn st lv ge fr lf du tl tm nt a n xs := by
  have hv' := hv
  obtain ⟨cs, rfl, hsz⟩ := Go.WideShapes.okWide_struct Try.underlying28 hv
  obtain ⟨c0, c1, c2, c3, c4, c5, c6, c7, c8, c9, c10, c11, c12, c13, rfl⟩ := array14 (hsz.trans (by kernel_rfl))
  obtain ⟨fuel, hf⟩ := h
  obtain ⟨xs, n, _, _, hlen, hxl, hg⟩ := DataW.trod_struct Try.underlying28 hf
  obtain ⟨z1, z2, z3, z4, z5, z6⟩ := ry_cells
  have g0 := hg 0 _ rfl
  have g1 := hg 1 _ rfl
  have g2 := hg 2 _ rfl
  have g3 := hg 3 _ rfl
  have g4 := hg 4 _ rfl
  have g5 := hg 5 _ rfl
  simp [Value.cells, z1, z2, z3, z4, z5, z6] at g0 g1 g2 g3 g4 g5
  have hx2 : xs.length = 6 := hxl
  rw [List.getElem?_eq_getElem (by omega)] at g0 g1 g2 g3 g4 g5
  obtain ⟨cd, e0, _, w0⟩ := DataW.trod_int Try.underlying22 g0
  obtain ⟨tm, e1, _, w1⟩ := DataW.trod_int Try.underlying2 g1
  obtain ⟨nt, e4, _, w4⟩ := DataW.trod_int Try.underlying23 g4
  obtain ⟨de, e5, _, w5⟩ := DataW.trod_int Try.underlying3 g5
  simp only [List.cons.injEq, and_true] at e0 e1 e4 e5
  subst e0 e1 e4 e5
  obtain ⟨ys, n6, _, _, hl6, hy6, hg6⟩ := DataW.trod_struct Try.underlying25 g2
  have k0 := hg6 0 _ rfl
  have k1 := hg6 1 _ rfl
  have k2 := hg6 2 _ rfl
  have k3 := hg6 3 _ rfl
  have k4 := hg6 4 _ rfl
  have k5 := hg6 5 _ rfl
  have k6 := hg6 6 _ rfl
  have k7 := hg6 7 _ rfl
  have k8 := hg6 8 _ rfl
  simp [z1, z2, z3] at k0 k1 k2 k3 k4 k5 k6 k7 k8
  have hy2 : ys.length = 9 := hy6
  rw [List.getElem?_eq_getElem (by omega)] at k0 k1 k2 k3 k4 k5 k6 k7 k8
  obtain ⟨id, f0, _, u0⟩ := DataW.trod_int Try.underlying23 k0
  obtain ⟨cn, f1, _, _⟩ := DataW.trod_int Try.underlying3 k1
  obtain ⟨st, f2, _, _⟩ := DataW.trod_int Try.underlying3 k2
  obtain ⟨lv, f3, _, _⟩ := DataW.trod_int Try.underlying3 k3
  obtain ⟨ge, f4, _, u4⟩ := DataW.trod_int Try.underlying23 k4
  obtain ⟨fr, f5, _, u5⟩ := DataW.trod_int Try.underlying2 k5
  obtain ⟨lf, f6, _, _⟩ := DataW.trod_int Try.underlying2 k6
  obtain ⟨du, f7, _, _⟩ := DataW.trod_int Try.underlying2 k7
  obtain ⟨tl, f8, _, _⟩ := DataW.trod_int Try.underlying3 k8
  simp only [List.cons.injEq, and_true] at f0 f1 f2 f3 f4 f5 f6 f7 f8
  subst f0 f1 f2 f3 f4 f5 f6 f7 f8
  obtain ⟨a, m, ca, us, rfl, hU⟩ := us_in g3
  have hF : Fr w a := by
    intro g o ha
    subst ha
    simp only [Value.okWide, Try.underlying28] at hv'
    obtain ⟨cs, hcs, -, ts, hts, -, hrow⟩ := hv'
    injection hcs with hcs
    subst hcs
    have ht := ry_types
    rw [hts] at ht
    simp only [Option.map_some, Option.some.injEq, Prod.mk.injEq] at ht
    obtain ⟨u, hu, hc⟩ := hrow 11 _ rfl
    rw [ht.1] at hu
    have hu2 : ts[11]? = some u := hu
    rw [ht.2] at hu2
    injection hu2 with hu2
    subst hu2
    simp only [Cell.okWide, Try.underlying26, Cell.ok] at hc
    obtain ⟨_, _, _, _, row, cells, hs, _⟩ := hc
    rcases Nat.lt_or_ge g w.heap.size with hl | hl
    · exact hl
    · have hx : w.heap[g]? = none := Array.getElem?_eq_none (by omega)
      simp [World.shape?, hx] at hs
  exact ⟨cd, tm, id, cn, st, lv, ge, fr, lf, du, tl, a, m, ca, nt, de, us, rfl, hU, hF, tb_wfI w1, tb_wfU u0, tb_wfU u4, (tb_wfI u5).2, tb_wfU w4⟩
end Go.Proofs.Ytnhaakdjijjinaa

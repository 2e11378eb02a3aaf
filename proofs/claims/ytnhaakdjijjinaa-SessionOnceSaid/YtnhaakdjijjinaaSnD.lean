/- Session: a request is made the last one (Done). -/
import Derived.Test.YtnhaakdjijjinaaSnB
import Derived.Deep.QuietTactic
namespace Go.Proofs.Ytnhaakdjijjinaa
open Go.RowKit Go.Maps
set_option maxRecDepth 100000 in
set_option maxHeartbeats 8000000 in
theorem done_lo (T mb c : Nat) (M : Lit → Option Value) (cl rq : Int) (cd tm id cn st lv ge fr lf du tl : Int) (a : Option Addr) (n ca : Nat) (nt de : Int) (w : World) (h : Tab w T mb c M) (hc : cl < 1) :
    Calls Try.prog 36 #[.pointer (some ⟨T, 0, none⟩), .int .u64 cl, .int .u64 rq, repV cd tm id cn st lv ge fr lf du tl a n ca nt de] w fun e w' => e = .returned (.int .i64 2) ∧ Below w.heap.size w w' := by
  have d1 : decide (cl < 1) = true := decide_eq_true hc
  obtain ⟨B1, s0, sz⟩ := box1 w #[.int .i64 cd, .int .i64 tm, .int .u64 id, .int .i64 cn, .int .i64 st, .int .i64 lv, .int .u64 ge, .int .i64 fr, .int .i64 lf, .int .i64 du, .int .i64 tl, .slice a n ca, .int .u64 nt, .int .i64 de] 28
  have h1 := h.kept B1
  have HT := Lib.hid h1
  have HB := Lib.hid B1
  have HS := Lib.hid s0
  have HCR := Lib.hid (created_yes T mb c M _ h1)
  clear h h1 B1 s0 sz
  unfold repV
  go_enter Try.func36, Try.ntmps36
  go_wp2_with fail
  generalize w.alloc (.cells #[.int .i64 cd, .int .i64 tm, .int .u64 id, .int .i64 cn, .int .i64 st, .int .i64 lv, .int .u64 ge, .int .i64 fr, .int .i64 lf, .int .i64 du, .int .i64 tl, .slice a n ca, .int .u64 nt, .int .i64 de] 28) = W0 at HT HB HS HCR ⊢
  refine HCR.out.mono ?_
  rintro e w1 ⟨rfl, rfl⟩
  clear HCR
  obtain ⟨q0, q1, q2, q3, q4, q5, q6, q7, q8, q9, q10, q11, q12, q13⟩ := rep_at HS.out
  go_wp2_with fail
  go_ret
  exact ⟨rfl, HB.out⟩
set_option maxRecDepth 100000 in
set_option maxHeartbeats 8000000 in
theorem done_hi (T mb c : Nat) (M : Lit → Option Value) (cl rq : Int) (cd tm id cn st lv ge fr lf du tl : Int) (a : Option Addr) (n ca : Nat) (nt de : Int) (w : World) (h : Tab w T mb c M) (hc : 8 < cl) :
    Calls Try.prog 36 #[.pointer (some ⟨T, 0, none⟩), .int .u64 cl, .int .u64 rq, repV cd tm id cn st lv ge fr lf du tl a n ca nt de] w fun e w' => e = .returned (.int .i64 2) ∧ Below w.heap.size w w' := by
  have d1 : decide (cl < 1) = false := decide_eq_false (by omega)
  have d2 : decide (8 < cl) = true := decide_eq_true hc
  obtain ⟨B1, s0, sz⟩ := box1 w #[.int .i64 cd, .int .i64 tm, .int .u64 id, .int .i64 cn, .int .i64 st, .int .i64 lv, .int .u64 ge, .int .i64 fr, .int .i64 lf, .int .i64 du, .int .i64 tl, .slice a n ca, .int .u64 nt, .int .i64 de] 28
  have h1 := h.kept B1
  have HT := Lib.hid h1
  have HB := Lib.hid B1
  have HS := Lib.hid s0
  have HCR := Lib.hid (created_yes T mb c M _ h1)
  clear h h1 B1 s0 sz
  unfold repV
  go_enter Try.func36, Try.ntmps36
  go_wp2_with fail
  generalize w.alloc (.cells #[.int .i64 cd, .int .i64 tm, .int .u64 id, .int .i64 cn, .int .i64 st, .int .i64 lv, .int .u64 ge, .int .i64 fr, .int .i64 lf, .int .i64 du, .int .i64 tl, .slice a n ca, .int .u64 nt, .int .i64 de] 28) = W0 at HT HB HS HCR ⊢
  refine HCR.out.mono ?_
  rintro e w1 ⟨rfl, rfl⟩
  clear HCR
  obtain ⟨q0, q1, q2, q3, q4, q5, q6, q7, q8, q9, q10, q11, q12, q13⟩ := rep_at HS.out
  go_wp2_with fail
  go_ret
  exact ⟨rfl, HB.out⟩
set_option maxRecDepth 100000 in
set_option maxHeartbeats 8000000 in
theorem done_bad (T mb c : Nat) (M : Lit → Option Value) (cl rq : Int) (cd tm id cn st lv ge fr lf du tl : Int) (a : Option Addr) (n ca : Nat) (nt de : Int) (w : World) (h : Tab w T mb c M) (hc : 1 ≤ cl ∧ cl ≤ 8) (hfr : fr ≤ 9223372036854775807) (hs : repS cd tm id cn st lv ge fr lf du tl n de = false) :
    Calls Try.prog 36 #[.pointer (some ⟨T, 0, none⟩), .int .u64 cl, .int .u64 rq, repV cd tm id cn st lv ge fr lf du tl a n ca nt de] w fun e w' => e = .returned (.int .i64 2) ∧ Below w.heap.size w w' := by
  have d1 : decide (cl < 1) = false := decide_eq_false (by omega)
  have d2 : decide (8 < cl) = false := decide_eq_false (by omega)
  have HSO := Lib.hid (fun W => rsound19 cd tm id cn st lv ge fr lf du tl a n ca nt de W hfr)
  rw [hs] at HSO
  clear hs
  obtain ⟨B1, s0, sz⟩ := box1 w #[.int .i64 cd, .int .i64 tm, .int .u64 id, .int .i64 cn, .int .i64 st, .int .i64 lv, .int .u64 ge, .int .i64 fr, .int .i64 lf, .int .i64 du, .int .i64 tl, .slice a n ca, .int .u64 nt, .int .i64 de] 28
  have h1 := h.kept B1
  have HT := Lib.hid h1
  have HB := Lib.hid B1
  have HS := Lib.hid s0
  have HCR := Lib.hid (created_yes T mb c M _ h1)
  unfold repV at HSO
  clear h h1 B1 s0 sz
  unfold repV
  go_enter Try.func36, Try.ntmps36
  go_wp2_with fail
  generalize w.alloc (.cells #[.int .i64 cd, .int .i64 tm, .int .u64 id, .int .i64 cn, .int .i64 st, .int .i64 lv, .int .u64 ge, .int .i64 fr, .int .i64 lf, .int .i64 du, .int .i64 tl, .slice a n ca, .int .u64 nt, .int .i64 de] 28) = W0 at HT HB HS HCR ⊢
  refine HCR.out.mono ?_
  rintro e w1 ⟨rfl, rfl⟩
  clear HCR
  obtain ⟨q0, q1, q2, q3, q4, q5, q6, q7, q8, q9, q10, q11, q12, q13⟩ := rep_at HS.out
  go_wp2_with fail
  refine (HSO.out _).mono ?_
  rintro e w2 ⟨rfl, hb⟩
  have HB2 := Lib.hid (HB.out.trans (hb.mono HB.out.size))
  clear hb q0 q1 q2 q3 q4 q5 q6 q7 q8 q9 q10 q11 q12 q13
  go_wp2_with fail
  go_ret
  exact ⟨rfl, HB2.out⟩
set_option maxRecDepth 100000 in
set_option maxHeartbeats 8000000 in
theorem done_old (T mb c : Nat) (M : Lit → Option Value) (cl rq : Int) (cd tm id cn st lv ge fr lf du tl : Int) (a : Option Addr) (n ca : Nat) (nt de : Int) (w : World) (h : Tab w T mb c M) (q : Int) (cd1 tm1 id1 cn1 st1 lv1 ge1 fr1 lf1 du1 tl1 : Int) (a1 : Option Addr) (n1 ca1 : Nat) (nt1 de1 : Int) (hv : (M (.int .u64 cl)).getD (.agg #[.int .u64 0, .int .i64 0, .int .i64 0, .int .u64 0, .int .i64 0, .int .i64 0, .int .i64 0, .int .u64 0, .int .i64 0, .int .i64 0, .int .i64 0, .int .i64 0, .slice none 0 0, .int .u64 0, .int .i64 0]) = .agg #[.int .u64 q, .int .i64 cd1, .int .i64 tm1, .int .u64 id1, .int .i64 cn1, .int .i64 st1, .int .i64 lv1, .int .u64 ge1, .int .i64 fr1, .int .i64 lf1, .int .i64 du1, .int .i64 tl1, .slice a1 n1 ca1, .int .u64 nt1, .int .i64 de1]) (hc : 1 ≤ cl ∧ cl ≤ 8) (hfr : fr ≤ 9223372036854775807) (hs : repS cd tm id cn st lv ge fr lf du tl n de = true) (hq : rq ≤ q) :
    Calls Try.prog 36 #[.pointer (some ⟨T, 0, none⟩), .int .u64 cl, .int .u64 rq, repV cd tm id cn st lv ge fr lf du tl a n ca nt de] w fun e w' => e = .returned (.int .i64 34) ∧ Below w.heap.size w w' := by
  have d1 : decide (cl < 1) = false := decide_eq_false (by omega)
  have d2 : decide (8 < cl) = false := decide_eq_false (by omega)
  have d3 : decide (rq ≤ q) = true := decide_eq_true hq
  have HSO := Lib.hid (fun W => rsound19 cd tm id cn st lv ge fr lf du tl a n ca nt de W hfr)
  rw [hs] at HSO
  clear hs
  obtain ⟨B1, s0, sz⟩ := box1 w #[.int .i64 cd, .int .i64 tm, .int .u64 id, .int .i64 cn, .int .i64 st, .int .i64 lv, .int .u64 ge, .int .i64 fr, .int .i64 lf, .int .i64 du, .int .i64 tl, .slice a n ca, .int .u64 nt, .int .i64 de] 28
  have h1 := h.kept B1
  have HT := Lib.hid h1
  have HB := Lib.hid B1
  have HS := Lib.hid s0
  have HCR := Lib.hid (created_yes T mb c M _ h1)
  unfold repV at HSO
  clear h h1 B1 s0 sz
  unfold repV
  go_enter Try.func36, Try.ntmps36
  go_wp2_with fail
  generalize w.alloc (.cells #[.int .i64 cd, .int .i64 tm, .int .u64 id, .int .i64 cn, .int .i64 st, .int .i64 lv, .int .u64 ge, .int .i64 fr, .int .i64 lf, .int .i64 du, .int .i64 tl, .slice a n ca, .int .u64 nt, .int .i64 de] 28) = W0 at HT HB HS HCR ⊢
  refine HCR.out.mono ?_
  rintro e w1 ⟨rfl, rfl⟩
  clear HCR
  obtain ⟨q0, q1, q2, q3, q4, q5, q6, q7, q8, q9, q10, q11, q12, q13⟩ := rep_at HS.out
  go_wp2_with fail
  refine (HSO.out _).mono ?_
  rintro e w2 ⟨rfl, hb⟩
  have HT2 := Lib.hid (HT.out.kept hb)
  have HB2 := Lib.hid (HB.out.trans (hb.mono HB.out.size))
  have HS2 := Lib.hid (ex_below HS.out hb)
  clear hb q0 q1 q2 q3 q4 q5 q6 q7 q8 q9 q10 q11 q12 q13 HT HB HS
  go_wp2_with fail
  refine (lastq_any T mb c M cl q cd1 tm1 id1 cn1 st1 lv1 ge1 fr1 lf1 du1 tl1 a1 n1 ca1 nt1 de1 _ HT2.out (by omega) hv).mono ?_
  rintro e w3 ⟨rfl, hb⟩
  have HT3 := Lib.hid (HT2.out.kept hb)
  have HB3 := Lib.hid (HB2.out.trans (hb.mono HB2.out.size))
  have HS3 := Lib.hid (ex_below HS2.out hb)
  clear hb HT2 HB2 HS2 hv
  go_wp2_with fail
  go_ret
  exact ⟨rfl, HB3.out⟩
def upC (M : Lit → Option Value) (l : Lit) (c : Nat) : Nat := if (M l).isSome then c else c + 1
theorem upC_le (M : Lit → Option Value) (l : Lit) (c : Nat) : upC M l c ≤ c + 1 := by unfold upC; split <;> omega
theorem below_grown {w w1 w2 : World} {r : Option Nat} (h : Below w.heap.size w w1) (g : w1.grownBy w2 r) : w.grownBy w2 r :=
  ⟨g.os.trans h.os, g.tape.trans h.tape, g.output.trans h.output, Nat.le_trans h.size g.size, fun k hk hr => (g.block k (Nat.lt_of_lt_of_le hk h.size) hr).trans (h.block k hk)⟩
theorem ou_grown {w w' : World} {base mb : Nat} {a : Option Addr} {n c : Nat} {l : List Nat} (h : OU w base (.slice a n c) l) (g : w.grownBy w' (some mb)) (hb : mb < base) : OU w' base (.slice a n c) l := by
  unfold OU at h ⊢
  rcases h with ⟨hl, h⟩
  refine ⟨hl, ?_⟩
  rcases h with h | ⟨b, cap, cur, hv, hg, hh, hr⟩
  · exact .inl h
  · exact .inr ⟨b, cap, cur, hv, hg, (g.block b (ex_lt hh) (by intro e; injection e with e; omega)).trans hh, hr⟩
set_option maxRecDepth 100000 in
set_option maxHeartbeats 8000000 in
theorem done_ok (T mb c : Nat) (M : Lit → Option Value) (cl rq : Int) (cd tm id cn st lv ge fr lf du tl : Int) (a : Option Addr) (n ca : Nat) (nt de : Int) (w : World) (h : Tab w T mb c M) (q : Int) (cd1 tm1 id1 cn1 st1 lv1 ge1 fr1 lf1 du1 tl1 : Int) (a1 : Option Addr) (n1 ca1 : Nat) (nt1 de1 : Int) (hv : (M (.int .u64 cl)).getD (.agg #[.int .u64 0, .int .i64 0, .int .i64 0, .int .u64 0, .int .i64 0, .int .i64 0, .int .i64 0, .int .u64 0, .int .i64 0, .int .i64 0, .int .i64 0, .int .i64 0, .slice none 0 0, .int .u64 0, .int .i64 0]) = .agg #[.int .u64 q, .int .i64 cd1, .int .i64 tm1, .int .u64 id1, .int .i64 cn1, .int .i64 st1, .int .i64 lv1, .int .u64 ge1, .int .i64 fr1, .int .i64 lf1, .int .i64 du1, .int .i64 tl1, .slice a1 n1 ca1, .int .u64 nt1, .int .i64 de1]) (xs : List Nat) (hU : Us w a n xs) (hc : 1 ≤ cl ∧ cl ≤ 8) (hn : n ≤ 100000) (hcm : c < maxLen) (hfr : fr ≤ 9223372036854775807) (hs : repS cd tm id cn st lv ge fr lf du tl n de = true) (hq : q < rq) :
    Calls Try.prog 36 #[.pointer (some ⟨T, 0, none⟩), .int .u64 cl, .int .u64 rq, repV cd tm id cn st lv ge fr lf du tl a n ca nt de] w fun e w' => e = .returned (.int .i64 0) ∧ ∃ ac cc M', Tab w' T mb (upC M (.int .u64 cl) c) M' ∧ (M' (.int .u64 cl) = some (.agg #[.int .u64 rq, .int .i64 cd, .int .i64 tm, .int .u64 id, .int .i64 cn, .int .i64 st, .int .i64 lv, .int .u64 ge, .int .i64 fr, .int .i64 lf, .int .i64 du, .int .i64 tl, .slice ac n cc, .int .u64 nt, .int .i64 de]) ∧ ∀ x, x ≠ .int .u64 cl → M' x = M x) ∧ OU w' w.heap.size (.slice ac n cc) xs ∧ w.grownBy w' (some mb) := by
  have d1 : decide (cl < 1) = false := decide_eq_false (by omega)
  have d2 : decide (8 < cl) = false := decide_eq_false (by omega)
  have d3 : decide (rq ≤ q) = false := decide_eq_false (by omega)
  have HSO := Lib.hid (fun W => rsound19 cd tm id cn st lv ge fr lf du tl a n ca nt de W hfr)
  rw [hs] at HSO
  have HU : Hid (∀ W, Below w.heap.size w W → Us W a n xs) := Lib.hid (fun W hb => hU.kept hb)
  have HN := Lib.hid hn
  have HLN := Lib.hid hU.1
  have HCM := Lib.hid hcm
  have HMB : Hid (mb < w.heap.size) := Lib.hid h.2.lt
  have HNE := Lib.hid h.ne
  clear hs hU hn hcm
  obtain ⟨B1, s0, sz⟩ := box1 w #[.int .i64 cd, .int .i64 tm, .int .u64 id, .int .i64 cn, .int .i64 st, .int .i64 lv, .int .u64 ge, .int .i64 fr, .int .i64 lf, .int .i64 du, .int .i64 tl, .slice a n ca, .int .u64 nt, .int .i64 de] 28
  have h1 := h.kept B1
  have HT := Lib.hid h1
  have HB := Lib.hid B1
  have HS := Lib.hid s0
  have HCR := Lib.hid (created_yes T mb c M _ h1)
  unfold repV at HSO
  clear h h1 B1 s0 sz
  unfold repV
  go_enter Try.func36, Try.ntmps36
  go_wp2_with fail
  generalize w.alloc (.cells #[.int .i64 cd, .int .i64 tm, .int .u64 id, .int .i64 cn, .int .i64 st, .int .i64 lv, .int .u64 ge, .int .i64 fr, .int .i64 lf, .int .i64 du, .int .i64 tl, .slice a n ca, .int .u64 nt, .int .i64 de] 28) = W0 at HT HB HS HCR ⊢
  refine HCR.out.mono ?_
  rintro e w1 ⟨rfl, rfl⟩
  clear HCR
  obtain ⟨q0, q1, q2, q3, q4, q5, q6, q7, q8, q9, q10, q11, q12, q13⟩ := rep_at HS.out
  go_wp2_with fail
  refine (HSO.out _).mono ?_
  rintro e w2 ⟨rfl, hb⟩
  have HT2 := Lib.hid (HT.out.kept hb)
  have HB2 := Lib.hid (HB.out.trans (hb.mono HB.out.size))
  have HS2 := Lib.hid (ex_below HS.out hb)
  clear hb q0 q1 q2 q3 q4 q5 q6 q7 q8 q9 q10 q11 q12 q13 HT HB HS
  go_wp2_with fail
  refine (lastq_any T mb c M cl q cd1 tm1 id1 cn1 st1 lv1 ge1 fr1 lf1 du1 tl1 a1 n1 ca1 nt1 de1 _ HT2.out (by omega) hv).mono ?_
  rintro e w3 ⟨rfl, hb⟩
  have HT3 := Lib.hid (HT2.out.kept hb)
  have HB3 := Lib.hid (HB2.out.trans (hb.mono HB2.out.size))
  have HS3 := Lib.hid (ex_below HS2.out hb)
  clear hb HT2 HB2 HS2 hv
  go_wp2_with fail
  have HS0 : Hid ((fun W => W.heap[w.heap.size]? = some (.cells #[.int .i64 cd, .int .i64 tm, .int .u64 id, .int .i64 cn, .int .i64 st, .int .i64 lv, .int .u64 ge, .int .i64 fr, .int .i64 lf, .int .i64 du, .int .i64 tl, .slice a n ca, .int .u64 nt, .int .i64 de] 28 (0, 0)) ∧ W.heap[T]? = some (.cells #[.map (some mb)] 82 (0, 0))) w3.drew) := Lib.hid ⟨HS3.out, HT3.out.1⟩
  have hd := (Below.refl w3.heap.size w3).drew
  have HT4 := Lib.hid (HT3.out.kept hd)
  have HB4 := Lib.hid (HB3.out.trans (hd.mono HB3.out.size))
  clear hd HS3 HT3 HB3
  refine wp_region_held_drew (S := fun W => W.heap[w.heap.size]? = some (.cells #[.int .i64 cd, .int .i64 tm, .int .u64 id, .int .i64 cn, .int .i64 st, .int .i64 lv, .int .u64 ge, .int .i64 fr, .int .i64 lf, .int .i64 du, .int .i64 tl, .slice a n ca, .int .u64 nt, .int .i64 de] 28 (0, 0)) ∧ W.heap[T]? = some (.cells #[.map (some mb)] 82 (0, 0))) (by kernel_rfl) HS0.out (fun hHeld => ?_)
  clear hHeld
  generalize w3.drew = V4 at HS0 HT4 HB4 ⊢
  refine wpAnyH_take (i := 0) (oi := { dst := some 31, op := Go.Op.move (Go.Operand.tmp 0), type := 57, pos := "session.go:58", after := #[], guard := none }) (v := ?_) rfl (by kernel_rfl) (by kernel_rfl) (by kernel_rfl) (fun _ _ _ h => h) (Or.inl ⟨by rfl, ?_⟩) HS0.out ?_
  case refine_2 => (intro w1 hS1; obtain ⟨k1, k2⟩ := hS1; obtain ⟨q0, q1, q2, q3, q4, q5, q6, q7, q8, q9, q10, q11, q12, q13⟩ := rep_at k1; have c0 := one_at k2; clear k1 k2; go_simp; try with_reducible rfl)
  try simp only [Act.put, List.setIfInBounds_toArray, List.set_cons_zero, List.set_cons_succ]
  refine wpAnyH_take (i := 1) (oi := { dst := some 32, op := Go.Op.nilCheck (Go.Operand.tmp 31), type := 0, pos := "session.go:58", after := #[{ on := 0, ground := Go.Ground.data }], guard := none }) (v := ?_) rfl (by kernel_rfl) (by kernel_rfl) (by kernel_rfl) (fun _ _ _ h => h) (Or.inl ⟨by rfl, ?_⟩) HS0.out ?_
  case refine_2 => (intro w1 hS1; obtain ⟨k1, k2⟩ := hS1; obtain ⟨q0, q1, q2, q3, q4, q5, q6, q7, q8, q9, q10, q11, q12, q13⟩ := rep_at k1; have c0 := one_at k2; clear k1 k2; go_simp; try with_reducible rfl)
  try simp only [Act.put, List.setIfInBounds_toArray, List.set_cons_zero, List.set_cons_succ]
  refine wpAnyH_take (i := 2) (oi := { dst := some 33, op := Go.Op.fieldAddr 82 (Go.Operand.tmp 32) 0, type := 0, pos := "session.go:58", after := #[{ on := 1, ground := Go.Ground.data }], guard := none }) (v := ?_) rfl (by kernel_rfl) (by kernel_rfl) (by kernel_rfl) (fun _ _ _ h => h) (Or.inl ⟨by rfl, ?_⟩) HS0.out ?_
  case refine_2 => (intro w1 hS1; obtain ⟨k1, k2⟩ := hS1; obtain ⟨q0, q1, q2, q3, q4, q5, q6, q7, q8, q9, q10, q11, q12, q13⟩ := rep_at k1; have c0 := one_at k2; clear k1 k2; go_simp; try with_reducible rfl)
  try simp only [Act.put, List.setIfInBounds_toArray, List.set_cons_zero, List.set_cons_succ]
  refine wpAnyH_take (i := 3) (oi := { dst := some 34, op := Go.Op.load 80 (Go.Operand.tmp 33), type := 80, pos := "session.go:58", after := #[{ on := 2, ground := Go.Ground.data }], guard := none }) (v := ?_) rfl (by kernel_rfl) (by kernel_rfl) (by kernel_rfl) (fun _ _ _ h => h) (Or.inl ⟨by rfl, ?_⟩) HS0.out ?_
  case refine_2 => (intro w1 hS1; obtain ⟨k1, k2⟩ := hS1; obtain ⟨q0, q1, q2, q3, q4, q5, q6, q7, q8, q9, q10, q11, q12, q13⟩ := rep_at k1; have c0 := one_at k2; clear k1 k2; go_simp; try with_reducible rfl)
  try simp only [Act.put, List.setIfInBounds_toArray, List.set_cons_zero, List.set_cons_succ]
  refine wpAnyH_take (i := 4) (oi := { dst := some 35, op := Go.Op.move (Go.Operand.tmp 1), type := 23, pos := "session.go:58", after := #[], guard := none }) (v := ?_) rfl (by kernel_rfl) (by kernel_rfl) (by kernel_rfl) (fun _ _ _ h => h) (Or.inl ⟨by rfl, ?_⟩) HS0.out ?_
  case refine_2 => (intro w1 hS1; obtain ⟨k1, k2⟩ := hS1; obtain ⟨q0, q1, q2, q3, q4, q5, q6, q7, q8, q9, q10, q11, q12, q13⟩ := rep_at k1; have c0 := one_at k2; clear k1 k2; go_simp; try with_reducible rfl)
  try simp only [Act.put, List.setIfInBounds_toArray, List.set_cons_zero, List.set_cons_succ]
  refine wpAnyH_take (i := 5) (oi := { dst := some 36, op := Go.Op.move (Go.Operand.tmp 2), type := 23, pos := "session.go:58", after := #[], guard := none }) (v := ?_) rfl (by kernel_rfl) (by kernel_rfl) (by kernel_rfl) (fun _ _ _ h => h) (Or.inl ⟨by rfl, ?_⟩) HS0.out ?_
  case refine_2 => (intro w1 hS1; obtain ⟨k1, k2⟩ := hS1; obtain ⟨q0, q1, q2, q3, q4, q5, q6, q7, q8, q9, q10, q11, q12, q13⟩ := rep_at k1; have c0 := one_at k2; clear k1 k2; go_simp; try with_reducible rfl)
  try simp only [Act.put, List.setIfInBounds_toArray, List.set_cons_zero, List.set_cons_succ]
  refine wpAnyH_take (i := 6) (oi := { dst := some 37, op := Go.Op.load 28 (Go.Operand.tmp 7), type := 28, pos := "session.go:58", after := #[], guard := none }) (v := ?_) rfl (by kernel_rfl) (by kernel_rfl) (by kernel_rfl) (fun _ _ _ h => h) (Or.inl ⟨by rfl, ?_⟩) HS0.out ?_
  case refine_2 => (intro w1 hS1; obtain ⟨k1, k2⟩ := hS1; obtain ⟨q0, q1, q2, q3, q4, q5, q6, q7, q8, q9, q10, q11, q12, q13⟩ := rep_at k1; have c0 := one_at k2; clear k1 k2; go_simp; try with_reducible rfl)
  try simp only [Act.put, List.setIfInBounds_toArray, List.set_cons_zero, List.set_cons_succ]
  refine wpAnyH_ready (rs := [7]) (by kernel_rfl) (by simp) ?_
  refine AllReadyH.cons (o := { dst := some 38, op := Go.Op.call { callee := Go.Callee.value (Go.Operand.func 12), args := #[Go.Operand.tmp 37], argTypes := #[28] }, type := 28, pos := "session.go:58", after := #[{ on := 6, ground := Go.Ground.data }], guard := none }) rfl (fun K hK => ?_) AllReadyH.nil
  go_simp
  refine (copy_any cd tm id cn st lv ge fr lf du tl a n ca nt de xs V4 (HU.out _ HB4.out) (by have := HN.out; omega)).mono ?_
  rintro e V5 ⟨ac, cc, rfl, ho, hb⟩
  rw [HLN.out] at ho ⊢
  have HO := Lib.hid ho
  have HT5 := Lib.hid (HT4.out.kept hb)
  have HB5 := Lib.hid (HB4.out.trans (hb.mono HB4.out.size))
  have HS0' : Hid ((fun W => W.heap[w.heap.size]? = some (.cells #[.int .i64 cd, .int .i64 tm, .int .u64 id, .int .i64 cn, .int .i64 st, .int .i64 lv, .int .u64 ge, .int .i64 fr, .int .i64 lf, .int .i64 du, .int .i64 tl, .slice a n ca, .int .u64 nt, .int .i64 de] 28 (0, 0)) ∧ W.heap[T]? = some (.cells #[.map (some mb)] 82 (0, 0))) V5) := Lib.hid ⟨ex_below HS0.out.1 hb, ex_below HS0.out.2 hb⟩
  have HLE : Hid (w.heap.size ≤ V4.heap.size) := Lib.hid HB4.out.size
  clear ho hb HT4 HB4
  clear HS0
  have HS0 := HS0'
  clear HS0'
  unfold repV
  refine hK.out _ _ HS0.out (fun hHeld => ?_)
  clear hK K hHeld
  try simp only [Act.put, List.setIfInBounds_toArray, List.set_cons_zero, List.set_cons_succ]
  refine wpAnyH_take (i := 8) (oi := { dst := some 39, op := Go.Op.build 113 #[(0, Go.Operand.tmp 36), (1, Go.Operand.tmp 38)], type := 113, pos := "session.go:58", after := #[{ on := 5, ground := Go.Ground.data }, { on := 7, ground := Go.Ground.data }], guard := none }) (v := ?_) rfl (by kernel_rfl) (by kernel_rfl) (by kernel_rfl) (fun _ _ _ h => h) (Or.inl ⟨by rfl, ?_⟩) HS0.out ?_
  case refine_2 => (intro w1 hS1; obtain ⟨k1, k2⟩ := hS1; obtain ⟨q0, q1, q2, q3, q4, q5, q6, q7, q8, q9, q10, q11, q12, q13⟩ := rep_at k1; have c0 := one_at k2; clear k1 k2; go_simp; try with_reducible rfl)
  try simp only [Act.put, List.setIfInBounds_toArray, List.set_cons_zero, List.set_cons_succ]
  obtain ⟨M', hM1, hM2⟩ := upV M (.int .u64 cl) (some (.agg #[.int .u64 rq, .int .i64 cd, .int .i64 tm, .int .u64 id, .int .i64 cn, .int .i64 st, .int .i64 lv, .int .u64 ge, .int .i64 fr, .int .i64 lf, .int .i64 du, .int .i64 tl, .slice ac n cc, .int .u64 nt, .int .i64 de]))
  obtain ⟨V6, hrun, hV6, hg6, hz6⟩ := HT5.out.2.put keyedU rq_und HCM.out (keyU (show 0 ≤ cl ∧ cl < 18446744073709551616 by omega)) _ hM1 hM2
  refine wpAnyH_ready (rs := [9]) (by kernel_rfl) (by simp) ?_
  refine AllReadyH.cons (o := { dst := none, op := Go.Op.mapUpdate 80 (Go.Operand.tmp 34) (Go.Operand.tmp 35) (Go.Operand.tmp 39), type := 0, pos := "session.go:58", after := #[{ on := 3, ground := Go.Ground.data }, { on := 4, ground := Go.Ground.data }, { on := 8, ground := Go.Ground.data }, { on := 7, ground := Go.Ground.chain }, { on := 0, ground := Go.Ground.phase }, { on := 1, ground := Go.Ground.phase }, { on := 2, ground := Go.Ground.phase }, { on := 3, ground := Go.Ground.phase }, { on := 4, ground := Go.Ground.phase }, { on := 5, ground := Go.Ground.phase }, { on := 6, ground := Go.Ground.phase }, { on := 7, ground := Go.Ground.phase }, { on := 8, ground := Go.Ground.phase }], guard := none }) rfl (fun K hK => ?_) AllReadyH.nil
  go_simp
  have HS0' : Hid ((fun W => W.heap[w.heap.size]? = some (.cells #[.int .i64 cd, .int .i64 tm, .int .u64 id, .int .i64 cn, .int .i64 st, .int .i64 lv, .int .u64 ge, .int .i64 fr, .int .i64 lf, .int .i64 du, .int .i64 tl, .slice a n ca, .int .u64 nt, .int .i64 de] 28 (0, 0)) ∧ W.heap[T]? = some (.cells #[.map (some mb)] 82 (0, 0))) V6) := Lib.hid ⟨(hg6.block _ (ex_lt HS0.out.1) (by have h1 := HMB.out; intro e; injection e with e; omega)).trans HS0.out.1, (hg6.block _ (ex_lt HS0.out.2) (fun e => HNE.out (by injection e))).trans HS0.out.2⟩
  have HTF : Hid (Tab V6 T mb (upC M (.int .u64 cl) c) M') := Lib.hid ⟨HS0'.out.2, hV6⟩
  have HOF : Hid (OU V6 w.heap.size (.slice ac n cc) xs) := Lib.hid (ou_grown (HO.out.mono HLE.out) hg6 HMB.out)
  have HGF : Hid (w.grownBy V6 (some mb)) := Lib.hid (below_grown HB5.out hg6)
  have HM := Lib.hid (And.intro hM1 hM2)
  clear hV6 hg6 hM1 hM2 HT5 HB5 HO
  clear HS0
  have HS0 := HS0'
  clear HS0'
  refine hK.out _ _ HS0.out (fun hHeld => ?_)
  clear hrun hz6 hK K hHeld
  try simp only [Act.put, List.setIfInBounds_toArray, List.set_cons_zero, List.set_cons_succ]
  refine wpAnyH_done (by kernel_rfl) ?_ _
  go_wp2_with fail
  go_ret
  exact ⟨rfl, ac, cc, M', HTF.out, HM.out, HOF.out, HGF.out⟩
end Go.Proofs.Ytnhaakdjijjinaa

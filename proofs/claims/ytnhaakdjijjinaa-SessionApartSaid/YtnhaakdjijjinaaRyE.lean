/- Replies: Copy. -/
import Derived.Test.YtnhaakdjijjinaaRyD
namespace Go.Proofs.Ytnhaakdjijjinaa
open Go.RowKit
/-- What is handed on as a reply whose row is the call's own. -/
def CopiedR (cd tm id cn st lv ge fr lf du tl nt de : Int) (xs : List Nat) (w : World) (e : Ending) (w' : World) : Prop := ∃ a' ca', e = .returned (repV cd tm id cn st lv ge fr lf du tl a' xs.length ca' nt de) ∧ OU w' w.heap.size (.slice a' xs.length ca') xs ∧ Below w.heap.size w w'
set_option maxRecDepth 100000 in
set_option maxHeartbeats 8000000 in
theorem copy_any (cd tm id cn st lv ge fr lf du tl : Int) (a : Option Addr) (n ca : Nat) (nt de : Int) (xs : List Nat) (w : World) (hS : Us w a n xs) (hn : n ≤ 100000) : Calls Try.prog 12 #[repV cd tm id cn st lv ge fr lf du tl a n ca nt de] w (CopiedR cd tm id cn st lv ge fr lf du tl nt de xs w) := by
  obtain ⟨B2, s0, s1, sz⟩ := box2 w #[.int .i64 cd, .int .i64 tm, .int .u64 id, .int .i64 cn, .int .i64 st, .int .i64 lv, .int .u64 ge, .int .i64 fr, .int .i64 lf, .int .i64 du, .int .i64 tl, .slice a n ca, .int .u64 nt, .int .i64 de] #[.int .i64 0, .int .i64 0, .int .u64 0, .int .i64 0, .int .i64 0, .int .i64 0, .int .u64 0, .int .i64 0, .int .i64 0, .int .i64 0, .int .i64 0, .slice none 0 0, .int .u64 0, .int .i64 0] 28 28
  obtain ⟨q0, q1, q2, q3, q4, q5, q6, q7, q8, q9, q10, q11, q12, q13⟩ := rep_at s0
  have HB := Lib.hid B2
  have HS0 := Lib.hid s0
  have HS1 := Lib.hid s1
  have hs := clone_us a n ca xs _ (hS.kept B2) hn
  unfold repV
  clear B2 s0 s1 hS
  unfold CopiedU at hs
  go_enter Try.func12, Try.ntmps12
  go_wp2_with fail
  generalize (w.alloc (.cells #[.int .i64 cd, .int .i64 tm, .int .u64 id, .int .i64 cn, .int .i64 st, .int .i64 lv, .int .u64 ge, .int .i64 fr, .int .i64 lf, .int .i64 du, .int .i64 tl, .slice a n ca, .int .u64 nt, .int .i64 de] 28)).alloc (.cells #[.int .i64 0, .int .i64 0, .int .u64 0, .int .i64 0, .int .i64 0, .int .i64 0, .int .u64 0, .int .i64 0, .int .i64 0, .int .i64 0, .int .i64 0, .slice none 0 0, .int .u64 0, .int .i64 0] 28) = W0 at q0 q1 q2 q3 q4 q5 q6 q7 q8 q9 q10 q11 q12 q13 HB HS0 HS1 hs sz ⊢
  refine hs.mono ?_
  rintro e w1 ⟨v, rfl, ho, hb⟩
  obtain ⟨a', c', rfl, -, -⟩ := ho.shape
  obtain ⟨L, hL⟩ : ∃ L, xs.length = L := ⟨_, rfl⟩
  have HO : Hid (OU w1 (w.heap.size + 2) (.slice a' L c') xs) := Lib.hid (by rw [← hL]; exact ho.mono (by omega))
  have HL := Lib.hid hL
  have HB1 := Lib.hid (HB.out.trans (hb.mono HB.out.size))
  have k0 := ex_below HS0.out hb
  have k1 := ex_below HS1.out hb
  rw [hL]
  clear ho hb hs hL q0 q1 q2 q3 q4 q5 q6 q7 q8 q9 q10 q11 q12 q13 sz HS0 HS1 HB
  obtain ⟨q0, q1, q2, q3, q4, q5, q6, q7, q8, q9, q10, q11, q12, q13⟩ := rep_at k0
  have qf := rep_fr k0
  obtain ⟨r0, r1, r2, r3, r4, r5, r6, r7, r8, r9, r10, r11, r12, r13⟩ := rep_at k1
  have rf := rep_fr k1
  have k0' := heap_set k0 11 (.slice a' L c')
  have k1' : (w1.setCell ⟨w.heap.size, 11, none⟩ (.slice a' L c')).heap[w.heap.size + 1]? = _ := (Below.heap_setCell _ _ _ _ (by show w.heap.size + 1 ≠ w.heap.size; omega)).trans k1
  simp only [List.setIfInBounds_toArray, List.set_cons_zero, List.set_cons_succ] at k0'
  have HO1 : Hid (OU (w1.setCell ⟨w.heap.size, 11, none⟩ (.slice a' L c')) (w.heap.size + 2) (.slice a' L c') xs) := Lib.hid (HO.out.set (by show w.heap.size < w.heap.size + 2; omega) _)
  have HB2 : Hid (Below w.heap.size w (w1.setCell ⟨w.heap.size, 11, none⟩ (.slice a' L c'))) := Lib.hid (HB1.out.setCell (p := ⟨w.heap.size, 11, none⟩) (Nat.le_refl _) _)
  obtain ⟨p0, p1, p2, p3, p4, p5, p6, p7, p8, p9, p10, p11, p12, p13⟩ := rep_at k0'
  have pf := rep_fr k1'
  have HK := Lib.hid k1'
  clear k0 k1 k0' k1' HO HB1
  go_wp2_with fail
  generalize w1.setCell ⟨w.heap.size, 11, none⟩ (.slice a' L c') = W2 at HO1 HB2 p0 p1 p2 p3 p4 p5 p6 p7 p8 p9 p10 p11 p12 p13 pf HK ⊢
  clear q0 q1 q2 q3 q4 q5 q6 q7 q8 q9 q10 q11 q12 q13 qf p0 p1 p2 p3 p4 p5 p6 p7 p8 p9 p10 p11 p12 p13 pf r0 r1 r2 r3 r4 r5 r6 r7 r8 r9 r10 r11 r12 r13 rf
  have hp := put14_at HK.out (.int .i64 cd) (.int .i64 tm) (.int .u64 id) (.int .i64 cn) (.int .i64 st) (.int .i64 lv) (.int .u64 ge) (.int .i64 fr) (.int .i64 lf) (.int .i64 du) (.int .i64 tl) (.slice a' L c') (.int .u64 nt) (.int .i64 de)
  have hq := HB2.out.trans (put14_below (B := w.heap.size) W2 (N := w.heap.size + 1) (by omega) (.int .i64 cd) (.int .i64 tm) (.int .u64 id) (.int .i64 cn) (.int .i64 st) (.int .i64 lv) (.int .u64 ge) (.int .i64 fr) (.int .i64 lf) (.int .i64 du) (.int .i64 tl) (.slice a' L c') (.int .u64 nt) (.int .i64 de))
  have ho : OU (put14 W2 (w.heap.size + 1) (.int .i64 cd) (.int .i64 tm) (.int .u64 id) (.int .i64 cn) (.int .i64 st) (.int .i64 lv) (.int .u64 ge) (.int .i64 fr) (.int .i64 lf) (.int .i64 du) (.int .i64 tl) (.slice a' L c') (.int .u64 nt) (.int .i64 de)) (w.heap.size + 2) (.slice a' L c') xs := by
    unfold put14
    have hlt : (w.heap.size + 1) < w.heap.size + 2 := by omega
    exact (((((((((((((HO1.out.set (p := ⟨_, 0, none⟩) hlt _).set (p := ⟨_, 1, none⟩) hlt _).set (p := ⟨_, 2, none⟩) hlt _).set (p := ⟨_, 3, none⟩) hlt _).set (p := ⟨_, 4, none⟩) hlt _).set (p := ⟨_, 5, none⟩) hlt _).set (p := ⟨_, 6, none⟩) hlt _).set (p := ⟨_, 7, none⟩) hlt _).set (p := ⟨_, 8, none⟩) hlt _).set (p := ⟨_, 9, none⟩) hlt _).set (p := ⟨_, 10, none⟩) hlt _).set (p := ⟨_, 11, none⟩) hlt _).set (p := ⟨_, 12, none⟩) hlt _).set (p := ⟨_, 13, none⟩) hlt _
  have hfin : CopiedR cd tm id cn st lv ge fr lf du tl nt de xs w (.returned (.agg #[.int .i64 cd, .int .i64 tm, .int .u64 id, .int .i64 cn, .int .i64 st, .int .i64 lv, .int .u64 ge, .int .i64 fr, .int .i64 lf, .int .i64 du, .int .i64 tl, .slice a' L c', .int .u64 nt, .int .i64 de])) (put14 W2 (w.heap.size + 1) (.int .i64 cd) (.int .i64 tm) (.int .u64 id) (.int .i64 cn) (.int .i64 st) (.int .i64 lv) (.int .u64 ge) (.int .i64 fr) (.int .i64 lf) (.int .i64 du) (.int .i64 tl) (.slice a' L c') (.int .u64 nt) (.int .i64 de)) := ⟨a', c', by rw [HL.out]; rfl, by rw [HL.out]; exact ho.mono (by omega), hq⟩
  unfold put14 at hp hfin
  obtain ⟨p0, p1, p2, p3, p4, p5, p6, p7, p8, p9, p10, p11, p12, p13⟩ := rep_at hp
  exact bodyPost_ret (v := .agg #[.int .i64 cd, .int .i64 tm, .int .u64 id, .int .i64 cn, .int .i64 st, .int .i64 lv, .int .u64 ge, .int .i64 fr, .int .i64 lf, .int .i64 du, .int .i64 tl, .slice a' L c', .int .u64 nt, .int .i64 de]) (by simp [results, Try.results12, go_sem, p0, p1, p2, p3, p4, p5, p6, p7, p8, p9, p10, p11, p12, p13]) rfl hfin
end Go.Proofs.Ytnhaakdjijjinaa

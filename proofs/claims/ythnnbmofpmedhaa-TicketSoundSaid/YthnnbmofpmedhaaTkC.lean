/- Tickets: enter, Open, Pause, Resume, Reopen. -/
import Derived.Test.YthnnbmofpmedhaaTkB
namespace Go.Proofs.Ythnnbmofpmedhaa
open Go.RowKit
set_option maxRecDepth 100000 in
set_option maxHeartbeats 4000000 in
theorem enter_err (id cn st lv ge fr lf du tl : Int) (sn l f c d er : Int) (w : World) (he : er ≠ 0) : Calls Try.prog 52 #[tkV id cn st lv ge fr lf du tl, .int .i64 sn, stepV l f c d, .int .i64 er] w fun e w' => e = .returned (.tuple #[tkV 0 0 0 0 0 0 0 0 0, .int .i64 er]) ∧ Below w.heap.size w w' := by
  obtain ⟨B2, s0, s1, s2, sz⟩ := box3 w #[.int .u64 id, .int .i64 cn, .int .i64 st, .int .i64 lv, .int .u64 ge, .int .i64 fr, .int .i64 lf, .int .i64 du, .int .i64 tl] #[.int .i64 l, .int .i64 f, .int .i64 c, .int .i64 d] #[.int .u64 0, .int .i64 0, .int .i64 0, .int .i64 0, .int .u64 0, .int .i64 0, .int .i64 0, .int .i64 0, .int .i64 0] 68 29 68
  obtain ⟨z0, z1, z2, z3, z4, z5, z6, z7, z8⟩ := nine_at s2
  obtain ⟨y0, y1, y2, y3, y4, y5, y6, y7, y8⟩ := nine_fr s2
  have HB := Lib.hid B2
  have e1 : (er != 0) = true := by simpa using he
  unfold tkV stepV
  clear B2 s0 s1 s2 sz
  go_enter Try.func52, Try.ntmps52
  go_wp2_with fail
  exact bodyPost_ret (v := .tuple #[.agg #[.int .u64 0, .int .i64 0, .int .i64 0, .int .i64 0, .int .u64 0, .int .i64 0, .int .i64 0, .int .i64 0, .int .i64 0], .int .i64 er]) (by simp [results, Try.results52, go_sem, z0, z1, z2, z3, z4, z5, z6, z7, z8]) rfl ⟨rfl, HB.out⟩
set_option maxRecDepth 100000 in
set_option maxHeartbeats 4000000 in
theorem enter_ok (id cn st lv ge fr lf du tl : Int) (sn l f c d : Int) (w : World) : Calls Try.prog 52 #[tkV id cn st lv ge fr lf du tl, .int .i64 sn, stepV l f c d, .int .i64 0] w fun e w' => e = .returned (.tuple #[tkV id cn sn l 0 f c d tl, .int .i64 0]) ∧ Below w.heap.size w w' := by
  obtain ⟨B2, s0, s1, s2, sz⟩ := box3 w #[.int .u64 id, .int .i64 cn, .int .i64 st, .int .i64 lv, .int .u64 ge, .int .i64 fr, .int .i64 lf, .int .i64 du, .int .i64 tl] #[.int .i64 l, .int .i64 f, .int .i64 c, .int .i64 d] #[.int .u64 0, .int .i64 0, .int .i64 0, .int .i64 0, .int .u64 0, .int .i64 0, .int .i64 0, .int .i64 0, .int .i64 0] 68 29 68
  obtain ⟨c0, c1, c2, c3, c4, c5, c6, c7, c8⟩ := nine_at s0
  obtain ⟨g0, g1, g2, g3, -⟩ := four_at s1
  have HB := Lib.hid B2
  have HS := Lib.hid (And.intro s2 sz)
  unfold tkV stepV
  clear B2 s0 s1 s2 sz
  go_enter Try.func52, Try.ntmps52
  go_wp2_with fail
  generalize (((w.alloc (.cells #[.int .u64 id, .int .i64 cn, .int .i64 st, .int .i64 lv, .int .u64 ge, .int .i64 fr, .int .i64 lf, .int .i64 du, .int .i64 tl] 68)).alloc (.cells #[.int .i64 l, .int .i64 f, .int .i64 c, .int .i64 d] 29)).alloc (.cells #[.int .u64 0, .int .i64 0, .int .i64 0, .int .i64 0, .int .u64 0, .int .i64 0, .int .i64 0, .int .i64 0, .int .i64 0] 68)) = W at HB HS c0 c1 c2 c3 c4 c5 c6 c7 c8 g0 g1 g2 g3 ⊢
  refine (tk_at id cn st lv ge fr lf du tl sn l f c d W).mono ?_
  rintro e w3 ⟨rfl, hb3⟩
  have t1 := (hb3.block (w.heap.size + 1 + 1) (by have := HS.out.2; omega)).trans HS.out.1
  have HB3 := Lib.hid (HB.out.trans (hb3.mono HB.out.size))
  have HT := Lib.hid t1
  clear c0 c1 c2 c3 c4 c5 c6 c7 c8 g0 g1 g2 g3
  obtain ⟨z0, z1, z2, z3, z4, z5, z6, z7, z8⟩ := nine_at t1
  obtain ⟨y0, y1, y2, y3, y4, y5, y6, y7, y8⟩ := nine_fr t1
  clear hb3 t1
  unfold tkV
  go_wp2_with fail
  have ho := below_put9 HB3.out (N := w.heap.size + 1 + 1) (by omega) (.int .u64 id) (.int .i64 cn) (.int .i64 sn) (.int .i64 l) (.int .u64 0) (.int .i64 f) (.int .i64 c) (.int .i64 d) (.int .i64 tl)
  obtain ⟨hp9, -, -⟩ := put9_at HT.out (.int .u64 id) (.int .i64 cn) (.int .i64 sn) (.int .i64 l) (.int .u64 0) (.int .i64 f) (.int .i64 c) (.int .i64 d) (.int .i64 tl)
  obtain ⟨p0, p1, p2, p3, p4, p5, p6, p7, p8⟩ := nine_at hp9
  unfold put9 at p0 p1 p2 p3 p4 p5 p6 p7 p8 ho
  exact bodyPost_ret (v := .tuple #[.agg #[.int .u64 id, .int .i64 cn, .int .i64 sn, .int .i64 l, .int .u64 0, .int .i64 f, .int .i64 c, .int .i64 d, .int .i64 tl], .int .i64 0]) (by simp [results, Try.results52, go_sem, p0, p1, p2, p3, p4, p5, p6, p7, p8]) rfl ⟨rfl, ho⟩
/-- What becomes of a ticket at a step that was reckoned. -/
def GaveT (L : Loc) (D : Cal) (w : World) (R : Int → Int → Int → Int → Int → Prop) (id cn sn tl : Int) (e : Ending) (w' : World) : Prop :=
  ∃ l f c d er, R l f c d er ∧ ((er = 0 ∧ e = .returned (.tuple #[tkV id cn sn l 0 f c d tl, .int .i64 0])) ∨ (er ≠ 0 ∧ e = .returned (.tuple #[tkV 0 0 0 0 0 0 0 0 0, .int .i64 er]))) ∧ Ck L D w' ∧ Only (· = L.C) w w'
set_option maxRecDepth 100000 in
set_option maxHeartbeats 4000000 in
theorem open_any' {L : Loc} {D : Cal} {w : World} (h : Ck L D w) (hd : D.ok) (id cn : Int) (c : Int) (a : Option Addr) (n ca : Nat) (r b : Int) (B P : Nat → Int) (now : Int) (hS : Sps w a n B P) (hg : goodC c n r b B P = true) (hcn : rngB cn 0 15 = true) :
    Calls Try.prog 27 #[.int .u64 id, .int .i64 cn, .pointer (some ⟨L.K, 0, none⟩), conV c a n ca r b, .int .i64 now] w (GaveT L D w (Ran D 0 (B 0) now) id cn 1 0) := by
  obtain ⟨B2, s0, s1, sz⟩ := box2 w #[.int .i64 c, .slice a n ca, .int .i64 r, .int .i64 b] #[.int .u64 0, .int .i64 0, .int .i64 0, .int .i64 0, .int .u64 0, .int .i64 0, .int .i64 0, .int .i64 0, .int .i64 0] 27 68
  obtain ⟨c0, c1, c2, c3, -⟩ := four_at s0
  have HFI := Lib.hid (first_any (h.kept B2) hd c a n ca r b B P now (hS.kept B2) hg)
  have HIN := Lib.hid (fun w => tin_i cn 0 15 true hcn w)
  have HB := Lib.hid B2
  have HS := Lib.hid (And.intro s1 sz)
  have H0 := Lib.hid h
  have hLC := h.pl.lt
  unfold conV at *
  clear B2 s0 s1 sz hS hg h hd hcn
  go_enter Try.func27, Try.ntmps27
  go_wp2_with (go_at_call 51; (with_reducible refine (HIN.out _).mono ?_); rintro e w' ⟨rfl, rfl⟩)
  generalize ((w.alloc (.cells #[.int .i64 c, .slice a n ca, .int .i64 r, .int .i64 b] 27)).alloc (.cells #[.int .u64 0, .int .i64 0, .int .i64 0, .int .i64 0, .int .u64 0, .int .i64 0, .int .i64 0, .int .i64 0, .int .i64 0] 68)) = W at HB HS HFI c0 c1 c2 c3 ⊢
  refine HFI.out.mono ?_
  rintro e w4 ⟨l, f, cc, d, er, rfl, hR, hC, ho⟩
  have HT := Lib.hid (ex_only HS.out.1 ho (show w.heap.size + 1 ≠ L.C by omega))
  have HO := Lib.hid ((Only.below (X := (· = L.C)) HB.out).trans ho)
  have HC4 := Lib.hid hC
  have HRR := Lib.hid hR
  clear hR hC ho c0 c1 c2 c3
  obtain ⟨bx, bn, bz⟩ := box1 w4 #[.int .i64 l, .int .i64 f, .int .i64 cc, .int .i64 d] 29
  have HB4 := Lib.hid bx
  have HT5 := Lib.hid (ex_below HT.out bx)
  obtain ⟨m0, m1, m2, m3, -⟩ := four_at bn
  unfold stepV
  clear bx bn bz
  obtain ⟨bf, ef⟩ : ∃ c, (er != 0) = c := ⟨_, rfl⟩
  have hen : ∃ a0 a1 a2 a3 a4 a5 a6 a7 a8 : Int, ((er = 0 ∧ a0 = id ∧ a1 = cn ∧ a2 = 1 ∧ a3 = l ∧ a4 = 0 ∧ a5 = f ∧ a6 = cc ∧ a7 = d ∧ a8 = 0) ∨ (er ≠ 0 ∧ a0 = 0 ∧ a1 = 0 ∧ a2 = 0 ∧ a3 = 0 ∧ a4 = 0 ∧ a5 = 0 ∧ a6 = 0 ∧ a7 = 0 ∧ a8 = 0)) ∧ ∀ W, Calls Try.prog 52 #[tkV id cn 0 0 0 0 0 0 0, .int .i64 1, stepV l f cc d, .int .i64 er] W fun e w' => e = .returned (.tuple #[tkV a0 a1 a2 a3 a4 a5 a6 a7 a8, .int .i64 er]) ∧ Below W.heap.size W w' := by
    by_cases he : er = 0
    · subst he
      exact ⟨_, _, _, _, _, _, _, _, _, .inl ⟨rfl, rfl, rfl, rfl, rfl, rfl, rfl, rfl, rfl, rfl⟩, fun W => enter_ok id cn 0 0 0 0 0 0 0 1 l f cc d W⟩
    · exact ⟨0, 0, 0, 0, 0, 0, 0, 0, 0, .inr ⟨he, rfl, rfl, rfl, rfl, rfl, rfl, rfl, rfl, rfl⟩, fun W => enter_err id cn 0 0 0 0 0 0 0 1 l f cc d er W he⟩
  obtain ⟨a0, a1, a2, a3, a4, a5, a6, a7, a8, ha, hen⟩ := hen
  have HA := Lib.hid ha
  unfold tkV stepV at hen
  clear ef ha bf
  go_wp2_with fail
  generalize w4.alloc (.cells #[.int .i64 l, .int .i64 f, .int .i64 cc, .int .i64 d] 29) = W5 at HB4 HT5 m0 m1 m2 m3  ⊢
  refine (hen W5).mono ?_
  rintro e w6 ⟨rfl, hb6⟩
  have HC6 := Lib.hid ((HC4.out.kept HB4.out).kept hb6)
  have HO6 := Lib.hid ((HO.out.trans (Only.below HB4.out)).trans (Only.below hb6))
  have HT6 := Lib.hid (ex_below HT5.out hb6)
  clear m0 m1 m2 m3  hb6 hen
  obtain ⟨z0, z1, z2, z3, z4, z5, z6, z7, z8⟩ := nine_at HT6.out
  obtain ⟨y0, y1, y2, y3, y4, y5, y6, y7, y8⟩ := nine_fr HT6.out
  go_wp2_with fail
  have hk := Ck.put9 H0.out (N := w.heap.size + 1) (by omega) HC6.out HT6.out (by decide) (.int .u64 a0) (.int .i64 a1) (.int .i64 a2) (.int .i64 a3) (.int .u64 a4) (.int .i64 a5) (.int .i64 a6) (.int .i64 a7) (.int .i64 a8)
  have ho := HO6.out.put9 (N := w.heap.size + 1) (by omega) (.int .u64 a0) (.int .i64 a1) (.int .i64 a2) (.int .i64 a3) (.int .u64 a4) (.int .i64 a5) (.int .i64 a6) (.int .i64 a7) (.int .i64 a8)
  have hG : ∀ e w', e = .returned (.tuple #[tkV a0 a1 a2 a3 a4 a5 a6 a7 a8, .int .i64 er]) → Ck L D w' → Only (· = L.C) w w' → GaveT L D w (Ran D 0 (B 0) now) id cn 1 0 e w' := by
    rintro e w' rfl h1 h2
    refine ⟨l, f, cc, d, er, HRR.out, ?_, h1, h2⟩
    rcases HA.out with ⟨rfl, rfl, rfl, rfl, rfl, rfl, rfl, rfl, rfl, rfl⟩ | ⟨he, rfl, rfl, rfl, rfl, rfl, rfl, rfl, rfl, rfl⟩
    · exact .inl ⟨rfl, rfl⟩
    · exact .inr ⟨he, rfl⟩
  have HG := Lib.hid hG
  obtain ⟨hp9, -, -⟩ := put9_at HT6.out (.int .u64 a0) (.int .i64 a1) (.int .i64 a2) (.int .i64 a3) (.int .u64 a4) (.int .i64 a5) (.int .i64 a6) (.int .i64 a7) (.int .i64 a8)
  obtain ⟨p0, p1, p2, p3, p4, p5, p6, p7, p8⟩ := nine_at hp9
  unfold put9 at p0 p1 p2 p3 p4 p5 p6 p7 p8 hk ho
  exact bodyPost_ret (v := .tuple #[.agg #[.int .u64 a0, .int .i64 a1, .int .i64 a2, .int .i64 a3, .int .u64 a4, .int .i64 a5, .int .i64 a6, .int .i64 a7, .int .i64 a8], .int .i64 er]) (by simp [results, Try.results27, go_sem, p0, p1, p2, p3, p4, p5, p6, p7, p8]) rfl (HG.out _ _ rfl hk ho)
set_option maxRecDepth 100000 in
set_option maxHeartbeats 4000000 in
theorem pause_no (k : Option Addr) (id cn st lv ge fr lf du tl : Int) (now : Int) (w : World) (hst : (st == 1) = false) :
    Calls Try.prog 33 #[tkV id cn st lv ge fr lf du tl, .pointer k, .int .i64 now] w fun e w' => e = .returned (.tuple #[tkV 0 0 0 0 0 0 0 0 0, .int .i64 33]) ∧ Below w.heap.size w w' := by
  obtain ⟨B2, s0, s1, sz⟩ := box2 w #[.int .u64 id, .int .i64 cn, .int .i64 st, .int .i64 lv, .int .u64 ge, .int .i64 fr, .int .i64 lf, .int .i64 du, .int .i64 tl] #[.int .u64 0, .int .i64 0, .int .i64 0, .int .i64 0, .int .u64 0, .int .i64 0, .int .i64 0, .int .i64 0, .int .i64 0] 68 68
  obtain ⟨c0, c1, c2, c3, c4, c5, c6, c7, c8⟩ := nine_at s0
  obtain ⟨z0, z1, z2, z3, z4, z5, z6, z7, z8⟩ := nine_at s1
  obtain ⟨y0, y1, y2, y3, y4, y5, y6, y7, y8⟩ := nine_fr s1
  have HB := Lib.hid B2
  have HAL := Lib.hid (fun w => al_pause st false hst w)
  unfold tkV
  clear B2 s0 s1 sz hst
  go_enter Try.func33, Try.ntmps33
  go_wp2_with (go_at_call 56; (with_reducible refine (HAL.out _).mono ?_); rintro e w' ⟨rfl, rfl⟩)
  exact bodyPost_ret (v := .tuple #[.agg #[.int .u64 0, .int .i64 0, .int .i64 0, .int .i64 0, .int .u64 0, .int .i64 0, .int .i64 0, .int .i64 0, .int .i64 0], .int .i64 33]) (by simp [results, Try.results33, go_sem, z0, z1, z2, z3, z4, z5, z6, z7, z8]) rfl ⟨rfl, HB.out⟩
set_option maxRecDepth 100000 in
set_option maxHeartbeats 4000000 in
theorem pause_any {L : Loc} {D : Cal} {w : World} (h : Ck L D w) (hd : D.ok) (id cn st lv ge fr lf du tl : Int) (now : Int) (hst : (st == 1) = true) (hn : 0 < D.n) (b1 : lf ≤ 9223372036854775807) :
    Calls Try.prog 33 #[tkV id cn st lv ge fr lf du tl, .pointer (some ⟨L.K, 0, none⟩), .int .i64 now] w (GaveT L D w (Stood D lv fr lf du now) id cn 2 tl) := by
  obtain ⟨B2, s0, s1, sz⟩ := box2 w #[.int .u64 id, .int .i64 cn, .int .i64 st, .int .i64 lv, .int .u64 ge, .int .i64 fr, .int .i64 lf, .int .i64 du, .int .i64 tl] #[.int .u64 0, .int .i64 0, .int .i64 0, .int .i64 0, .int .u64 0, .int .i64 0, .int .i64 0, .int .i64 0, .int .i64 0] 68 68
  obtain ⟨c0, c1, c2, c3, c4, c5, c6, c7, c8⟩ := nine_at s0
  have HST := Lib.hid (fun (W : World) (hC : Ck L D W) => stand_any hC hd lv fr lf du now b1)
  have HSP := Lib.hid (fun (W : World) => tk_step id cn st lv ge fr lf du tl W)
  have HAL := Lib.hid (fun w => al_pause st true hst w)
  have HB := Lib.hid B2
  have HS := Lib.hid (And.intro s1 (And.intro sz s0))
  have H0 := Lib.hid h
  have HC0 := Lib.hid (h.kept B2)
  have hLC := h.pl.lt
  unfold tkV at *
  clear B2 s0 s1 sz h hd hst
  go_enter Try.func33, Try.ntmps33
  go_wp2_with (go_at_call 56; (with_reducible refine (HAL.out _).mono ?_); rintro e w' ⟨rfl, rfl⟩)
  generalize ((w.alloc (.cells #[.int .u64 id, .int .i64 cn, .int .i64 st, .int .i64 lv, .int .u64 ge, .int .i64 fr, .int .i64 lf, .int .i64 du, .int .i64 tl] 68)).alloc (.cells #[.int .u64 0, .int .i64 0, .int .i64 0, .int .i64 0, .int .u64 0, .int .i64 0, .int .i64 0, .int .i64 0, .int .i64 0] 68)) = W at HB HS HC0 c0 c1 c2 c3 c4 c5 c6 c7 c8 ⊢
  refine (HSP.out W).mono ?_
  rintro e w3 ⟨rfl, hb3⟩
  have HC3 := Lib.hid (HC0.out.kept hb3)
  have HX3 := Lib.hid (ex_below HS.out.2.2 hb3)
  have HT3 := Lib.hid (ex_below HS.out.1 hb3)
  have HO3 := Lib.hid ((Only.below (X := (· = L.C)) HB.out).trans (Only.below hb3))
  clear hb3 c0 c1 c2 c3 c4 c5 c6 c7 c8
  obtain ⟨c0, c1, c2, c3, c4, c5, c6, c7, c8⟩ := nine_at HX3.out
  go_wp2_with fail
  refine (HST.out w3 HC3.out).mono ?_
  rintro e w4 ⟨l, f, cc, d, er, rfl, hR, hC, ho⟩
  replace hC := hC (.inl hn)
  have HT := Lib.hid (ex_only HT3.out ho (show w.heap.size + 1 ≠ L.C by omega))
  have HX := Lib.hid (ex_only HX3.out ho (show w.heap.size ≠ L.C by omega))
  have HO := Lib.hid (HO3.out.trans ho)
  have HC4 := Lib.hid hC
  have HRR := Lib.hid hR
  clear hR hC ho c0 c1 c2 c3 c4 c5 c6 c7 c8
  obtain ⟨bx, bn, bz⟩ := box1 w4 #[.int .i64 l, .int .i64 f, .int .i64 cc, .int .i64 d] 29
  have HB4 := Lib.hid bx
  have HT5 := Lib.hid (ex_below HT.out bx)
  obtain ⟨m0, m1, m2, m3, -⟩ := four_at bn
  obtain ⟨k0, k1, k2, k3, k4, k5, k6, k7, k8⟩ := nine_at (ex_below HX.out bx)
  unfold stepV
  clear bx bn bz
  obtain ⟨bf, ef⟩ : ∃ c, (er != 0) = c := ⟨_, rfl⟩
  have hen : ∃ a0 a1 a2 a3 a4 a5 a6 a7 a8 : Int, ((er = 0 ∧ a0 = id ∧ a1 = cn ∧ a2 = 2 ∧ a3 = l ∧ a4 = 0 ∧ a5 = f ∧ a6 = cc ∧ a7 = d ∧ a8 = tl) ∨ (er ≠ 0 ∧ a0 = 0 ∧ a1 = 0 ∧ a2 = 0 ∧ a3 = 0 ∧ a4 = 0 ∧ a5 = 0 ∧ a6 = 0 ∧ a7 = 0 ∧ a8 = 0)) ∧ ∀ W, Calls Try.prog 52 #[tkV id cn st lv ge fr lf du tl, .int .i64 2, stepV l f cc d, .int .i64 er] W fun e w' => e = .returned (.tuple #[tkV a0 a1 a2 a3 a4 a5 a6 a7 a8, .int .i64 er]) ∧ Below W.heap.size W w' := by
    by_cases he : er = 0
    · subst he
      exact ⟨_, _, _, _, _, _, _, _, _, .inl ⟨rfl, rfl, rfl, rfl, rfl, rfl, rfl, rfl, rfl, rfl⟩, fun W => enter_ok id cn st lv ge fr lf du tl 2 l f cc d W⟩
    · exact ⟨0, 0, 0, 0, 0, 0, 0, 0, 0, .inr ⟨he, rfl, rfl, rfl, rfl, rfl, rfl, rfl, rfl, rfl⟩, fun W => enter_err id cn st lv ge fr lf du tl 2 l f cc d er W he⟩
  obtain ⟨a0, a1, a2, a3, a4, a5, a6, a7, a8, ha, hen⟩ := hen
  have HA := Lib.hid ha
  unfold tkV stepV at hen
  clear ef ha bf
  go_wp2_with fail
  generalize w4.alloc (.cells #[.int .i64 l, .int .i64 f, .int .i64 cc, .int .i64 d] 29) = W5 at HB4 HT5 m0 m1 m2 m3 k0 k1 k2 k3 k4 k5 k6 k7 k8 ⊢
  refine (hen W5).mono ?_
  rintro e w6 ⟨rfl, hb6⟩
  have HC6 := Lib.hid ((HC4.out.kept HB4.out).kept hb6)
  have HO6 := Lib.hid ((HO.out.trans (Only.below HB4.out)).trans (Only.below hb6))
  have HT6 := Lib.hid (ex_below HT5.out hb6)
  clear m0 m1 m2 m3 k0 k1 k2 k3 k4 k5 k6 k7 k8 hb6 hen
  obtain ⟨z0, z1, z2, z3, z4, z5, z6, z7, z8⟩ := nine_at HT6.out
  obtain ⟨y0, y1, y2, y3, y4, y5, y6, y7, y8⟩ := nine_fr HT6.out
  go_wp2_with fail
  have hk := Ck.put9 H0.out (N := w.heap.size + 1) (by omega) HC6.out HT6.out (by decide) (.int .u64 a0) (.int .i64 a1) (.int .i64 a2) (.int .i64 a3) (.int .u64 a4) (.int .i64 a5) (.int .i64 a6) (.int .i64 a7) (.int .i64 a8)
  have ho := HO6.out.put9 (N := w.heap.size + 1) (by omega) (.int .u64 a0) (.int .i64 a1) (.int .i64 a2) (.int .i64 a3) (.int .u64 a4) (.int .i64 a5) (.int .i64 a6) (.int .i64 a7) (.int .i64 a8)
  have hG : ∀ e w', e = .returned (.tuple #[tkV a0 a1 a2 a3 a4 a5 a6 a7 a8, .int .i64 er]) → Ck L D w' → Only (· = L.C) w w' → GaveT L D w (Stood D lv fr lf du now) id cn 2 tl e w' := by
    rintro e w' rfl h1 h2
    refine ⟨l, f, cc, d, er, HRR.out, ?_, h1, h2⟩
    rcases HA.out with ⟨rfl, rfl, rfl, rfl, rfl, rfl, rfl, rfl, rfl, rfl⟩ | ⟨he, rfl, rfl, rfl, rfl, rfl, rfl, rfl, rfl, rfl⟩
    · exact .inl ⟨rfl, rfl⟩
    · exact .inr ⟨he, rfl⟩
  have HG := Lib.hid hG
  obtain ⟨hp9, -, -⟩ := put9_at HT6.out (.int .u64 a0) (.int .i64 a1) (.int .i64 a2) (.int .i64 a3) (.int .u64 a4) (.int .i64 a5) (.int .i64 a6) (.int .i64 a7) (.int .i64 a8)
  obtain ⟨p0, p1, p2, p3, p4, p5, p6, p7, p8⟩ := nine_at hp9
  unfold put9 at p0 p1 p2 p3 p4 p5 p6 p7 p8 hk ho
  exact bodyPost_ret (v := .tuple #[.agg #[.int .u64 a0, .int .i64 a1, .int .i64 a2, .int .i64 a3, .int .u64 a4, .int .i64 a5, .int .i64 a6, .int .i64 a7, .int .i64 a8], .int .i64 er]) (by simp [results, Try.results33, go_sem, p0, p1, p2, p3, p4, p5, p6, p7, p8]) rfl (HG.out _ _ rfl hk ho)
set_option maxRecDepth 100000 in
set_option maxHeartbeats 4000000 in
theorem resume_no (k : Option Addr) (id cn st lv ge fr lf du tl : Int) (now : Int) (w : World) (hst : (st == 2) = false) :
    Calls Try.prog 29 #[tkV id cn st lv ge fr lf du tl, .pointer k, .int .i64 now] w fun e w' => e = .returned (.tuple #[tkV 0 0 0 0 0 0 0 0 0, .int .i64 33]) ∧ Below w.heap.size w w' := by
  obtain ⟨B2, s0, s1, sz⟩ := box2 w #[.int .u64 id, .int .i64 cn, .int .i64 st, .int .i64 lv, .int .u64 ge, .int .i64 fr, .int .i64 lf, .int .i64 du, .int .i64 tl] #[.int .u64 0, .int .i64 0, .int .i64 0, .int .i64 0, .int .u64 0, .int .i64 0, .int .i64 0, .int .i64 0, .int .i64 0] 68 68
  obtain ⟨c0, c1, c2, c3, c4, c5, c6, c7, c8⟩ := nine_at s0
  obtain ⟨z0, z1, z2, z3, z4, z5, z6, z7, z8⟩ := nine_at s1
  obtain ⟨y0, y1, y2, y3, y4, y5, y6, y7, y8⟩ := nine_fr s1
  have HB := Lib.hid B2
  have HAL := Lib.hid (fun w => al_resume st false hst w)
  unfold tkV
  clear B2 s0 s1 sz hst
  go_enter Try.func29, Try.ntmps29
  go_wp2_with (go_at_call 56; (with_reducible refine (HAL.out _).mono ?_); rintro e w' ⟨rfl, rfl⟩)
  exact bodyPost_ret (v := .tuple #[.agg #[.int .u64 0, .int .i64 0, .int .i64 0, .int .i64 0, .int .u64 0, .int .i64 0, .int .i64 0, .int .i64 0, .int .i64 0], .int .i64 33]) (by simp [results, Try.results29, go_sem, z0, z1, z2, z3, z4, z5, z6, z7, z8]) rfl ⟨rfl, HB.out⟩
set_option maxRecDepth 100000 in
set_option maxHeartbeats 4000000 in
theorem resume_any {L : Loc} {D : Cal} {w : World} (h : Ck L D w) (hd : D.ok) (id cn st lv ge fr lf du tl : Int) (now : Int) (hst : (st == 2) = true) (hn : 0 < D.n) (b1 : lf ≤ 9223372036854775807) :
    Calls Try.prog 29 #[tkV id cn st lv ge fr lf du tl, .pointer (some ⟨L.K, 0, none⟩), .int .i64 now] w (GaveT L D w (Went D lv lf du now) id cn 1 tl) := by
  obtain ⟨B2, s0, s1, sz⟩ := box2 w #[.int .u64 id, .int .i64 cn, .int .i64 st, .int .i64 lv, .int .u64 ge, .int .i64 fr, .int .i64 lf, .int .i64 du, .int .i64 tl] #[.int .u64 0, .int .i64 0, .int .i64 0, .int .i64 0, .int .u64 0, .int .i64 0, .int .i64 0, .int .i64 0, .int .i64 0] 68 68
  obtain ⟨c0, c1, c2, c3, c4, c5, c6, c7, c8⟩ := nine_at s0
  have HST := Lib.hid (fun (W : World) (hC : Ck L D W) => go_any hC hd lv fr lf du now b1)
  have HSP := Lib.hid (fun (W : World) => tk_step id cn st lv ge fr lf du tl W)
  have HAL := Lib.hid (fun w => al_resume st true hst w)
  have HB := Lib.hid B2
  have HS := Lib.hid (And.intro s1 (And.intro sz s0))
  have H0 := Lib.hid h
  have HC0 := Lib.hid (h.kept B2)
  have hLC := h.pl.lt
  unfold tkV at *
  clear B2 s0 s1 sz h hd hst
  go_enter Try.func29, Try.ntmps29
  go_wp2_with (go_at_call 56; (with_reducible refine (HAL.out _).mono ?_); rintro e w' ⟨rfl, rfl⟩)
  generalize ((w.alloc (.cells #[.int .u64 id, .int .i64 cn, .int .i64 st, .int .i64 lv, .int .u64 ge, .int .i64 fr, .int .i64 lf, .int .i64 du, .int .i64 tl] 68)).alloc (.cells #[.int .u64 0, .int .i64 0, .int .i64 0, .int .i64 0, .int .u64 0, .int .i64 0, .int .i64 0, .int .i64 0, .int .i64 0] 68)) = W at HB HS HC0 c0 c1 c2 c3 c4 c5 c6 c7 c8 ⊢
  refine (HSP.out W).mono ?_
  rintro e w3 ⟨rfl, hb3⟩
  have HC3 := Lib.hid (HC0.out.kept hb3)
  have HX3 := Lib.hid (ex_below HS.out.2.2 hb3)
  have HT3 := Lib.hid (ex_below HS.out.1 hb3)
  have HO3 := Lib.hid ((Only.below (X := (· = L.C)) HB.out).trans (Only.below hb3))
  clear hb3 c0 c1 c2 c3 c4 c5 c6 c7 c8
  obtain ⟨c0, c1, c2, c3, c4, c5, c6, c7, c8⟩ := nine_at HX3.out
  go_wp2_with fail
  refine (HST.out w3 HC3.out).mono ?_
  rintro e w4 ⟨l, f, cc, d, er, rfl, hR, hC, ho⟩
  skip
  have HT := Lib.hid (ex_only HT3.out ho (show w.heap.size + 1 ≠ L.C by omega))
  have HX := Lib.hid (ex_only HX3.out ho (show w.heap.size ≠ L.C by omega))
  have HO := Lib.hid (HO3.out.trans ho)
  have HC4 := Lib.hid hC
  have HRR := Lib.hid hR
  clear hR hC ho c0 c1 c2 c3 c4 c5 c6 c7 c8
  obtain ⟨bx, bn, bz⟩ := box1 w4 #[.int .i64 l, .int .i64 f, .int .i64 cc, .int .i64 d] 29
  have HB4 := Lib.hid bx
  have HT5 := Lib.hid (ex_below HT.out bx)
  obtain ⟨m0, m1, m2, m3, -⟩ := four_at bn
  obtain ⟨k0, k1, k2, k3, k4, k5, k6, k7, k8⟩ := nine_at (ex_below HX.out bx)
  unfold stepV
  clear bx bn bz
  obtain ⟨bf, ef⟩ : ∃ c, (er != 0) = c := ⟨_, rfl⟩
  have hen : ∃ a0 a1 a2 a3 a4 a5 a6 a7 a8 : Int, ((er = 0 ∧ a0 = id ∧ a1 = cn ∧ a2 = 1 ∧ a3 = l ∧ a4 = 0 ∧ a5 = f ∧ a6 = cc ∧ a7 = d ∧ a8 = tl) ∨ (er ≠ 0 ∧ a0 = 0 ∧ a1 = 0 ∧ a2 = 0 ∧ a3 = 0 ∧ a4 = 0 ∧ a5 = 0 ∧ a6 = 0 ∧ a7 = 0 ∧ a8 = 0)) ∧ ∀ W, Calls Try.prog 52 #[tkV id cn st lv ge fr lf du tl, .int .i64 1, stepV l f cc d, .int .i64 er] W fun e w' => e = .returned (.tuple #[tkV a0 a1 a2 a3 a4 a5 a6 a7 a8, .int .i64 er]) ∧ Below W.heap.size W w' := by
    by_cases he : er = 0
    · subst he
      exact ⟨_, _, _, _, _, _, _, _, _, .inl ⟨rfl, rfl, rfl, rfl, rfl, rfl, rfl, rfl, rfl, rfl⟩, fun W => enter_ok id cn st lv ge fr lf du tl 1 l f cc d W⟩
    · exact ⟨0, 0, 0, 0, 0, 0, 0, 0, 0, .inr ⟨he, rfl, rfl, rfl, rfl, rfl, rfl, rfl, rfl, rfl⟩, fun W => enter_err id cn st lv ge fr lf du tl 1 l f cc d er W he⟩
  obtain ⟨a0, a1, a2, a3, a4, a5, a6, a7, a8, ha, hen⟩ := hen
  have HA := Lib.hid ha
  unfold tkV stepV at hen
  clear ef ha bf
  go_wp2_with fail
  generalize w4.alloc (.cells #[.int .i64 l, .int .i64 f, .int .i64 cc, .int .i64 d] 29) = W5 at HB4 HT5 m0 m1 m2 m3 k0 k1 k2 k3 k4 k5 k6 k7 k8 ⊢
  refine (hen W5).mono ?_
  rintro e w6 ⟨rfl, hb6⟩
  have HC6 := Lib.hid ((HC4.out.kept HB4.out).kept hb6)
  have HO6 := Lib.hid ((HO.out.trans (Only.below HB4.out)).trans (Only.below hb6))
  have HT6 := Lib.hid (ex_below HT5.out hb6)
  clear m0 m1 m2 m3 k0 k1 k2 k3 k4 k5 k6 k7 k8 hb6 hen
  obtain ⟨z0, z1, z2, z3, z4, z5, z6, z7, z8⟩ := nine_at HT6.out
  obtain ⟨y0, y1, y2, y3, y4, y5, y6, y7, y8⟩ := nine_fr HT6.out
  go_wp2_with fail
  have hk := Ck.put9 H0.out (N := w.heap.size + 1) (by omega) HC6.out HT6.out (by decide) (.int .u64 a0) (.int .i64 a1) (.int .i64 a2) (.int .i64 a3) (.int .u64 a4) (.int .i64 a5) (.int .i64 a6) (.int .i64 a7) (.int .i64 a8)
  have ho := HO6.out.put9 (N := w.heap.size + 1) (by omega) (.int .u64 a0) (.int .i64 a1) (.int .i64 a2) (.int .i64 a3) (.int .u64 a4) (.int .i64 a5) (.int .i64 a6) (.int .i64 a7) (.int .i64 a8)
  have hG : ∀ e w', e = .returned (.tuple #[tkV a0 a1 a2 a3 a4 a5 a6 a7 a8, .int .i64 er]) → Ck L D w' → Only (· = L.C) w w' → GaveT L D w (Went D lv lf du now) id cn 1 tl e w' := by
    rintro e w' rfl h1 h2
    refine ⟨l, f, cc, d, er, HRR.out, ?_, h1, h2⟩
    rcases HA.out with ⟨rfl, rfl, rfl, rfl, rfl, rfl, rfl, rfl, rfl, rfl⟩ | ⟨he, rfl, rfl, rfl, rfl, rfl, rfl, rfl, rfl, rfl⟩
    · exact .inl ⟨rfl, rfl⟩
    · exact .inr ⟨he, rfl⟩
  have HG := Lib.hid hG
  obtain ⟨hp9, -, -⟩ := put9_at HT6.out (.int .u64 a0) (.int .i64 a1) (.int .i64 a2) (.int .i64 a3) (.int .u64 a4) (.int .i64 a5) (.int .i64 a6) (.int .i64 a7) (.int .i64 a8)
  obtain ⟨p0, p1, p2, p3, p4, p5, p6, p7, p8⟩ := nine_at hp9
  unfold put9 at p0 p1 p2 p3 p4 p5 p6 p7 p8 hk ho
  exact bodyPost_ret (v := .tuple #[.agg #[.int .u64 a0, .int .i64 a1, .int .i64 a2, .int .i64 a3, .int .u64 a4, .int .i64 a5, .int .i64 a6, .int .i64 a7, .int .i64 a8], .int .i64 er]) (by simp [results, Try.results29, go_sem, p0, p1, p2, p3, p4, p5, p6, p7, p8]) rfl (HG.out _ _ rfl hk ho)
set_option maxRecDepth 100000 in
set_option maxHeartbeats 4000000 in
theorem reopen_no (k : Option Addr) (id cn st lv ge fr lf du tl : Int) (c : Int) (a : Option Addr) (n ca : Nat) (r b : Int) (now : Int) (w : World) (hst : (st == 4) = false) :
    Calls Try.prog 31 #[tkV id cn st lv ge fr lf du tl, .pointer k, conV c a n ca r b, .int .i64 now] w fun e w' => e = .returned (.tuple #[tkV 0 0 0 0 0 0 0 0 0, .int .i64 33]) ∧ Below w.heap.size w w' := by
  obtain ⟨B2, s0, s1, s2, sz⟩ := box3 w #[.int .u64 id, .int .i64 cn, .int .i64 st, .int .i64 lv, .int .u64 ge, .int .i64 fr, .int .i64 lf, .int .i64 du, .int .i64 tl] #[.int .i64 c, .slice a n ca, .int .i64 r, .int .i64 b] #[.int .u64 0, .int .i64 0, .int .i64 0, .int .i64 0, .int .u64 0, .int .i64 0, .int .i64 0, .int .i64 0, .int .i64 0] 68 27 68
  obtain ⟨c0, c1, c2, c3, c4, c5, c6, c7, c8⟩ := nine_at s0
  obtain ⟨z0, z1, z2, z3, z4, z5, z6, z7, z8⟩ := nine_at s2
  obtain ⟨y0, y1, y2, y3, y4, y5, y6, y7, y8⟩ := nine_fr s2
  have HB := Lib.hid B2
  have HAL := Lib.hid (fun w => al_reopen st false hst w)
  unfold tkV conV
  clear B2 s0 s1 s2 sz hst
  go_enter Try.func31, Try.ntmps31
  go_wp2_with (go_at_call 56; (with_reducible refine (HAL.out _).mono ?_); rintro e w' ⟨rfl, rfl⟩)
  exact bodyPost_ret (v := .tuple #[.agg #[.int .u64 0, .int .i64 0, .int .i64 0, .int .i64 0, .int .u64 0, .int .i64 0, .int .i64 0, .int .i64 0, .int .i64 0], .int .i64 33]) (by simp [results, Try.results31, go_sem, z0, z1, z2, z3, z4, z5, z6, z7, z8]) rfl ⟨rfl, HB.out⟩
set_option maxRecDepth 100000 in
set_option maxHeartbeats 4000000 in
theorem reopen_any {L : Loc} {D : Cal} {w : World} (h : Ck L D w) (hd : D.ok) (id cn st lv ge fr lf du tl : Int) (c : Int) (a : Option Addr) (n ca : Nat) (r b : Int) (B P : Nat → Int) (now : Int) (hS : Sps w a n B P) (hg : goodC c n r b B P = true) (hst : (st == 4) = true) :
    Calls Try.prog 31 #[tkV id cn st lv ge fr lf du tl, .pointer (some ⟨L.K, 0, none⟩), conV c a n ca r b, .int .i64 now] w (GaveT L D w (Ran D 0 (B 0) now) id cn 1 tl) := by
  obtain ⟨B2, s0, s1, s2, sz⟩ := box3 w #[.int .u64 id, .int .i64 cn, .int .i64 st, .int .i64 lv, .int .u64 ge, .int .i64 fr, .int .i64 lf, .int .i64 du, .int .i64 tl] #[.int .i64 c, .slice a n ca, .int .i64 r, .int .i64 b] #[.int .u64 0, .int .i64 0, .int .i64 0, .int .i64 0, .int .u64 0, .int .i64 0, .int .i64 0, .int .i64 0, .int .i64 0] 68 27 68
  obtain ⟨c0, c1, c2, c3, c4, c5, c6, c7, c8⟩ := nine_at s0
  obtain ⟨g0, g1, g2, g3, -⟩ := four_at s1
  have HFI := Lib.hid (first_any (h.kept B2) hd c a n ca r b B P now (hS.kept B2) hg)
  have HAL := Lib.hid (fun w => al_reopen st true hst w)
  have HB := Lib.hid B2
  have HS := Lib.hid (And.intro s2 (And.intro sz s0))
  have H0 := Lib.hid h
  have hLC := h.pl.lt
  unfold tkV at *
  unfold conV at *
  clear B2 s0 s1 s2 sz h hd hst hS hg
  go_enter Try.func31, Try.ntmps31
  go_wp2_with (go_at_call 56; (with_reducible refine (HAL.out _).mono ?_); rintro e w' ⟨rfl, rfl⟩)
  generalize (((w.alloc (.cells #[.int .u64 id, .int .i64 cn, .int .i64 st, .int .i64 lv, .int .u64 ge, .int .i64 fr, .int .i64 lf, .int .i64 du, .int .i64 tl] 68)).alloc (.cells #[.int .i64 c, .slice a n ca, .int .i64 r, .int .i64 b] 27)).alloc (.cells #[.int .u64 0, .int .i64 0, .int .i64 0, .int .i64 0, .int .u64 0, .int .i64 0, .int .i64 0, .int .i64 0, .int .i64 0] 68)) = W at HB HS HFI c0 c1 c2 c3 c4 c5 c6 c7 c8 g0 g1 g2 g3 ⊢
  refine HFI.out.mono ?_
  rintro e w4 ⟨l, f, cc, d, er, rfl, hR, hC, ho⟩
  have HT := Lib.hid (ex_only HS.out.1 ho (show w.heap.size + 1 + 1 ≠ L.C by omega))
  have HX := Lib.hid (ex_only HS.out.2.2 ho (show w.heap.size ≠ L.C by omega))
  have HO := Lib.hid ((Only.below (X := (· = L.C)) HB.out).trans ho)
  have HC4 := Lib.hid hC
  have HRR := Lib.hid hR
  clear hR hC ho c0 c1 c2 c3 c4 c5 c6 c7 c8 g0 g1 g2 g3
  obtain ⟨bx, bn, bz⟩ := box1 w4 #[.int .i64 l, .int .i64 f, .int .i64 cc, .int .i64 d] 29
  have HB4 := Lib.hid bx
  have HT5 := Lib.hid (ex_below HT.out bx)
  obtain ⟨m0, m1, m2, m3, -⟩ := four_at bn
  obtain ⟨k0, k1, k2, k3, k4, k5, k6, k7, k8⟩ := nine_at (ex_below HX.out bx)
  unfold stepV
  clear bx bn bz
  obtain ⟨bf, ef⟩ : ∃ c, (er != 0) = c := ⟨_, rfl⟩
  have hen : ∃ a0 a1 a2 a3 a4 a5 a6 a7 a8 : Int, ((er = 0 ∧ a0 = id ∧ a1 = cn ∧ a2 = 1 ∧ a3 = l ∧ a4 = 0 ∧ a5 = f ∧ a6 = cc ∧ a7 = d ∧ a8 = tl) ∨ (er ≠ 0 ∧ a0 = 0 ∧ a1 = 0 ∧ a2 = 0 ∧ a3 = 0 ∧ a4 = 0 ∧ a5 = 0 ∧ a6 = 0 ∧ a7 = 0 ∧ a8 = 0)) ∧ ∀ W, Calls Try.prog 52 #[tkV id cn st lv ge fr lf du tl, .int .i64 1, stepV l f cc d, .int .i64 er] W fun e w' => e = .returned (.tuple #[tkV a0 a1 a2 a3 a4 a5 a6 a7 a8, .int .i64 er]) ∧ Below W.heap.size W w' := by
    by_cases he : er = 0
    · subst he
      exact ⟨_, _, _, _, _, _, _, _, _, .inl ⟨rfl, rfl, rfl, rfl, rfl, rfl, rfl, rfl, rfl, rfl⟩, fun W => enter_ok id cn st lv ge fr lf du tl 1 l f cc d W⟩
    · exact ⟨0, 0, 0, 0, 0, 0, 0, 0, 0, .inr ⟨he, rfl, rfl, rfl, rfl, rfl, rfl, rfl, rfl, rfl⟩, fun W => enter_err id cn st lv ge fr lf du tl 1 l f cc d er W he⟩
  obtain ⟨a0, a1, a2, a3, a4, a5, a6, a7, a8, ha, hen⟩ := hen
  have HA := Lib.hid ha
  unfold tkV stepV at hen
  clear ef ha bf
  go_wp2_with fail
  generalize w4.alloc (.cells #[.int .i64 l, .int .i64 f, .int .i64 cc, .int .i64 d] 29) = W5 at HB4 HT5 m0 m1 m2 m3 k0 k1 k2 k3 k4 k5 k6 k7 k8 ⊢
  refine (hen W5).mono ?_
  rintro e w6 ⟨rfl, hb6⟩
  have HC6 := Lib.hid ((HC4.out.kept HB4.out).kept hb6)
  have HO6 := Lib.hid ((HO.out.trans (Only.below HB4.out)).trans (Only.below hb6))
  have HT6 := Lib.hid (ex_below HT5.out hb6)
  clear m0 m1 m2 m3 k0 k1 k2 k3 k4 k5 k6 k7 k8 hb6 hen
  obtain ⟨z0, z1, z2, z3, z4, z5, z6, z7, z8⟩ := nine_at HT6.out
  obtain ⟨y0, y1, y2, y3, y4, y5, y6, y7, y8⟩ := nine_fr HT6.out
  go_wp2_with fail
  have hk := Ck.put9 H0.out (N := w.heap.size + 1 + 1) (by omega) HC6.out HT6.out (by decide) (.int .u64 a0) (.int .i64 a1) (.int .i64 a2) (.int .i64 a3) (.int .u64 a4) (.int .i64 a5) (.int .i64 a6) (.int .i64 a7) (.int .i64 a8)
  have ho := HO6.out.put9 (N := w.heap.size + 1 + 1) (by omega) (.int .u64 a0) (.int .i64 a1) (.int .i64 a2) (.int .i64 a3) (.int .u64 a4) (.int .i64 a5) (.int .i64 a6) (.int .i64 a7) (.int .i64 a8)
  have hG : ∀ e w', e = .returned (.tuple #[tkV a0 a1 a2 a3 a4 a5 a6 a7 a8, .int .i64 er]) → Ck L D w' → Only (· = L.C) w w' → GaveT L D w (Ran D 0 (B 0) now) id cn 1 tl e w' := by
    rintro e w' rfl h1 h2
    refine ⟨l, f, cc, d, er, HRR.out, ?_, h1, h2⟩
    rcases HA.out with ⟨rfl, rfl, rfl, rfl, rfl, rfl, rfl, rfl, rfl, rfl⟩ | ⟨he, rfl, rfl, rfl, rfl, rfl, rfl, rfl, rfl, rfl⟩
    · exact .inl ⟨rfl, rfl⟩
    · exact .inr ⟨he, rfl⟩
  have HG := Lib.hid hG
  obtain ⟨hp9, -, -⟩ := put9_at HT6.out (.int .u64 a0) (.int .i64 a1) (.int .i64 a2) (.int .i64 a3) (.int .u64 a4) (.int .i64 a5) (.int .i64 a6) (.int .i64 a7) (.int .i64 a8)
  obtain ⟨p0, p1, p2, p3, p4, p5, p6, p7, p8⟩ := nine_at hp9
  unfold put9 at p0 p1 p2 p3 p4 p5 p6 p7 p8 hk ho
  exact bodyPost_ret (v := .tuple #[.agg #[.int .u64 a0, .int .i64 a1, .int .i64 a2, .int .i64 a3, .int .u64 a4, .int .i64 a5, .int .i64 a6, .int .i64 a7, .int .i64 a8], .int .i64 er]) (by simp [results, Try.results31, go_sem, p0, p1, p2, p3, p4, p5, p6, p7, p8]) rfl (HG.out _ _ rfl hk ho)
end Go.Proofs.Ythnnbmofpmedhaa

/- Tickets: enter, Open, Pause, Resume, Reopen. -/
import Derived.Test.YthnnbmofpmedhaaGreatTkB
namespace Go.Proofs.YthnnbmofpmedhaaGreat
open Go.RowKit
set_option maxRecDepth 100000 in
set_option maxHeartbeats 4000000 in
theorem enter_err (id cn st lv ge fr lf du tl : Int) (sn l f c d er : Int) (w : World) (he : er ≠ 0) : Calls Tryz.prog 73 #[tkV id cn st lv ge fr lf du tl, .int .i64 sn, stepV l f c d, .int .i64 er] w fun e w' => e = .returned (.tuple #[tkV 0 0 0 0 0 0 0 0 0, .int .i64 er]) ∧ Below w.heap.size w w' := by
  obtain ⟨B2, s0, s1, s2, sz⟩ := box3 w #[.int .u64 id, .int .i64 cn, .int .i64 st, .int .i64 lv, .int .u64 ge, .int .i64 fr, .int .i64 lf, .int .i64 du, .int .i64 tl] #[.int .i64 l, .int .i64 f, .int .i64 c, .int .i64 d] #[.int .u64 0, .int .i64 0, .int .i64 0, .int .i64 0, .int .u64 0, .int .i64 0, .int .i64 0, .int .i64 0, .int .i64 0] 48 89 48
  obtain ⟨z0, z1, z2, z3, z4, z5, z6, z7, z8⟩ := nine_at s2
  obtain ⟨y0, y1, y2, y3, y4, y5, y6, y7, y8⟩ := nine_fr s2
  have HB := Lib.hid B2
  have e1 : (er != 0) = true := by simpa using he
  unfold tkV stepV
  clear B2 s0 s1 s2 sz
  go_enter Tryz.func73, Tryz.ntmps73
  go_wp2_with fail
  exact bodyPost_ret (v := .tuple #[.agg #[.int .u64 0, .int .i64 0, .int .i64 0, .int .i64 0, .int .u64 0, .int .i64 0, .int .i64 0, .int .i64 0, .int .i64 0], .int .i64 er]) (by simp [results, Tryz.results73, go_sem, z0, z1, z2, z3, z4, z5, z6, z7, z8]) rfl ⟨rfl, HB.out⟩
set_option maxRecDepth 100000 in
set_option maxHeartbeats 4000000 in
theorem enter_ok (id cn st lv ge fr lf du tl : Int) (sn l f c d : Int) (w : World) : Calls Tryz.prog 73 #[tkV id cn st lv ge fr lf du tl, .int .i64 sn, stepV l f c d, .int .i64 0] w fun e w' => e = .returned (.tuple #[tkV id cn sn l 0 f c d tl, .int .i64 0]) ∧ Below w.heap.size w w' := by
  obtain ⟨B2, s0, s1, s2, sz⟩ := box3 w #[.int .u64 id, .int .i64 cn, .int .i64 st, .int .i64 lv, .int .u64 ge, .int .i64 fr, .int .i64 lf, .int .i64 du, .int .i64 tl] #[.int .i64 l, .int .i64 f, .int .i64 c, .int .i64 d] #[.int .u64 0, .int .i64 0, .int .i64 0, .int .i64 0, .int .u64 0, .int .i64 0, .int .i64 0, .int .i64 0, .int .i64 0] 48 89 48
  obtain ⟨c0, c1, c2, c3, c4, c5, c6, c7, c8⟩ := nine_at s0
  obtain ⟨g0, g1, g2, g3, -⟩ := four_at s1
  have HB := Lib.hid B2
  have HS := Lib.hid (And.intro s2 sz)
  unfold tkV stepV
  clear B2 s0 s1 s2 sz
  go_enter Tryz.func73, Tryz.ntmps73
  go_wp2_with fail
  generalize (((w.alloc (.cells #[.int .u64 id, .int .i64 cn, .int .i64 st, .int .i64 lv, .int .u64 ge, .int .i64 fr, .int .i64 lf, .int .i64 du, .int .i64 tl] 48)).alloc (.cells #[.int .i64 l, .int .i64 f, .int .i64 c, .int .i64 d] 89)).alloc (.cells #[.int .u64 0, .int .i64 0, .int .i64 0, .int .i64 0, .int .u64 0, .int .i64 0, .int .i64 0, .int .i64 0, .int .i64 0] 48)) = W at HB HS c0 c1 c2 c3 c4 c5 c6 c7 c8 g0 g1 g2 g3 ⊢
  refine (tk_at id cn st lv ge fr lf du tl sn l f c d W).mono ?_
  rintro e w3 ⟨rfl, hb3⟩
  have t1 := (hb3.block (w.heap.size + 1 + 1) (by have := HS.out.2; omega)).trans HS.out.1
  have HB3 := Lib.hid (HB.out.trans (hb3.mono HB.out.size))
  have HT := Lib.hid t1
  clear c0 c1 c2 c3 c4 c5 c6 c7 c8 g0 g1 g2 g3
  obtain ⟨z0, z1, z2, z3, z4, z5, z6, z7, z8⟩ := nine_at t1
  obtain ⟨y0, y1, y2, y3, y4, y5, y6, y7, y8⟩ := nine_fr t1
  clear hb3 t1
  unfold tkV
  go_wp2_with fail
  have ho := below_put9 HB3.out (N := w.heap.size + 1 + 1) (by omega) (.int .u64 id) (.int .i64 cn) (.int .i64 sn) (.int .i64 l) (.int .u64 0) (.int .i64 f) (.int .i64 c) (.int .i64 d) (.int .i64 tl)
  obtain ⟨hp9, -, -⟩ := put9_at HT.out (.int .u64 id) (.int .i64 cn) (.int .i64 sn) (.int .i64 l) (.int .u64 0) (.int .i64 f) (.int .i64 c) (.int .i64 d) (.int .i64 tl)
  obtain ⟨p0, p1, p2, p3, p4, p5, p6, p7, p8⟩ := nine_at hp9
  unfold put9 at p0 p1 p2 p3 p4 p5 p6 p7 p8 ho
  exact bodyPost_ret (v := .tuple #[.agg #[.int .u64 id, .int .i64 cn, .int .i64 sn, .int .i64 l, .int .u64 0, .int .i64 f, .int .i64 c, .int .i64 d, .int .i64 tl], .int .i64 0]) (by simp [results, Tryz.results73, go_sem, p0, p1, p2, p3, p4, p5, p6, p7, p8]) rfl ⟨rfl, ho⟩
/-- What becomes of a ticket at a step that was reckoned. -/
def GaveT (L : Loc) (D : Cal) (w : World) (R : Int → Int → Int → Int → Int → Prop) (id cn sn tl : Int) (e : Ending) (w' : World) : Prop :=
  ∃ l f c d er, R l f c d er ∧ ((er = 0 ∧ e = .returned (.tuple #[tkV id cn sn l 0 f c d tl, .int .i64 0])) ∨ (er ≠ 0 ∧ e = .returned (.tuple #[tkV 0 0 0 0 0 0 0 0 0, .int .i64 er]))) ∧ Ck L D w' ∧ Only (· = L.C) w w'
set_option maxRecDepth 100000 in
set_option maxHeartbeats 4000000 in
theorem open_any' {L : Loc} {D : Cal} {w : World} (h : Ck L D w) (hd : D.ok) (id cn : Int) (c : Int) (a : Option Addr) (n ca : Nat) (r b : Int) (B P : Nat → Int) (now : Int) (hS : Sps w a n B P) (hg : goodC c n r b B P = true) (hcn : rngB cn 0 15 = true) :
    Calls Tryz.prog 45 #[.int .u64 id, .int .i64 cn, .pointer (some ⟨L.K, 0, none⟩), conV c a n ca r b, .int .i64 now] w (GaveT L D w (Ran D 0 (B 0) now) id cn 1 0) := by
  obtain ⟨B2, s0, s1, sz⟩ := box2 w #[.int .i64 c, .slice a n ca, .int .i64 r, .int .i64 b] #[.int .u64 0, .int .i64 0, .int .i64 0, .int .i64 0, .int .u64 0, .int .i64 0, .int .i64 0, .int .i64 0, .int .i64 0] 80 48
  obtain ⟨c0, c1, c2, c3, -⟩ := four_at s0
  have HFI := Lib.hid (first_any (h.kept B2) hd c a n ca r b B P now (hS.kept B2) hg)
  have HIN := Lib.hid (fun w => tin_i cn 0 15 true hcn w)
  have HB := Lib.hid B2
  have HS := Lib.hid (And.intro s1 sz)
  have H0 := Lib.hid h
  have hLC := h.pl.lt
  unfold conV at *
  clear B2 s0 s1 sz hS hg h hd hcn
  go_enter Tryz.func45, Tryz.ntmps45
  go_wp2_with (go_at_call 47; (with_reducible refine (HIN.out _).mono ?_); rintro e w' ⟨rfl, rfl⟩)
  generalize ((w.alloc (.cells #[.int .i64 c, .slice a n ca, .int .i64 r, .int .i64 b] 80)).alloc (.cells #[.int .u64 0, .int .i64 0, .int .i64 0, .int .i64 0, .int .u64 0, .int .i64 0, .int .i64 0, .int .i64 0, .int .i64 0] 48)) = W at HB HS HFI c0 c1 c2 c3 ⊢
  refine HFI.out.mono ?_
  rintro e w4 ⟨l, f, cc, d, er, rfl, hR, hC, ho⟩
  have HT := Lib.hid (ex_only HS.out.1 ho (show w.heap.size + 1 ≠ L.C by omega))
  have HO := Lib.hid ((Only.below (X := (· = L.C)) HB.out).trans ho)
  have HC4 := Lib.hid hC
  have HRR := Lib.hid hR
  clear hR hC ho c0 c1 c2 c3
  obtain ⟨bx, bn, bz⟩ := box1 w4 #[.int .i64 l, .int .i64 f, .int .i64 cc, .int .i64 d] 89
  have HB4 := Lib.hid bx
  have HT5 := Lib.hid (ex_below HT.out bx)
  obtain ⟨m0, m1, m2, m3, -⟩ := four_at bn
  unfold stepV
  clear bx bn bz
  obtain ⟨bf, ef⟩ : ∃ c, (er != 0) = c := ⟨_, rfl⟩
  have hen : ∃ a0 a1 a2 a3 a4 a5 a6 a7 a8 : Int, ((er = 0 ∧ a0 = id ∧ a1 = cn ∧ a2 = 1 ∧ a3 = l ∧ a4 = 0 ∧ a5 = f ∧ a6 = cc ∧ a7 = d ∧ a8 = 0) ∨ (er ≠ 0 ∧ a0 = 0 ∧ a1 = 0 ∧ a2 = 0 ∧ a3 = 0 ∧ a4 = 0 ∧ a5 = 0 ∧ a6 = 0 ∧ a7 = 0 ∧ a8 = 0)) ∧ ∀ W, Calls Tryz.prog 73 #[tkV id cn 0 0 0 0 0 0 0, .int .i64 1, stepV l f cc d, .int .i64 er] W fun e w' => e = .returned (.tuple #[tkV a0 a1 a2 a3 a4 a5 a6 a7 a8, .int .i64 er]) ∧ Below W.heap.size W w' := by
    by_cases he : er = 0
    · subst he
      exact ⟨_, _, _, _, _, _, _, _, _, .inl ⟨rfl, rfl, rfl, rfl, rfl, rfl, rfl, rfl, rfl, rfl⟩, fun W => enter_ok id cn 0 0 0 0 0 0 0 1 l f cc d W⟩
    · exact ⟨0, 0, 0, 0, 0, 0, 0, 0, 0, .inr ⟨he, rfl, rfl, rfl, rfl, rfl, rfl, rfl, rfl, rfl⟩, fun W => enter_err id cn 0 0 0 0 0 0 0 1 l f cc d er W he⟩
  obtain ⟨a0, a1, a2, a3, a4, a5, a6, a7, a8, ha, hen⟩ := hen
  have HA := Lib.hid ha
  unfold tkV stepV at hen
  clear ef ha bf
  go_wp2_with fail
  generalize w4.alloc (.cells #[.int .i64 l, .int .i64 f, .int .i64 cc, .int .i64 d] 89) = W5 at HB4 HT5 m0 m1 m2 m3  ⊢
  refine (hen W5).mono ?_
  rintro e w6 ⟨rfl, hb6⟩
  have HC6 := Lib.hid ((HC4.out.kept HB4.out).kept hb6)
  have HO6 := Lib.hid ((HO.out.trans (Only.below HB4.out)).trans (Only.below hb6))
  have HT6 := Lib.hid (ex_below HT5.out hb6)
  clear m0 m1 m2 m3  hb6 hen
  obtain ⟨z0, z1, z2, z3, z4, z5, z6, z7, z8⟩ := nine_at HT6.out
  obtain ⟨y0, y1, y2, y3, y4, y5, y6, y7, y8⟩ := nine_fr HT6.out
  go_wp2_with fail
  have hk := Ck.put9 H0.out (N := w.heap.size + 1) (by omega) HC6.out HT6.out (by decide) (.int .u64 a0) (.int .i64 a1) (.int .i64 a2) (.int .i64 a3) (.int .u64 a4) (.int .i64 a5) (.int .i64 a6) (.int .i64 a7) (.int .i64 a8)
  have ho := HO6.out.put9 (N := w.heap.size + 1) (by omega) (.int .u64 a0) (.int .i64 a1) (.int .i64 a2) (.int .i64 a3) (.int .u64 a4) (.int .i64 a5) (.int .i64 a6) (.int .i64 a7) (.int .i64 a8)
  have hG : ∀ e w', e = .returned (.tuple #[tkV a0 a1 a2 a3 a4 a5 a6 a7 a8, .int .i64 er]) → Ck L D w' → Only (· = L.C) w w' → GaveT L D w (Ran D 0 (B 0) now) id cn 1 0 e w' := by
    rintro e w' rfl h1 h2
    refine ⟨l, f, cc, d, er, HRR.out, ?_, h1, h2⟩
    rcases HA.out with ⟨rfl, rfl, rfl, rfl, rfl, rfl, rfl, rfl, rfl, rfl⟩ | ⟨he, rfl, rfl, rfl, rfl, rfl, rfl, rfl, rfl, rfl⟩
    · exact .inl ⟨rfl, rfl⟩
    · exact .inr ⟨he, rfl⟩
  have HG := Lib.hid hG
  obtain ⟨hp9, -, -⟩ := put9_at HT6.out (.int .u64 a0) (.int .i64 a1) (.int .i64 a2) (.int .i64 a3) (.int .u64 a4) (.int .i64 a5) (.int .i64 a6) (.int .i64 a7) (.int .i64 a8)
  obtain ⟨p0, p1, p2, p3, p4, p5, p6, p7, p8⟩ := nine_at hp9
  unfold put9 at p0 p1 p2 p3 p4 p5 p6 p7 p8 hk ho
  exact bodyPost_ret (v := .tuple #[.agg #[.int .u64 a0, .int .i64 a1, .int .i64 a2, .int .i64 a3, .int .u64 a4, .int .i64 a5, .int .i64 a6, .int .i64 a7, .int .i64 a8], .int .i64 er]) (by simp [results, Tryz.results45, go_sem, p0, p1, p2, p3, p4, p5, p6, p7, p8]) rfl (HG.out _ _ rfl hk ho)
end Go.Proofs.YthnnbmofpmedhaaGreat

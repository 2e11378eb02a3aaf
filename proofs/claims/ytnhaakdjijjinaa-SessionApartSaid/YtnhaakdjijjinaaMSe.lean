import Derived.Test.YtnhaakdjijjinaaMSd
namespace Go.Proofs.Ytnhaakdjijjinaa
open Go.RowKit
/- Session: a call of the law, both ways. -/
open Go.RowKit Go.Maps
variable {Av : Nat}
theorem RT.over2 {w : World} {N : Nat} (h : w.there N 0 135) (X : Nat → Opn) : RT (w.setCells N 0 (tabC X)) N X :=
  ⟨World.rangeAt_setCells_same w N 0 (tabC X) (by rw [tabC_len]; exact h), World.there_setCells h _ _ _⟩
theorem heap_setCells {N b : Nat} (hn : b ≠ N) : ∀ (vs : List Value) (o : Nat) (w : World), (w.setCells N o vs).heap[b]? = w.heap[b]?
  | [], _, _ => rfl
  | v :: r, o, w => by
    rw [World.setCells, heap_setCells hn r (o + 1)]
    exact Below.heap_setCell _ _ _ _ (by show b ≠ N; exact hn)
theorem size_setCells {N : Nat} : ∀ (vs : List Value) (o : Nat) (w : World), (w.setCells N o vs).heap.size = w.heap.size
  | [], _, _ => rfl
  | v :: r, o, w => by
    rw [World.setCells, size_setCells r (o + 1)]
    simp
theorem RT.frame {w w' : World} {B : Nat} {X : Nat → Opn} (h : RT w B X) (e : w'.heap[B]? = w.heap[B]?) : RT w' B X := h.eq e
theorem there_eq {w w' : World} {B n : Nat} (h : w.there B 0 n) (e : w'.heap[B]? = w.heap[B]?) : w'.there B 0 n := fun j hj => by
  obtain ⟨h1, h2⟩ := h j hj
  exact ⟨by rw [World.cell?_of_block (a := ⟨B, 0 + j, none⟩) e]; exact h1, by rw [World.frozen?_of_block (a := ⟨B, 0 + j, none⟩) e]; exact h2⟩
theorem there_lt {w : World} {B : Nat} (h : w.there B 0 135) : B < w.heap.size := by
  obtain ⟨h1, -⟩ := h 0 (by omega)
  obtain ⟨u, hu⟩ := Option.isSome_iff_exists.1 h1
  exact (cell_spot hu).2
set_option maxRecDepth 100000 in
set_option maxHeartbeats 8000000 in
theorem do_look {w : World} {T mb c : Nat} {M : Lit → Option Value} {X : Nat → Opn} (h : Rt Av w T mb c M X) (kd cl rq : Int) (cd tm id cn st lv ge fr lf du tl : Int) (a : Option Addr) (n ca : Nat) (nt de : Int) (xs : List Nat) (hin : OpIn w (Opn.mk kd cl rq cd tm id cn st lv ge fr lf du tl a n ca nt de xs)) (hb3 : (0 ≤ id ∧ id < 18446744073709551616) ∧ (0 ≤ ge ∧ ge < 18446744073709551616) ∧ (0 ≤ nt ∧ nt < 18446744073709551616)) (hn2 : n ≤ 200) (hav : Av < w.heap.size) (hxa : ∀ g o, a = some ⟨g, o, none⟩ → 0 < n → g ≠ Av) (hk : kd = 1) :
    Calls Try.prog 30 #[.pointer (some ⟨T, 0, none⟩), rtV X, .agg #[.int .i64 kd, .int .u64 cl, .int .u64 rq, .int .i64 cd, .int .i64 tm, .int .u64 id, .int .i64 cn, .int .i64 st, .int .i64 lv, .int .u64 ge, .int .i64 fr, .int .i64 lf, .int .i64 du, .int .i64 tl, .slice a n ca, .int .u64 nt, .int .i64 de]] w fun e w' => ∃ X', e = .returned (.tuple #[rtV X', .bool true]) ∧ (∃ c' M', Rt Av w' T mb c' M' X') ∧ w.grownBy w' (some mb) := by
  obtain ⟨B1, s0, s1, -⟩ := box2 w (tabC X).toArray #[.int .i64 kd, .int .u64 cl, .int .u64 rq, .int .i64 cd, .int .i64 tm, .int .u64 id, .int .i64 cn, .int .i64 st, .int .i64 lv, .int .u64 ge, .int .i64 fr, .int .i64 lf, .int .i64 du, .int .i64 tl, .slice a n ca, .int .u64 nt, .int .i64 de] 62 64
  have e2 : ((w.alloc (.cells (tabC X).toArray 62)).alloc (.cells #[.int .i64 kd, .int .u64 cl, .int .u64 rq, .int .i64 cd, .int .i64 tm, .int .u64 id, .int .i64 cn, .int .i64 st, .int .i64 lv, .int .u64 ge, .int .i64 fr, .int .i64 lf, .int .i64 du, .int .i64 tl, .slice a n ca, .int .u64 nt, .int .i64 de] 64)).heap.size = w.heap.size + 2 := by simp
  have hb0 : Below (w.alloc (.cells (tabC X).toArray 62)).heap.size (w.alloc (.cells (tabC X).toArray 62)) ((w.alloc (.cells (tabC X).toArray 62)).alloc (.cells #[.int .i64 kd, .int .u64 cl, .int .u64 rq, .int .i64 cd, .int .i64 tm, .int .u64 id, .int .i64 cn, .int .i64 st, .int .i64 lv, .int .u64 ge, .int .i64 fr, .int .i64 lf, .int .i64 du, .int .i64 tl, .slice a n ca, .int .u64 nt, .int .i64 de] 64)) := (Below.refl _ _).alloc (Nat.le_refl _) _
  obtain ⟨B2, -, -⟩ := box1 ((w.alloc (.cells (tabC X).toArray 62)).alloc (.cells #[.int .i64 kd, .int .u64 cl, .int .u64 rq, .int .i64 cd, .int .i64 tm, .int .u64 id, .int .i64 cn, .int .i64 st, .int .i64 lv, .int .u64 ge, .int .i64 fr, .int .i64 lf, .int .i64 du, .int .i64 tl, .slice a n ca, .int .u64 nt, .int .i64 de] 64)) Try.zeroCells62 62
  have hR := ((RT.made w X 62).kept hb0).kept B2
  have hZ := RT.made ((w.alloc (.cells (tabC X).toArray 62)).alloc (.cells #[.int .i64 kd, .int .u64 cl, .int .u64 rq, .int .i64 cd, .int .i64 tm, .int .u64 id, .int .i64 cn, .int .i64 st, .int .i64 lv, .int .u64 ge, .int .i64 fr, .int .i64 lf, .int .i64 du, .int .i64 tl, .slice a n ca, .int .u64 nt, .int .i64 de] 64)) (fun _ => zOp) 62
  rw [← z135, e2] at hZ
  have HB := Lib.hid (B1.trans (B2.mono B1.size))
  have HR := Lib.hid hR
  have HZ := Lib.hid hZ.2
  have HS := Lib.hid (ex_below s1 B2)
  have HRT := Lib.hid h
  have HONE : Hid (∀ V, (tabC V).toArray.all (·.oneCell') = true) := Lib.hid (fun V => all_oneCell_toArray (tabC_one V))
  have HYI : Hid (∀ V, (Try.prog.info? 62).map (·.size) = some (tabC V).length) := Lib.hid (fun V => by rw [rt_info, tabC_len])
  have HTA : Hid (∀ V, (tabC V).toArray.size = 135) := Lib.hid (fun V => by rw [List.size_toArray, tabC_len])
  have HYA : Hid (∀ V, (Try.prog.info? 62).map (·.size) = some (tabC V).toArray.size) := Lib.hid (fun V => by rw [rt_info, List.size_toArray, tabC_len])
  obtain ⟨how, y, hP, hQ, hU⟩ := look_both h cl rq hin.2.1 hin.2.2.1.1
  have HP := Lib.hid hP
  have HQ := Lib.hid hQ
  have HU := Lib.hid hU
  unfold rtV at HQ
  have HSM : Hid (∀ (W : World) {a1 : Option Addr} {c1 : Nat}, Us W a1 y.n y.xs → Us W y.a y.n y.xs → Calls Try.prog 13 #[.agg #[.int .i64 y.cd, .int .i64 y.tm, .int .u64 y.id, .int .i64 y.cn, .int .i64 y.st, .int .i64 y.lv, .int .u64 y.ge, .int .i64 y.fr, .int .i64 y.lf, .int .i64 y.du, .int .i64 y.tl, .slice a1 y.n c1, .int .u64 y.nt, .int .i64 y.de], .agg #[.int .i64 y.cd, .int .i64 y.tm, .int .u64 y.id, .int .i64 y.cn, .int .i64 y.st, .int .i64 y.lv, .int .u64 y.ge, .int .i64 y.fr, .int .i64 y.lf, .int .i64 y.du, .int .i64 y.tl, .slice y.a y.n y.ca, .int .u64 y.nt, .int .i64 y.de]] W fun e w' => e = .returned (.bool true) ∧ Below W.heap.size W w') := Lib.hid (fun W {a1 c1} h1 h2 => by
    have h := rrep_same y.cd y.tm y.id y.cn y.st y.lv y.ge y.fr y.lf y.du y.tl a1 y.n c1 y.nt y.de y.xs y.cd y.tm y.id y.cn y.st y.lv y.ge y.fr y.lf y.du y.tl y.a y.n y.ca y.nt y.de y.xs W h1 h2
    rw [repEq_refl] at h
    exact h)
  clear hP hQ hU hin
  subst hk
  clear B1 B2 s0 s1 hb0 hR hZ e2 h hb3
  obtain ⟨q0, q1, q2, q3, q4, q5, q6, q7, q8, q9, q10, q11, q12, q13, q14, q15, q16⟩ := op_at HS.out
  unfold rtV
  go_enter Try.func30, Try.ntmps30
  go_wp2_with fail
  clear q0 q1 q2 q3 q4 q5 q6 q7 q8 q9 q10 q11 q12 q13 q14 q15 q16
  generalize ((w.alloc (.cells (tabC X).toArray 62)).alloc (.cells #[.int .i64 1, .int .u64 cl, .int .u64 rq, .int .i64 cd, .int .i64 tm, .int .u64 id, .int .i64 cn, .int .i64 st, .int .i64 lv, .int .u64 ge, .int .i64 fr, .int .i64 lf, .int .i64 du, .int .i64 tl, .slice a n ca, .int .u64 nt, .int .i64 de] 64)).alloc (.cells Try.zeroCells62 62) = W0 at HB HR HZ HS ⊢
  refine (HP.out W0 HB.out).mono ?_
  rintro e w1 ⟨a1, c1, rfl, hu1, hb⟩
  obtain ⟨X1, X2, -⟩ := box1 w1 #[.int .i64 y.cd, .int .i64 y.tm, .int .u64 y.id, .int .i64 y.cn, .int .i64 y.st, .int .i64 y.lv, .int .u64 y.ge, .int .i64 y.fr, .int .i64 y.lf, .int .i64 y.du, .int .i64 y.tl, .slice a1 y.n c1, .int .u64 y.nt, .int .i64 y.de] 28
  obtain ⟨Y1, Y2, -⟩ := box1 w1 #[.int .i64 0, .int .i64 0, .int .u64 0, .int .i64 0, .int .i64 0, .int .i64 0, .int .u64 0, .int .i64 0, .int .i64 0, .int .i64 0, .int .i64 0, .slice none 0 0, .int .u64 0, .int .i64 0] 28
  have hb2 := hb.trans (X1.mono hb.size)
  have HB2 := Lib.hid (HB.out.trans (hb2.mono HB.out.size))
  have HR2 := Lib.hid (HR.out.kept hb2)
  have HZ2 : Hid ((w1.alloc (.cells #[.int .i64 y.cd, .int .i64 y.tm, .int .u64 y.id, .int .i64 y.cn, .int .i64 y.st, .int .i64 y.lv, .int .u64 y.ge, .int .i64 y.fr, .int .i64 y.lf, .int .i64 y.du, .int .i64 y.tl, .slice a1 y.n c1, .int .u64 y.nt, .int .i64 y.de] 28)).there (w.heap.size + 2) 0 135) := Lib.hid (there_eq HZ.out (hb2.block _ (there_lt HZ.out)))
  have HS2 := Lib.hid (ex_below HS.out hb2)
  have HU12 := Lib.hid (hu1.kept X1)
  have HGA : Hid ((w.heap.size + 2) < w1.heap.size) := Lib.hid (Nat.lt_of_lt_of_le (there_lt HZ.out) hb.size)
  obtain ⟨t0, t1, t2, t3, t4, t5, t6, t7, t8, t9, t10, t11, t12, t13⟩ := rep_at Y2
  have tf := rep_fr Y2
  obtain ⟨q0, q1, q2, q3, q4, q5, q6, q7, q8, q9, q10, q11, q12, q13, q14, q15, q16⟩ := op_at HS2.out
  obtain ⟨G9, hG9⟩ : ∃ y, w1.heap.size = y := ⟨_, rfl⟩
  rw [hG9] at X2 HGA t0 t1 t2 t3 t4 t5 t6 t7 t8 t9 t10 t11 t12 t13 tf
  have HX9 := Lib.hid X2
  clear hb hb2 hu1 X1 X2 Y1 Y2 HB HR HZ HS
  go_wp2_with (refine wpList_load_mid (w := (w1.alloc (.cells #[.int .i64 y.cd, .int .i64 y.tm, .int .u64 y.id, .int .i64 y.cn, .int .i64 y.st, .int .i64 y.lv, .int .u64 y.ge, .int .i64 y.fr, .int .i64 y.lf, .int .i64 y.du, .int .i64 y.tl, .slice a1 y.n c1, .int .u64 y.nt, .int .i64 y.de] 28))) rfl 62 (.tmp 4) rfl w.heap.size 0 rfl (tabC X) _ HR2.out.1 rt_und rfl (HYI.out X) ?_)
  clear t0 t1 t2 t3 t4 t5 t6 t7 t8 t9 t10 t11 t12 t13 tf q0 q1 q2 q3 q4 q5 q6 q7 q8 q9 q10 q11 q12 q13 q14 q15 q16
  try rw [hG9]
  clear hG9
  generalize w1.alloc (.cells #[.int .i64 y.cd, .int .i64 y.tm, .int .u64 y.id, .int .i64 y.cn, .int .i64 y.st, .int .i64 y.lv, .int .u64 y.ge, .int .i64 y.fr, .int .i64 y.lf, .int .i64 y.du, .int .i64 y.tl, .slice a1 y.n c1, .int .u64 y.nt, .int .i64 y.de] 28) = W2 at HB2 HR2 HZ2 HS2 HU12 HX9 ⊢
  refine (HQ.out W2).mono ?_
  rintro e w3 ⟨rfl, hb⟩
  obtain ⟨X1, X2, -⟩ := box1 w3 #[.int .i64 y.cd, .int .i64 y.tm, .int .u64 y.id, .int .i64 y.cn, .int .i64 y.st, .int .i64 y.lv, .int .u64 y.ge, .int .i64 y.fr, .int .i64 y.lf, .int .i64 y.du, .int .i64 y.tl, .slice y.a y.n y.ca, .int .u64 y.nt, .int .i64 y.de] 28
  obtain ⟨Y1, Y2, -⟩ := box1 w3 #[.int .i64 0, .int .i64 0, .int .u64 0, .int .i64 0, .int .i64 0, .int .i64 0, .int .u64 0, .int .i64 0, .int .i64 0, .int .i64 0, .int .i64 0, .slice none 0 0, .int .u64 0, .int .i64 0] 28
  have hb2 := hb.trans (X1.mono hb.size)
  have HB4 := Lib.hid (HB2.out.trans (hb2.mono HB2.out.size))
  have HR4 := Lib.hid (HR2.out.kept hb2)
  have HZ4 : Hid ((w3.alloc (.cells #[.int .i64 y.cd, .int .i64 y.tm, .int .u64 y.id, .int .i64 y.cn, .int .i64 y.st, .int .i64 y.lv, .int .u64 y.ge, .int .i64 y.fr, .int .i64 y.lf, .int .i64 y.du, .int .i64 y.tl, .slice y.a y.n y.ca, .int .u64 y.nt, .int .i64 y.de] 28)).there (w.heap.size + 2) 0 135) := Lib.hid (there_eq HZ2.out (hb2.block _ (there_lt HZ2.out)))
  have HG9 := Lib.hid (ex_below HX9.out hb2)
  have HU1 := Lib.hid (HU12.out.kept hb2)
  have HU2 := Lib.hid (HU.out.kept HB4.out)
  have HGB : Hid ((w.heap.size + 2) < w3.heap.size) := Lib.hid (Nat.lt_of_lt_of_le (there_lt HZ2.out) hb.size)
  obtain ⟨t0, t1, t2, t3, t4, t5, t6, t7, t8, t9, t10, t11, t12, t13⟩ := rep_at Y2
  have tf := rep_fr Y2
  obtain ⟨G11, hG11⟩ : ∃ y, w3.heap.size = y := ⟨_, rfl⟩
  rw [hG11] at X2 HGB t0 t1 t2 t3 t4 t5 t6 t7 t8 t9 t10 t11 t12 t13 tf
  have HG11 := Lib.hid X2
  have HGN : Hid ((w.heap.size + 2) < G9 ∧ (w.heap.size + 2) < G11) := Lib.hid ⟨HGA.out, HGB.out⟩
  clear hb hb2 X1 X2 Y1 Y2 HB2 HR2 HZ2 HS2 HU12 HX9 HU
  go_wp2_with fail
  clear t0 t1 t2 t3 t4 t5 t6 t7 t8 t9 t10 t11 t12 t13 tf
  try rw [hG11]
  clear hG11
  generalize w3.alloc (.cells #[.int .i64 y.cd, .int .i64 y.tm, .int .u64 y.id, .int .i64 y.cn, .int .i64 y.st, .int .i64 y.lv, .int .u64 y.ge, .int .i64 y.fr, .int .i64 y.lf, .int .i64 y.du, .int .i64 y.tl, .slice y.a y.n y.ca, .int .u64 y.nt, .int .i64 y.de] 28) = W4 at HB4 HR4 HZ4 HG9 HU1 HU2 HG11 ⊢
  have HS0 : Hid ((fun W => RT W w.heap.size X ∧ W.heap[G9]? = some (.cells #[.int .i64 y.cd, .int .i64 y.tm, .int .u64 y.id, .int .i64 y.cn, .int .i64 y.st, .int .i64 y.lv, .int .u64 y.ge, .int .i64 y.fr, .int .i64 y.lf, .int .i64 y.du, .int .i64 y.tl, .slice a1 y.n c1, .int .u64 y.nt, .int .i64 y.de] 28 (0, 0)) ∧ W.heap[G11]? = some (.cells #[.int .i64 y.cd, .int .i64 y.tm, .int .u64 y.id, .int .i64 y.cn, .int .i64 y.st, .int .i64 y.lv, .int .u64 y.ge, .int .i64 y.fr, .int .i64 y.lf, .int .i64 y.du, .int .i64 y.tl, .slice y.a y.n y.ca, .int .u64 y.nt, .int .i64 y.de] 28 (0, 0)) ∧ W.there (w.heap.size + 2) 0 135) W4.drew) := Lib.hid ⟨HR4.out, HG9.out, HG11.out, HZ4.out⟩
  have HBD : Hid (Below w.heap.size w W4.drew) := Lib.hid (HB4.out.trans (((Below.refl W4.heap.size W4).drew).mono HB4.out.size))
  have HU1D : Hid (Us W4.drew a1 y.n y.xs) := Lib.hid HU1.out
  have HU2D : Hid (Us W4.drew y.a y.n y.xs) := Lib.hid HU2.out
  clear HR4 HG9 HG11 HZ4 HB4 HU1 HU2
  refine wp_region_held_drew (S := fun W => RT W w.heap.size X ∧ W.heap[G9]? = some (.cells #[.int .i64 y.cd, .int .i64 y.tm, .int .u64 y.id, .int .i64 y.cn, .int .i64 y.st, .int .i64 y.lv, .int .u64 y.ge, .int .i64 y.fr, .int .i64 y.lf, .int .i64 y.du, .int .i64 y.tl, .slice a1 y.n c1, .int .u64 y.nt, .int .i64 y.de] 28 (0, 0)) ∧ W.heap[G11]? = some (.cells #[.int .i64 y.cd, .int .i64 y.tm, .int .u64 y.id, .int .i64 y.cn, .int .i64 y.st, .int .i64 y.lv, .int .u64 y.ge, .int .i64 y.fr, .int .i64 y.lf, .int .i64 y.du, .int .i64 y.tl, .slice y.a y.n y.ca, .int .u64 y.nt, .int .i64 y.de] 28 (0, 0)) ∧ W.there (w.heap.size + 2) 0 135) (by kernel_rfl) HS0.out (fun hHeld => ?_)
  clear hHeld
  generalize W4.drew = W5 at HS0 HBD HU1D HU2D ⊢
  refine wpAnyH_take (i := 0) (oi := { dst := some 60, op := Go.Op.load 62 (Go.Operand.tmp 4), type := 62, pos := "law.go:47", after := #[], guard := none }) (v := .agg (tabC X).toArray) rfl (by kernel_rfl) (by kernel_rfl) (by kernel_rfl) (fun _ _ _ h => h) (by exact yieldsIf_load_mid (by rfl) 62 (.tmp 4) rfl w.heap.size 0 rfl (tabC X) _ (fun w h => h.1.1) rt_und rfl (HYI.out X)) HS0.out ?_
  try simp only [Act.put, List.setIfInBounds_toArray, List.set_cons_zero, List.set_cons_succ]
  refine wpAnyH_take (i := 1) (oi := { dst := some 61, op := Go.Op.move (Go.Operand.tmp 8), type := 3, pos := "law.go:47", after := #[], guard := none }) (v := ?_) rfl (by kernel_rfl) (by kernel_rfl) (by kernel_rfl) (fun _ _ _ h => h) (Or.inl ⟨by rfl, ?_⟩) HS0.out ?_
  case refine_2 => (intro w1 hS1; clear hS1; go_simp; try with_reducible rfl)
  try simp only [Act.put, List.setIfInBounds_toArray, List.set_cons_zero, List.set_cons_succ]
  refine wpAnyH_take (i := 2) (oi := { dst := some 62, op := Go.Op.move (Go.Operand.tmp 10), type := 3, pos := "law.go:47", after := #[], guard := none }) (v := ?_) rfl (by kernel_rfl) (by kernel_rfl) (by kernel_rfl) (fun _ _ _ h => h) (Or.inl ⟨by rfl, ?_⟩) HS0.out ?_
  case refine_2 => (intro w1 hS1; clear hS1; go_simp; try with_reducible rfl)
  try simp only [Act.put, List.setIfInBounds_toArray, List.set_cons_zero, List.set_cons_succ]
  refine wpAnyH_take (i := 3) (oi := { dst := some 63, op := Go.Op.binOp Go.BinOp.eql 3 (Go.Operand.tmp 61) (Go.Operand.tmp 62) 3, type := 4, pos := "law.go:47", after := #[{ on := 1, ground := Go.Ground.data }, { on := 2, ground := Go.Ground.data }], guard := none }) (v := ?_) rfl (by kernel_rfl) (by kernel_rfl) (by kernel_rfl) (fun _ _ _ h => h) (Or.inl ⟨by rfl, ?_⟩) HS0.out ?_
  case refine_2 => (intro w1 hS1; clear hS1; go_simp; try with_reducible rfl)
  try simp only [Act.put, List.setIfInBounds_toArray, List.set_cons_zero, List.set_cons_succ]
  refine wpAnyH_take (i := 4) (oi := { dst := some 64, op := Go.Op.move (Go.Operand.tmp 63), type := 4, pos := "law.go:47", after := #[{ on := 3, ground := Go.Ground.data }], guard := none }) (v := ?_) rfl (by kernel_rfl) (by kernel_rfl) (by kernel_rfl) (fun _ _ _ h => h) (Or.inl ⟨by rfl, ?_⟩) HS0.out ?_
  case refine_2 => (intro w1 hS1; clear hS1; go_simp; try with_reducible rfl)
  try simp only [Act.put, List.setIfInBounds_toArray, List.set_cons_zero, List.set_cons_succ]
  refine wpAnyH_take (i := 5) (oi := { dst := some 65, op := Go.Op.load 28 (Go.Operand.tmp 9), type := 28, pos := "law.go:47", after := #[{ on := 4, ground := Go.Ground.guard }], guard := some (4, true) }) (v := ?_) rfl (by kernel_rfl) (by kernel_rfl) (by kernel_rfl) (fun _ _ _ h => h) (Or.inl ⟨by rfl, ?_⟩) HS0.out ?_
  case refine_2 => (intro w1 hS1; obtain ⟨-, k2, k3, -⟩ := hS1; obtain ⟨q0, q1, q2, q3, q4, q5, q6, q7, q8, q9, q10, q11, q12, q13⟩ := rep_at k2; obtain ⟨r0, r1, r2, r3, r4, r5, r6, r7, r8, r9, r10, r11, r12, r13⟩ := rep_at k3; clear k2 k3; go_simp; try with_reducible rfl)
  try simp only [Act.put, List.setIfInBounds_toArray, List.set_cons_zero, List.set_cons_succ]
  refine wpAnyH_take (i := 6) (oi := { dst := some 66, op := Go.Op.load 28 (Go.Operand.tmp 11), type := 28, pos := "law.go:47", after := #[{ on := 4, ground := Go.Ground.guard }], guard := some (4, true) }) (v := ?_) rfl (by kernel_rfl) (by kernel_rfl) (by kernel_rfl) (fun _ _ _ h => h) (Or.inl ⟨by rfl, ?_⟩) HS0.out ?_
  case refine_2 => (intro w1 hS1; obtain ⟨-, k2, k3, -⟩ := hS1; obtain ⟨q0, q1, q2, q3, q4, q5, q6, q7, q8, q9, q10, q11, q12, q13⟩ := rep_at k2; obtain ⟨r0, r1, r2, r3, r4, r5, r6, r7, r8, r9, r10, r11, r12, r13⟩ := rep_at k3; clear k2 k3; go_simp; try with_reducible rfl)
  try simp only [Act.put, List.setIfInBounds_toArray, List.set_cons_zero, List.set_cons_succ]
  refine wpAnyH_ready (rs := [7]) (by kernel_rfl) (by simp) ?_
  refine AllReadyH.cons (o := { dst := some 67, op := Go.Op.call { callee := Go.Callee.value (Go.Operand.func 13), args := #[Go.Operand.tmp 65, Go.Operand.tmp 66], argTypes := #[28, 28] }, type := 4, pos := "law.go:47", after := #[{ on := 5, ground := Go.Ground.data }, { on := 6, ground := Go.Ground.data }, { on := 4, ground := Go.Ground.chain }, { on := 4, ground := Go.Ground.guard }], guard := some (4, true) }) rfl (fun K hK => ?_) AllReadyH.nil
  go_simp
  refine (HSM.out W5 HU1D.out HU2D.out).mono ?_
  rintro e W6 ⟨rfl, hb⟩
  have HS0' : Hid ((fun W => RT W w.heap.size X ∧ W.heap[G9]? = some (.cells #[.int .i64 y.cd, .int .i64 y.tm, .int .u64 y.id, .int .i64 y.cn, .int .i64 y.st, .int .i64 y.lv, .int .u64 y.ge, .int .i64 y.fr, .int .i64 y.lf, .int .i64 y.du, .int .i64 y.tl, .slice a1 y.n c1, .int .u64 y.nt, .int .i64 y.de] 28 (0, 0)) ∧ W.heap[G11]? = some (.cells #[.int .i64 y.cd, .int .i64 y.tm, .int .u64 y.id, .int .i64 y.cn, .int .i64 y.st, .int .i64 y.lv, .int .u64 y.ge, .int .i64 y.fr, .int .i64 y.lf, .int .i64 y.du, .int .i64 y.tl, .slice y.a y.n y.ca, .int .u64 y.nt, .int .i64 y.de] 28 (0, 0)) ∧ W.there (w.heap.size + 2) 0 135) W6) := Lib.hid ⟨HS0.out.1.kept hb, ex_below HS0.out.2.1 hb, ex_below HS0.out.2.2.1 hb, there_eq HS0.out.2.2.2 (hb.block _ (there_lt HS0.out.2.2.2))⟩
  have HB6 := Lib.hid (HBD.out.trans (hb.mono HBD.out.size))
  clear hb HBD HU1D HU2D
  clear HS0
  have HS0 := HS0'
  clear HS0'
  refine hK.out _ _ HS0.out (fun hHeld => ?_)
  clear hK K hHeld
  try simp only [Act.put, List.setIfInBounds_toArray, List.set_cons_zero, List.set_cons_succ]
  refine wpAnyH_take (i := 8) (oi := { dst := some 68, op := Go.Op.pick (Go.Operand.tmp 64) (Go.Operand.tmp 67) (Go.Operand.const (Go.Value.bool false)), type := 4, pos := "law.go:47", after := #[{ on := 4, ground := Go.Ground.data }, { on := 7, ground := Go.Ground.data }, { on := 9, ground := Go.Ground.gcOnly Go.Departure.lateStores }], guard := none }) (v := ?_) rfl (by kernel_rfl) (by kernel_rfl) (by kernel_rfl) (fun _ _ _ h => h) (Or.inl ⟨by rfl, ?_⟩) HS0.out ?_
  case refine_2 => (intro w1 hS1; clear hS1; go_simp; try with_reducible rfl)
  try simp only [Act.put, List.setIfInBounds_toArray, List.set_cons_zero, List.set_cons_succ]
  refine wpAnyH_ready (rs := [9]) (by kernel_rfl) (by simp) ?_
  refine AllReadyH.cons (o := { dst := none, op := Go.Op.store 62 (Go.Operand.tmp 6) (Go.Operand.tmp 60), type := 0, pos := "law.go:47", after := #[{ on := 0, ground := Go.Ground.data }, { on := 7, ground := Go.Ground.chain }, { on := 0, ground := Go.Ground.phase }, { on := 1, ground := Go.Ground.textOnly Go.Departure.lateStores }, { on := 2, ground := Go.Ground.textOnly Go.Departure.lateStores }, { on := 3, ground := Go.Ground.textOnly Go.Departure.lateStores }, { on := 4, ground := Go.Ground.textOnly Go.Departure.lateStores }, { on := 5, ground := Go.Ground.textOnly Go.Departure.lateStores }, { on := 6, ground := Go.Ground.textOnly Go.Departure.lateStores }, { on := 7, ground := Go.Ground.textOnly Go.Departure.lateStoresUnsure }, { on := 8, ground := Go.Ground.textOnly Go.Departure.lateStores }], guard := none }) rfl (fun K hK => ?_) AllReadyH.nil
  rw [if_pos (by rfl)]
  refine wp_store_mid 62 (.tmp 6) (.tmp 60) rfl (w.heap.size + 2) 0 (tabC X).toArray rfl rfl (by rw [HTA.out X]; exact HS0.out.2.2.2) (HYA.out X) (HONE.out X) ?_
  rw [List.toList_toArray]
  have HF := Lib.hid (RT.over2 HS0.out.2.2.2 X)
  have HBF := Lib.hid (below_setCells HB6.out (Nat.le_add_right w.heap.size 2) (tabC X) 0)
  have HS0' : Hid ((fun W => RT W w.heap.size X ∧ W.heap[G9]? = some (.cells #[.int .i64 y.cd, .int .i64 y.tm, .int .u64 y.id, .int .i64 y.cn, .int .i64 y.st, .int .i64 y.lv, .int .u64 y.ge, .int .i64 y.fr, .int .i64 y.lf, .int .i64 y.du, .int .i64 y.tl, .slice a1 y.n c1, .int .u64 y.nt, .int .i64 y.de] 28 (0, 0)) ∧ W.heap[G11]? = some (.cells #[.int .i64 y.cd, .int .i64 y.tm, .int .u64 y.id, .int .i64 y.cn, .int .i64 y.st, .int .i64 y.lv, .int .u64 y.ge, .int .i64 y.fr, .int .i64 y.lf, .int .i64 y.du, .int .i64 y.tl, .slice y.a y.n y.ca, .int .u64 y.nt, .int .i64 y.de] 28 (0, 0)) ∧ W.there (w.heap.size + 2) 0 135) (W6.setCells (w.heap.size + 2) 0 (tabC X))) := Lib.hid ⟨HS0.out.1.far (show w.heap.size ≠ w.heap.size + 2 by omega) _ _, (heap_setCells (by have := HGN.out; omega) _ _ _).trans HS0.out.2.1, (heap_setCells (by have := HGN.out; omega) _ _ _).trans HS0.out.2.2.1, World.there_setCells HS0.out.2.2.2 _ _ _⟩
  clear HS0
  have HS0 := HS0'
  clear HS0'
  refine hK.out _ _ HS0.out (fun hHeld => ?_)
  clear hK K hHeld
  try simp only [Act.put, List.setIfInBounds_toArray, List.set_cons_zero, List.set_cons_succ]
  refine wpAnyH_take (i := 10) (oi := { dst := some 7, op := Go.Op.assign (Go.Operand.tmp 68), type := 4, pos := "law.go:47", after := #[{ on := 8, ground := Go.Ground.data }, { on := 9, ground := Go.Ground.chain }, { on := 0, ground := Go.Ground.phase }, { on := 1, ground := Go.Ground.phase }, { on := 2, ground := Go.Ground.phase }, { on := 3, ground := Go.Ground.phase }, { on := 4, ground := Go.Ground.phase }, { on := 5, ground := Go.Ground.phase }, { on := 6, ground := Go.Ground.phase }, { on := 7, ground := Go.Ground.phase }, { on := 8, ground := Go.Ground.phase }, { on := 9, ground := Go.Ground.phase }], guard := none }) (v := ?_) rfl (by kernel_rfl) (by kernel_rfl) (by kernel_rfl) (fun _ _ _ h => h) (Or.inl ⟨by rfl, ?_⟩) HS0.out ?_
  case refine_2 => (intro w1 hS1; clear hS1; go_simp; try with_reducible rfl)
  try simp only [Act.put, List.setIfInBounds_toArray, List.set_cons_zero, List.set_cons_succ]
  refine wpAnyH_done (by kernel_rfl) ?_ _
  go_wp2_with fail
  exact bodyPost_ret (rt_result Try.results30 _ _ (w.heap.size + 2) X rfl HF.out) rfl ⟨X, rfl, ⟨c, M, HRT.out.kept HBF.out⟩, below_of_grown HBF.out⟩
/- Session: a call of the law, both ways: Drop and Done. -/
open Go.RowKit Go.Maps
variable {Av : Nat}
set_option maxRecDepth 100000 in
set_option maxHeartbeats 8000000 in
theorem do_drop {w : World} {T mb c : Nat} {M : Lit → Option Value} {X : Nat → Opn} (h : Rt Av w T mb c M X) (kd cl rq : Int) (cd tm id cn st lv ge fr lf du tl : Int) (a : Option Addr) (n ca : Nat) (nt de : Int) (xs : List Nat) (hin : OpIn w (Opn.mk kd cl rq cd tm id cn st lv ge fr lf du tl a n ca nt de xs)) (hb3 : (0 ≤ id ∧ id < 18446744073709551616) ∧ (0 ≤ ge ∧ ge < 18446744073709551616) ∧ (0 ≤ nt ∧ nt < 18446744073709551616)) (hn2 : n ≤ 200) (hav : Av < w.heap.size) (hxa : ∀ g o, a = some ⟨g, o, none⟩ → 0 < n → g ≠ Av) (hk : kd = 2) :
    Calls Try.prog 30 #[.pointer (some ⟨T, 0, none⟩), rtV X, .agg #[.int .i64 kd, .int .u64 cl, .int .u64 rq, .int .i64 cd, .int .i64 tm, .int .u64 id, .int .i64 cn, .int .i64 st, .int .i64 lv, .int .u64 ge, .int .i64 fr, .int .i64 lf, .int .i64 du, .int .i64 tl, .slice a n ca, .int .u64 nt, .int .i64 de]] w fun e w' => ∃ X', e = .returned (.tuple #[rtV X', .bool true]) ∧ (∃ c' M', Rt Av w' T mb c' M' X') ∧ w.grownBy w' (some mb) := by
  obtain ⟨B1, s0, s1, -⟩ := box2 w (tabC X).toArray #[.int .i64 kd, .int .u64 cl, .int .u64 rq, .int .i64 cd, .int .i64 tm, .int .u64 id, .int .i64 cn, .int .i64 st, .int .i64 lv, .int .u64 ge, .int .i64 fr, .int .i64 lf, .int .i64 du, .int .i64 tl, .slice a n ca, .int .u64 nt, .int .i64 de] 62 64
  have e2 : ((w.alloc (.cells (tabC X).toArray 62)).alloc (.cells #[.int .i64 kd, .int .u64 cl, .int .u64 rq, .int .i64 cd, .int .i64 tm, .int .u64 id, .int .i64 cn, .int .i64 st, .int .i64 lv, .int .u64 ge, .int .i64 fr, .int .i64 lf, .int .i64 du, .int .i64 tl, .slice a n ca, .int .u64 nt, .int .i64 de] 64)).heap.size = w.heap.size + 2 := by simp
  have hb0 : Below (w.alloc (.cells (tabC X).toArray 62)).heap.size (w.alloc (.cells (tabC X).toArray 62)) ((w.alloc (.cells (tabC X).toArray 62)).alloc (.cells #[.int .i64 kd, .int .u64 cl, .int .u64 rq, .int .i64 cd, .int .i64 tm, .int .u64 id, .int .i64 cn, .int .i64 st, .int .i64 lv, .int .u64 ge, .int .i64 fr, .int .i64 lf, .int .i64 du, .int .i64 tl, .slice a n ca, .int .u64 nt, .int .i64 de] 64)) := (Below.refl _ _).alloc (Nat.le_refl _) _
  obtain ⟨B2, -, -⟩ := box1 ((w.alloc (.cells (tabC X).toArray 62)).alloc (.cells #[.int .i64 kd, .int .u64 cl, .int .u64 rq, .int .i64 cd, .int .i64 tm, .int .u64 id, .int .i64 cn, .int .i64 st, .int .i64 lv, .int .u64 ge, .int .i64 fr, .int .i64 lf, .int .i64 du, .int .i64 tl, .slice a n ca, .int .u64 nt, .int .i64 de] 64)) Try.zeroCells62 62
  have hR := ((RT.made w X 62).kept hb0).kept B2
  have hZ := RT.made ((w.alloc (.cells (tabC X).toArray 62)).alloc (.cells #[.int .i64 kd, .int .u64 cl, .int .u64 rq, .int .i64 cd, .int .i64 tm, .int .u64 id, .int .i64 cn, .int .i64 st, .int .i64 lv, .int .u64 ge, .int .i64 fr, .int .i64 lf, .int .i64 du, .int .i64 tl, .slice a n ca, .int .u64 nt, .int .i64 de] 64)) (fun _ => zOp) 62
  rw [← z135, e2] at hZ
  have HB := Lib.hid (B1.trans (B2.mono B1.size))
  have HR := Lib.hid hR
  have HZ := Lib.hid hZ.2
  have HS := Lib.hid (ex_below s1 B2)
  have HRT := Lib.hid h
  have HONE : Hid (∀ V, (tabC V).toArray.all (·.oneCell') = true) := Lib.hid (fun V => all_oneCell_toArray (tabC_one V))
  have HYI : Hid (∀ V, (Try.prog.info? 62).map (·.size) = some (tabC V).length) := Lib.hid (fun V => by rw [rt_info, tabC_len])
  have HTA : Hid (∀ V, (tabC V).toArray.size = 135) := Lib.hid (fun V => by rw [List.size_toArray, tabC_len])
  have HYA : Hid (∀ V, (Try.prog.info? 62).map (·.size) = some (tabC V).toArray.size) := Lib.hid (fun V => by rw [rt_info, List.size_toArray, tabC_len])
  obtain ⟨z, X', hP, hQ⟩ := drop_both h cl hin.2.1
  have HP := Lib.hid hP
  have HQ := Lib.hid hQ
  have HMB : Hid (mb < w.heap.size) := Lib.hid h.1.2.lt
  unfold rtV at HQ
  clear hP hQ hin
  subst hk
  clear B1 B2 s0 s1 hb0 hR hZ e2 h hb3
  obtain ⟨q0, q1, q2, q3, q4, q5, q6, q7, q8, q9, q10, q11, q12, q13, q14, q15, q16⟩ := op_at HS.out
  unfold rtV
  go_enter Try.func30, Try.ntmps30
  go_wp2_with (refine wpList_load_mid (w := ((w.alloc (.cells (tabC X).toArray 62)).alloc (.cells #[.int .i64 2, .int .u64 cl, .int .u64 rq, .int .i64 cd, .int .i64 tm, .int .u64 id, .int .i64 cn, .int .i64 st, .int .i64 lv, .int .u64 ge, .int .i64 fr, .int .i64 lf, .int .i64 du, .int .i64 tl, .slice a n ca, .int .u64 nt, .int .i64 de] 64)).alloc (.cells Try.zeroCells62 62)) rfl 62 (.tmp 4) rfl w.heap.size 0 rfl (tabC X) _ HR.out.1 rt_und rfl (HYI.out X) ?_)
  clear q0 q1 q2 q3 q4 q5 q6 q7 q8 q9 q10 q11 q12 q13 q14 q15 q16
  generalize ((w.alloc (.cells (tabC X).toArray 62)).alloc (.cells #[.int .i64 2, .int .u64 cl, .int .u64 rq, .int .i64 cd, .int .i64 tm, .int .u64 id, .int .i64 cn, .int .i64 st, .int .i64 lv, .int .u64 ge, .int .i64 fr, .int .i64 lf, .int .i64 du, .int .i64 tl, .slice a n ca, .int .u64 nt, .int .i64 de] 64)).alloc (.cells Try.zeroCells62 62) = W0 at HB HR HZ HS ⊢
  refine (HQ.out W0).mono ?_
  rintro e w1 ⟨rfl, hb⟩
  have hz12 := RT.made w1 (fun _ => zOp) 62
  rw [← z135] at hz12
  have X1 : Below w1.heap.size w1 (w1.alloc (.cells Try.zeroCells62 62)) := (Below.refl _ _).alloc (Nat.le_refl _) _
  have HBa := Lib.hid (HB.out.trans ((hb.trans (X1.mono hb.size)).mono HB.out.size))
  have HZa : Hid ((w1.alloc (.cells Try.zeroCells62 62)).there (w.heap.size + 2) 0 135) := Lib.hid (there_eq HZ.out ((hb.trans (X1.mono hb.size)).block _ (there_lt HZ.out)))
  have HSa := Lib.hid (ex_below HS.out (hb.trans (X1.mono hb.size)))
  have HGA : Hid ((w.heap.size + 2) < w1.heap.size ∧ w.heap.size ≤ w1.heap.size) := Lib.hid ⟨Nat.lt_of_lt_of_le (there_lt HZ.out) hb.size, Nat.le_trans HB.out.size hb.size⟩
  obtain ⟨G12, hG12⟩ : ∃ y, w1.heap.size = y := ⟨_, rfl⟩
  rw [hG12] at hz12 HGA
  have HZb := Lib.hid hz12
  clear hb hz12 X1 HB HR HZ HS
  go_wp2_with (first
    | (refine wpList_store_mid (w := w1.alloc (.cells Try.zeroCells62 62)) rfl 62 (.tmp 12) (.tmp 76) rfl G12 0 (tabC X').toArray rfl rfl (by rw [HTA.out X']; exact HZb.out.2) (HYA.out X') (HONE.out X') ?_; rw [List.toList_toArray])
    | (refine wpList_store_mid (w := w1.alloc (.cells Try.zeroCells62 62)) rfl 62 (.tmp 12) (.tmp 76) rfl w1.heap.size 0 (tabC X').toArray rfl rfl (by rw [HTA.out X', hG12]; exact HZb.out.2) (HYA.out X') (HONE.out X') ?_; rw [List.toList_toArray, hG12]))
  try rw [hG12]
  clear hG12
  generalize w1.alloc (.cells Try.zeroCells62 62) = W2 at HBa HZa HSa HZb ⊢
  have HR3 := Lib.hid (RT.over2 HZb.out.2 X')
  have HB3 := Lib.hid (below_setCells HBa.out HGA.out.2 (tabC X') 0)
  have HS3 : Hid ((W2.setCells G12 0 (tabC X')).heap[w.heap.size + 1]? = some (.cells #[.int .i64 2, .int .u64 cl, .int .u64 rq, .int .i64 cd, .int .i64 tm, .int .u64 id, .int .i64 cn, .int .i64 st, .int .i64 lv, .int .u64 ge, .int .i64 fr, .int .i64 lf, .int .i64 du, .int .i64 tl, .slice a n ca, .int .u64 nt, .int .i64 de] 64 (0, 0))) := Lib.hid ((heap_setCells (by have := HGA.out.1; omega) _ _ _).trans HSa.out)
  have HZ3 : Hid ((W2.setCells G12 0 (tabC X')).there (w.heap.size + 2) 0 135) := Lib.hid (there_eq HZa.out (heap_setCells (by have := HGA.out.1; omega) _ _ _))
  generalize W2.setCells G12 0 (tabC X') = W4 at HR3 HB3 HS3 HZ3 ⊢
  clear HBa HZa HSa HZb
  have HS0 : Hid ((fun W => RT W G12 X' ∧ W.heap[w.heap.size + 1]? = some (.cells #[.int .i64 2, .int .u64 cl, .int .u64 rq, .int .i64 cd, .int .i64 tm, .int .u64 id, .int .i64 cn, .int .i64 st, .int .i64 lv, .int .u64 ge, .int .i64 fr, .int .i64 lf, .int .i64 du, .int .i64 tl, .slice a n ca, .int .u64 nt, .int .i64 de] 64 (0, 0)) ∧ W.there (w.heap.size + 2) 0 135) W4.drew) := Lib.hid ⟨HR3.out, HS3.out, HZ3.out⟩
  have HBD : Hid (Below w.heap.size w W4.drew) := Lib.hid (HB3.out.trans (((Below.refl W4.heap.size W4).drew).mono HB3.out.size))
  clear HR3 HS3 HZ3 HB3
  refine wp_region_held_drew (S := fun W => RT W G12 X' ∧ W.heap[w.heap.size + 1]? = some (.cells #[.int .i64 2, .int .u64 cl, .int .u64 rq, .int .i64 cd, .int .i64 tm, .int .u64 id, .int .i64 cn, .int .i64 st, .int .i64 lv, .int .u64 ge, .int .i64 fr, .int .i64 lf, .int .i64 du, .int .i64 tl, .slice a n ca, .int .u64 nt, .int .i64 de] 64 (0, 0)) ∧ W.there (w.heap.size + 2) 0 135) (by kernel_rfl) HS0.out (fun hHeld => ?_)
  clear hHeld
  generalize W4.drew = W5 at HS0 HBD ⊢
  refine wpAnyH_take (i := 0) (oi := { dst := some 78, op := Go.Op.load 62 (Go.Operand.tmp 12), type := 62, pos := "law.go:50", after := #[], guard := none }) (v := .agg (tabC X').toArray) rfl (by kernel_rfl) (by kernel_rfl) (by kernel_rfl) (fun _ _ _ h => h) (by exact yieldsIf_load_mid (by rfl) 62 (.tmp 12) rfl G12 0 rfl (tabC X') _ (fun w h => h.1.1) rt_und rfl (HYI.out X')) HS0.out ?_
  try simp only [Act.put, List.setIfInBounds_toArray, List.set_cons_zero, List.set_cons_succ]
  refine wpAnyH_take (i := 1) (oi := { dst := some 79, op := Go.Op.move (Go.Operand.tmp 0), type := 57, pos := "law.go:50", after := #[], guard := none }) (v := ?_) rfl (by kernel_rfl) (by kernel_rfl) (by kernel_rfl) (fun _ _ _ h => h) (Or.inl ⟨by rfl, ?_⟩) HS0.out ?_
  case refine_2 => (intro w1 hS1; clear hS1; go_simp; try with_reducible rfl)
  try simp only [Act.put, List.setIfInBounds_toArray, List.set_cons_zero, List.set_cons_succ]
  refine wpAnyH_take (i := 2) (oi := { dst := some 80, op := Go.Op.fieldAddr 64 (Go.Operand.tmp 5) 1, type := 0, pos := "law.go:50", after := #[], guard := none }) (v := ?_) rfl (by kernel_rfl) (by kernel_rfl) (by kernel_rfl) (fun _ _ _ h => h) (Or.inl ⟨by rfl, ?_⟩) HS0.out ?_
  case refine_2 => (intro w1 hS1; clear hS1; go_simp; try with_reducible rfl)
  try simp only [Act.put, List.setIfInBounds_toArray, List.set_cons_zero, List.set_cons_succ]
  refine wpAnyH_take (i := 3) (oi := { dst := some 81, op := Go.Op.load 23 (Go.Operand.tmp 80), type := 23, pos := "law.go:50", after := #[{ on := 2, ground := Go.Ground.data }], guard := none }) (v := ?_) rfl (by kernel_rfl) (by kernel_rfl) (by kernel_rfl) (fun _ _ _ h => h) (Or.inl ⟨by rfl, ?_⟩) HS0.out ?_
  case refine_2 => (intro w1 hS1; obtain ⟨-, k2, -⟩ := hS1; obtain ⟨q0, q1, q2, q3, q4, q5, q6, q7, q8, q9, q10, q11, q12, q13, q14, q15, q16⟩ := op_at k2; clear k2; go_simp; try with_reducible rfl)
  try simp only [Act.put, List.setIfInBounds_toArray, List.set_cons_zero, List.set_cons_succ]
  refine wpAnyH_take (i := 5) (oi := { dst := some 83, op := Go.Op.move (Go.Operand.tmp 13), type := 4, pos := "law.go:50", after := #[{ on := 7, ground := Go.Ground.gcOnly Go.Departure.lateStores }], guard := none }) (v := ?_) rfl (by kernel_rfl) (by kernel_rfl) (by kernel_rfl) (fun _ _ _ h => h) (Or.inl ⟨by rfl, ?_⟩) HS0.out ?_
  case refine_2 => (intro w1 hS1; clear hS1; go_simp; try with_reducible rfl)
  try simp only [Act.put, List.setIfInBounds_toArray, List.set_cons_zero, List.set_cons_succ]
  refine wpAnyH_ready (rs := [4]) (by kernel_rfl) (by simp) ?_
  refine AllReadyH.cons (o := { dst := some 82, op := Go.Op.call { callee := Go.Callee.value (Go.Operand.func 40), args := #[Go.Operand.tmp 79, Go.Operand.tmp 81], argTypes := #[57, 23] }, type := 4, pos := "law.go:50", after := #[{ on := 1, ground := Go.Ground.data }, { on := 3, ground := Go.Ground.data }], guard := none }) rfl (fun K hK => ?_) AllReadyH.nil
  go_simp
  refine (HP.out W5 HBD.out).mono ?_
  rintro e W6 ⟨rfl, ⟨c', M', hrt⟩, hg⟩
  have HS0' : Hid ((fun W => RT W G12 X' ∧ W.heap[w.heap.size + 1]? = some (.cells #[.int .i64 2, .int .u64 cl, .int .u64 rq, .int .i64 cd, .int .i64 tm, .int .u64 id, .int .i64 cn, .int .i64 st, .int .i64 lv, .int .u64 ge, .int .i64 fr, .int .i64 lf, .int .i64 du, .int .i64 tl, .slice a n ca, .int .u64 nt, .int .i64 de] 64 (0, 0)) ∧ W.there (w.heap.size + 2) 0 135) W6) := Lib.hid ⟨HS0.out.1.frame (hg.block _ HS0.out.1.lt (by intro e; injection e with e; have := HMB.out; have := HGA.out.2; omega)), (hg.block _ (ex_lt HS0.out.2.1) (by intro e; injection e with e; have := HMB.out; omega)).trans HS0.out.2.1, there_eq HS0.out.2.2 (hg.block _ (there_lt HS0.out.2.2) (by intro e; injection e with e; have := HMB.out; omega))⟩
  have HRT6 := Lib.hid hrt
  have HG6 := Lib.hid hg
  have HNL : Hid ((w.heap.size + 2) < W5.heap.size) := Lib.hid (there_lt HS0.out.2.2)
  clear hrt hg
  clear HS0
  have HS0 := HS0'
  clear HS0'
  refine hK.out _ _ HS0.out (fun hHeld => ?_)
  clear hK K hHeld
  try simp only [Act.put, List.setIfInBounds_toArray, List.set_cons_zero, List.set_cons_succ]
  refine wpAnyH_take (i := 6) (oi := { dst := some 84, op := Go.Op.binOp Go.BinOp.eql 4 (Go.Operand.tmp 82) (Go.Operand.tmp 83) 4, type := 4, pos := "law.go:50", after := #[{ on := 4, ground := Go.Ground.data }, { on := 5, ground := Go.Ground.data }, { on := 7, ground := Go.Ground.gcOnly Go.Departure.lateStores }], guard := none }) (v := ?_) rfl (by kernel_rfl) (by kernel_rfl) (by kernel_rfl) (fun _ _ _ h => h) (Or.inl ⟨by rfl, ?_⟩) HS0.out ?_
  case refine_2 => (intro w1 hS1; clear hS1; go_simp; try with_reducible rfl)
  try simp only [Act.put, List.setIfInBounds_toArray, List.set_cons_zero, List.set_cons_succ]
  refine wpAnyH_ready (rs := [7]) (by kernel_rfl) (by simp) ?_
  refine AllReadyH.cons (o := { dst := none, op := Go.Op.store 62 (Go.Operand.tmp 6) (Go.Operand.tmp 78), type := 0, pos := "law.go:50", after := #[{ on := 0, ground := Go.Ground.data }, { on := 4, ground := Go.Ground.chain }, { on := 0, ground := Go.Ground.phase }, { on := 1, ground := Go.Ground.textOnly Go.Departure.lateStores }, { on := 2, ground := Go.Ground.textOnly Go.Departure.lateStores }, { on := 3, ground := Go.Ground.textOnly Go.Departure.lateStores }, { on := 4, ground := Go.Ground.textOnly Go.Departure.lateStoresUnsure }, { on := 5, ground := Go.Ground.textOnly Go.Departure.lateStores }, { on := 6, ground := Go.Ground.textOnly Go.Departure.lateStores }], guard := none }) rfl (fun K hK => ?_) AllReadyH.nil
  rw [if_pos (by rfl)]
  refine wp_store_mid 62 (.tmp 6) (.tmp 78) rfl (w.heap.size + 2) 0 (tabC X').toArray rfl rfl (by rw [HTA.out X']; exact HS0.out.2.2) (HYA.out X') (HONE.out X') ?_
  rw [List.toList_toArray]
  have HF := Lib.hid (RT.over2 HS0.out.2.2 X')
  have HRF : Hid (Rt Av (W6.setCells (w.heap.size + 2) 0 (tabC X')) T mb c' M' X') := Lib.hid (HRT6.out _ ⟨by rw [size_setCells]; exact Nat.le_refl _, fun k hk hor => heap_setCells (by have := HNL.out; omega) _ _ _⟩)
  have HGF : Hid (w.grownBy (W6.setCells (w.heap.size + 2) 0 (tabC X')) (some mb)) := Lib.hid (by
    have hg := HG6.out
    have hb := HBD.out
    have hs := below_setCells (Below.refl w.heap.size W6) (Nat.le_add_right w.heap.size 2) (tabC X') 0
    exact ⟨hs.os.trans (hg.os.trans hb.os), hs.tape.trans (hg.tape.trans hb.tape), hs.output.trans (hg.output.trans hb.output), Nat.le_trans (Nat.le_trans hb.size hg.size) hs.size, fun k hk hr => ((hs.block k hk).trans (hg.block k (Nat.lt_of_lt_of_le hk hb.size) hr)).trans (hb.block k hk)⟩)
  have HS0' : Hid ((fun W => RT W G12 X' ∧ W.heap[w.heap.size + 1]? = some (.cells #[.int .i64 2, .int .u64 cl, .int .u64 rq, .int .i64 cd, .int .i64 tm, .int .u64 id, .int .i64 cn, .int .i64 st, .int .i64 lv, .int .u64 ge, .int .i64 fr, .int .i64 lf, .int .i64 du, .int .i64 tl, .slice a n ca, .int .u64 nt, .int .i64 de] 64 (0, 0)) ∧ W.there (w.heap.size + 2) 0 135) (W6.setCells (w.heap.size + 2) 0 (tabC X'))) := Lib.hid ⟨HS0.out.1.far (by have := HGA.out.1; omega) _ _, (heap_setCells (show w.heap.size + 1 ≠ w.heap.size + 2 by omega) _ _ _).trans HS0.out.2.1, World.there_setCells HS0.out.2.2 _ _ _⟩
  clear HS0
  have HS0 := HS0'
  clear HS0'
  refine hK.out _ _ HS0.out (fun hHeld => ?_)
  clear hK K hHeld
  try simp only [Act.put, List.setIfInBounds_toArray, List.set_cons_zero, List.set_cons_succ]
  refine wpAnyH_take (i := 8) (oi := { dst := some 7, op := Go.Op.assign (Go.Operand.tmp 84), type := 4, pos := "law.go:50", after := #[{ on := 6, ground := Go.Ground.data }, { on := 7, ground := Go.Ground.chain }, { on := 0, ground := Go.Ground.phase }, { on := 1, ground := Go.Ground.phase }, { on := 2, ground := Go.Ground.phase }, { on := 3, ground := Go.Ground.phase }, { on := 4, ground := Go.Ground.phase }, { on := 5, ground := Go.Ground.phase }, { on := 6, ground := Go.Ground.phase }, { on := 7, ground := Go.Ground.phase }], guard := none }) (v := ?_) rfl (by kernel_rfl) (by kernel_rfl) (by kernel_rfl) (fun _ _ _ h => h) (Or.inl ⟨by rfl, ?_⟩) HS0.out ?_
  case refine_2 => (intro w1 hS1; clear hS1; go_simp; try with_reducible rfl)
  try simp only [Act.put, List.setIfInBounds_toArray, List.set_cons_zero, List.set_cons_succ]
  refine wpAnyH_done (by kernel_rfl) ?_ _
  go_wp2_with fail
  exact bodyPost_ret (rt_result Try.results30 _ _ (w.heap.size + 2) X' rfl HF.out) rfl ⟨X', rfl, ⟨c', M', HRF.out⟩, HGF.out⟩
set_option maxRecDepth 100000 in
set_option maxHeartbeats 8000000 in
theorem do_done {w : World} {T mb c : Nat} {M : Lit → Option Value} {X : Nat → Opn} (h : Rt Av w T mb c M X) (kd cl rq : Int) (cd tm id cn st lv ge fr lf du tl : Int) (a : Option Addr) (n ca : Nat) (nt de : Int) (xs : List Nat) (hin : OpIn w (Opn.mk kd cl rq cd tm id cn st lv ge fr lf du tl a n ca nt de xs)) (hb3 : (0 ≤ id ∧ id < 18446744073709551616) ∧ (0 ≤ ge ∧ ge < 18446744073709551616) ∧ (0 ≤ nt ∧ nt < 18446744073709551616)) (hn2 : n ≤ 200) (hav : Av < w.heap.size) (hxa : ∀ g o, a = some ⟨g, o, none⟩ → 0 < n → g ≠ Av) (hk1 : kd ≠ 1) (hk2 : kd ≠ 2) :
    Calls Try.prog 30 #[.pointer (some ⟨T, 0, none⟩), rtV X, .agg #[.int .i64 kd, .int .u64 cl, .int .u64 rq, .int .i64 cd, .int .i64 tm, .int .u64 id, .int .i64 cn, .int .i64 st, .int .i64 lv, .int .u64 ge, .int .i64 fr, .int .i64 lf, .int .i64 du, .int .i64 tl, .slice a n ca, .int .u64 nt, .int .i64 de]] w fun e w' => ∃ X', e = .returned (.tuple #[rtV X', .bool true]) ∧ (∃ c' M', Rt Av w' T mb c' M' X') ∧ w.grownBy w' (some mb) := by
  obtain ⟨B1, s0, s1, -⟩ := box2 w (tabC X).toArray #[.int .i64 kd, .int .u64 cl, .int .u64 rq, .int .i64 cd, .int .i64 tm, .int .u64 id, .int .i64 cn, .int .i64 st, .int .i64 lv, .int .u64 ge, .int .i64 fr, .int .i64 lf, .int .i64 du, .int .i64 tl, .slice a n ca, .int .u64 nt, .int .i64 de] 62 64
  have e2 : ((w.alloc (.cells (tabC X).toArray 62)).alloc (.cells #[.int .i64 kd, .int .u64 cl, .int .u64 rq, .int .i64 cd, .int .i64 tm, .int .u64 id, .int .i64 cn, .int .i64 st, .int .i64 lv, .int .u64 ge, .int .i64 fr, .int .i64 lf, .int .i64 du, .int .i64 tl, .slice a n ca, .int .u64 nt, .int .i64 de] 64)).heap.size = w.heap.size + 2 := by simp
  have hb0 : Below (w.alloc (.cells (tabC X).toArray 62)).heap.size (w.alloc (.cells (tabC X).toArray 62)) ((w.alloc (.cells (tabC X).toArray 62)).alloc (.cells #[.int .i64 kd, .int .u64 cl, .int .u64 rq, .int .i64 cd, .int .i64 tm, .int .u64 id, .int .i64 cn, .int .i64 st, .int .i64 lv, .int .u64 ge, .int .i64 fr, .int .i64 lf, .int .i64 du, .int .i64 tl, .slice a n ca, .int .u64 nt, .int .i64 de] 64)) := (Below.refl _ _).alloc (Nat.le_refl _) _
  obtain ⟨B2, -, -⟩ := box1 ((w.alloc (.cells (tabC X).toArray 62)).alloc (.cells #[.int .i64 kd, .int .u64 cl, .int .u64 rq, .int .i64 cd, .int .i64 tm, .int .u64 id, .int .i64 cn, .int .i64 st, .int .i64 lv, .int .u64 ge, .int .i64 fr, .int .i64 lf, .int .i64 du, .int .i64 tl, .slice a n ca, .int .u64 nt, .int .i64 de] 64)) Try.zeroCells62 62
  have hR := ((RT.made w X 62).kept hb0).kept B2
  have hZ := RT.made ((w.alloc (.cells (tabC X).toArray 62)).alloc (.cells #[.int .i64 kd, .int .u64 cl, .int .u64 rq, .int .i64 cd, .int .i64 tm, .int .u64 id, .int .i64 cn, .int .i64 st, .int .i64 lv, .int .u64 ge, .int .i64 fr, .int .i64 lf, .int .i64 du, .int .i64 tl, .slice a n ca, .int .u64 nt, .int .i64 de] 64)) (fun _ => zOp) 62
  rw [← z135, e2] at hZ
  have HB := Lib.hid (B1.trans (B2.mono B1.size))
  have HR := Lib.hid hR
  have HZ := Lib.hid hZ.2
  have HS := Lib.hid (ex_below s1 B2)
  have HRT := Lib.hid h
  have HONE : Hid (∀ V, (tabC V).toArray.all (·.oneCell') = true) := Lib.hid (fun V => all_oneCell_toArray (tabC_one V))
  have HYI : Hid (∀ V, (Try.prog.info? 62).map (·.size) = some (tabC V).length) := Lib.hid (fun V => by rw [rt_info, tabC_len])
  have HTA : Hid (∀ V, (tabC V).toArray.size = 135) := Lib.hid (fun V => by rw [List.size_toArray, tabC_len])
  have HYA : Hid (∀ V, (Try.prog.info? 62).map (·.size) = some (tabC V).toArray.size) := Lib.hid (fun V => by rw [rt_info, List.size_toArray, tabC_len])
  obtain ⟨f, X', hP, hQ⟩ := done_pair h (Opn.mk kd cl rq cd tm id cn st lv ge fr lf du tl a n ca nt de xs) hin hb3 hn2 hav hxa
  have HP := Lib.hid hP
  have HQ := Lib.hid hQ
  have HMB : Hid (mb < w.heap.size) := Lib.hid h.1.2.lt
  have d1 : decide (kd = 1) = false := decide_eq_false hk1
  have d2 : decide (kd = 2) = false := decide_eq_false hk2
  unfold rtV at HQ
  clear hP hQ hin
  clear B1 B2 s0 s1 hb0 hR hZ e2 h hb3
  obtain ⟨q0, q1, q2, q3, q4, q5, q6, q7, q8, q9, q10, q11, q12, q13, q14, q15, q16⟩ := op_at HS.out
  unfold rtV
  go_enter Try.func30, Try.ntmps30
  go_wp2_with (refine wpList_load_mid (w := ((w.alloc (.cells (tabC X).toArray 62)).alloc (.cells #[.int .i64 kd, .int .u64 cl, .int .u64 rq, .int .i64 cd, .int .i64 tm, .int .u64 id, .int .i64 cn, .int .i64 st, .int .i64 lv, .int .u64 ge, .int .i64 fr, .int .i64 lf, .int .i64 du, .int .i64 tl, .slice a n ca, .int .u64 nt, .int .i64 de] 64)).alloc (.cells Try.zeroCells62 62)) rfl 62 (.tmp 4) rfl w.heap.size 0 rfl (tabC X) _ HR.out.1 rt_und rfl (HYI.out X) ?_)
  clear q0 q1 q2 q3 q4 q5 q6 q7 q8 q9 q10 q11 q12 q13 q14 q15 q16
  generalize ((w.alloc (.cells (tabC X).toArray 62)).alloc (.cells #[.int .i64 kd, .int .u64 cl, .int .u64 rq, .int .i64 cd, .int .i64 tm, .int .u64 id, .int .i64 cn, .int .i64 st, .int .i64 lv, .int .u64 ge, .int .i64 fr, .int .i64 lf, .int .i64 du, .int .i64 tl, .slice a n ca, .int .u64 nt, .int .i64 de] 64)).alloc (.cells Try.zeroCells62 62) = W0 at HB HR HZ HS ⊢
  refine (HQ.out W0).mono ?_
  rintro e w1 ⟨rfl, hb⟩
  have hz12 := RT.made w1 (fun _ => zOp) 62
  rw [← z135] at hz12
  have X1 : Below w1.heap.size w1 (w1.alloc (.cells Try.zeroCells62 62)) := (Below.refl _ _).alloc (Nat.le_refl _) _
  have HBa := Lib.hid (HB.out.trans ((hb.trans (X1.mono hb.size)).mono HB.out.size))
  have HZa : Hid ((w1.alloc (.cells Try.zeroCells62 62)).there (w.heap.size + 2) 0 135) := Lib.hid (there_eq HZ.out ((hb.trans (X1.mono hb.size)).block _ (there_lt HZ.out)))
  have HSa := Lib.hid (ex_below HS.out (hb.trans (X1.mono hb.size)))
  have HGA : Hid ((w.heap.size + 2) < w1.heap.size ∧ w.heap.size ≤ w1.heap.size) := Lib.hid ⟨Nat.lt_of_lt_of_le (there_lt HZ.out) hb.size, Nat.le_trans HB.out.size hb.size⟩
  obtain ⟨G12, hG12⟩ : ∃ y, w1.heap.size = y := ⟨_, rfl⟩
  rw [hG12] at hz12 HGA
  have HZb := Lib.hid hz12
  clear hb hz12 X1 HB HR HZ HS
  go_wp2_with (first
    | (refine wpList_store_mid (w := w1.alloc (.cells Try.zeroCells62 62)) rfl 62 (.tmp 14) (.tmp 27) rfl G12 0 (tabC X').toArray rfl rfl (by rw [HTA.out X']; exact HZb.out.2) (HYA.out X') (HONE.out X') ?_; rw [List.toList_toArray])
    | (refine wpList_store_mid (w := w1.alloc (.cells Try.zeroCells62 62)) rfl 62 (.tmp 14) (.tmp 27) rfl w1.heap.size 0 (tabC X').toArray rfl rfl (by rw [HTA.out X', hG12]; exact HZb.out.2) (HYA.out X') (HONE.out X') ?_; rw [List.toList_toArray, hG12]))
  try rw [hG12]
  clear hG12
  generalize w1.alloc (.cells Try.zeroCells62 62) = W2 at HBa HZa HSa HZb ⊢
  have HR3 := Lib.hid (RT.over2 HZb.out.2 X')
  have HB3 := Lib.hid (below_setCells HBa.out HGA.out.2 (tabC X') 0)
  have HS3 : Hid ((W2.setCells G12 0 (tabC X')).heap[w.heap.size + 1]? = some (.cells #[.int .i64 kd, .int .u64 cl, .int .u64 rq, .int .i64 cd, .int .i64 tm, .int .u64 id, .int .i64 cn, .int .i64 st, .int .i64 lv, .int .u64 ge, .int .i64 fr, .int .i64 lf, .int .i64 du, .int .i64 tl, .slice a n ca, .int .u64 nt, .int .i64 de] 64 (0, 0))) := Lib.hid ((heap_setCells (by have := HGA.out.1; omega) _ _ _).trans HSa.out)
  have HZ3 : Hid ((W2.setCells G12 0 (tabC X')).there (w.heap.size + 2) 0 135) := Lib.hid (there_eq HZa.out (heap_setCells (by have := HGA.out.1; omega) _ _ _))
  generalize W2.setCells G12 0 (tabC X') = W4 at HR3 HB3 HS3 HZ3 ⊢
  clear HBa HZa HSa HZb
  have HS0 : Hid ((fun W => RT W G12 X' ∧ W.heap[w.heap.size + 1]? = some (.cells #[.int .i64 kd, .int .u64 cl, .int .u64 rq, .int .i64 cd, .int .i64 tm, .int .u64 id, .int .i64 cn, .int .i64 st, .int .i64 lv, .int .u64 ge, .int .i64 fr, .int .i64 lf, .int .i64 du, .int .i64 tl, .slice a n ca, .int .u64 nt, .int .i64 de] 64 (0, 0)) ∧ W.there (w.heap.size + 2) 0 135) W4.drew) := Lib.hid ⟨HR3.out, HS3.out, HZ3.out⟩
  have HBD : Hid (Below w.heap.size w W4.drew) := Lib.hid (HB3.out.trans (((Below.refl W4.heap.size W4).drew).mono HB3.out.size))
  clear HR3 HS3 HZ3 HB3
  refine wp_region_held_drew (S := fun W => RT W G12 X' ∧ W.heap[w.heap.size + 1]? = some (.cells #[.int .i64 kd, .int .u64 cl, .int .u64 rq, .int .i64 cd, .int .i64 tm, .int .u64 id, .int .i64 cn, .int .i64 st, .int .i64 lv, .int .u64 ge, .int .i64 fr, .int .i64 lf, .int .i64 du, .int .i64 tl, .slice a n ca, .int .u64 nt, .int .i64 de] 64 (0, 0)) ∧ W.there (w.heap.size + 2) 0 135) (by kernel_rfl) HS0.out (fun hHeld => ?_)
  clear hHeld
  generalize W4.drew = W5 at HS0 HBD ⊢
  refine wpAnyH_take (i := 0) (oi := { dst := some 29, op := Go.Op.load 62 (Go.Operand.tmp 14), type := 62, pos := "law.go:53", after := #[], guard := none }) (v := .agg (tabC X').toArray) rfl (by kernel_rfl) (by kernel_rfl) (by kernel_rfl) (fun _ _ _ h => h) (by exact yieldsIf_load_mid (by rfl) 62 (.tmp 14) rfl G12 0 rfl (tabC X') _ (fun w h => h.1.1) rt_und rfl (HYI.out X')) HS0.out ?_
  try simp only [Act.put, List.setIfInBounds_toArray, List.set_cons_zero, List.set_cons_succ]
  refine wpAnyH_take (i := 1) (oi := { dst := some 30, op := Go.Op.move (Go.Operand.tmp 0), type := 57, pos := "law.go:53", after := #[], guard := none }) (v := ?_) rfl (by kernel_rfl) (by kernel_rfl) (by kernel_rfl) (fun _ _ _ h => h) (Or.inl ⟨by rfl, ?_⟩) HS0.out ?_
  case refine_2 => (intro w1 hS1; clear hS1; go_simp; try with_reducible rfl)
  try simp only [Act.put, List.setIfInBounds_toArray, List.set_cons_zero, List.set_cons_succ]
  refine wpAnyH_take (i := 2) (oi := { dst := some 31, op := Go.Op.fieldAddr 64 (Go.Operand.tmp 5) 1, type := 0, pos := "law.go:53", after := #[], guard := none }) (v := ?_) rfl (by kernel_rfl) (by kernel_rfl) (by kernel_rfl) (fun _ _ _ h => h) (Or.inl ⟨by rfl, ?_⟩) HS0.out ?_
  case refine_2 => (intro w1 hS1; clear hS1; go_simp; try with_reducible rfl)
  try simp only [Act.put, List.setIfInBounds_toArray, List.set_cons_zero, List.set_cons_succ]
  refine wpAnyH_take (i := 3) (oi := { dst := some 32, op := Go.Op.load 23 (Go.Operand.tmp 31), type := 23, pos := "law.go:53", after := #[{ on := 2, ground := Go.Ground.data }], guard := none }) (v := ?_) rfl (by kernel_rfl) (by kernel_rfl) (by kernel_rfl) (fun _ _ _ h => h) (Or.inl ⟨by rfl, ?_⟩) HS0.out ?_
  case refine_2 => (intro w1 hS1; obtain ⟨-, k2, -⟩ := hS1; obtain ⟨q0, q1, q2, q3, q4, q5, q6, q7, q8, q9, q10, q11, q12, q13, q14, q15, q16⟩ := op_at k2; clear k2; go_simp; try with_reducible rfl)
  try simp only [Act.put, List.setIfInBounds_toArray, List.set_cons_zero, List.set_cons_succ]
  refine wpAnyH_take (i := 4) (oi := { dst := some 33, op := Go.Op.fieldAddr 64 (Go.Operand.tmp 5) 2, type := 0, pos := "law.go:53", after := #[], guard := none }) (v := ?_) rfl (by kernel_rfl) (by kernel_rfl) (by kernel_rfl) (fun _ _ _ h => h) (Or.inl ⟨by rfl, ?_⟩) HS0.out ?_
  case refine_2 => (intro w1 hS1; clear hS1; go_simp; try with_reducible rfl)
  try simp only [Act.put, List.setIfInBounds_toArray, List.set_cons_zero, List.set_cons_succ]
  refine wpAnyH_take (i := 5) (oi := { dst := some 34, op := Go.Op.load 23 (Go.Operand.tmp 33), type := 23, pos := "law.go:53", after := #[{ on := 4, ground := Go.Ground.data }], guard := none }) (v := ?_) rfl (by kernel_rfl) (by kernel_rfl) (by kernel_rfl) (fun _ _ _ h => h) (Or.inl ⟨by rfl, ?_⟩) HS0.out ?_
  case refine_2 => (intro w1 hS1; obtain ⟨-, k2, -⟩ := hS1; obtain ⟨q0, q1, q2, q3, q4, q5, q6, q7, q8, q9, q10, q11, q12, q13, q14, q15, q16⟩ := op_at k2; clear k2; go_simp; try with_reducible rfl)
  try simp only [Act.put, List.setIfInBounds_toArray, List.set_cons_zero, List.set_cons_succ]
  refine wpAnyH_take (i := 6) (oi := { dst := some 35, op := Go.Op.fieldAddr 64 (Go.Operand.tmp 5) 3, type := 0, pos := "law.go:53", after := #[], guard := none }) (v := ?_) rfl (by kernel_rfl) (by kernel_rfl) (by kernel_rfl) (fun _ _ _ h => h) (Or.inl ⟨by rfl, ?_⟩) HS0.out ?_
  case refine_2 => (intro w1 hS1; clear hS1; go_simp; try with_reducible rfl)
  try simp only [Act.put, List.setIfInBounds_toArray, List.set_cons_zero, List.set_cons_succ]
  refine wpAnyH_take (i := 7) (oi := { dst := some 36, op := Go.Op.load 28 (Go.Operand.tmp 35), type := 28, pos := "law.go:53", after := #[{ on := 6, ground := Go.Ground.data }], guard := none }) (v := ?_) rfl (by kernel_rfl) (by kernel_rfl) (by kernel_rfl) (fun _ _ _ h => h) (Or.inl ⟨by rfl, ?_⟩) HS0.out ?_
  case refine_2 => (intro w1 hS1; obtain ⟨-, k2, -⟩ := hS1; obtain ⟨q0, q1, q2, q3, q4, q5, q6, q7, q8, q9, q10, q11, q12, q13, q14, q15, q16⟩ := op_at k2; clear k2; go_simp; try with_reducible rfl)
  try simp only [Act.put, List.setIfInBounds_toArray, List.set_cons_zero, List.set_cons_succ]
  refine wpAnyH_take (i := 9) (oi := { dst := some 38, op := Go.Op.move (Go.Operand.tmp 15), type := 3, pos := "law.go:53", after := #[{ on := 11, ground := Go.Ground.gcOnly Go.Departure.lateStores }], guard := none }) (v := ?_) rfl (by kernel_rfl) (by kernel_rfl) (by kernel_rfl) (fun _ _ _ h => h) (Or.inl ⟨by rfl, ?_⟩) HS0.out ?_
  case refine_2 => (intro w1 hS1; clear hS1; go_simp; try with_reducible rfl)
  try simp only [Act.put, List.setIfInBounds_toArray, List.set_cons_zero, List.set_cons_succ]
  refine wpAnyH_ready (rs := [8]) (by kernel_rfl) (by simp) ?_
  refine AllReadyH.cons (o := { dst := some 37, op := Go.Op.call { callee := Go.Callee.value (Go.Operand.func 36), args := #[Go.Operand.tmp 30, Go.Operand.tmp 32, Go.Operand.tmp 34, Go.Operand.tmp 36], argTypes := #[57, 23, 23, 28] }, type := 22, pos := "law.go:53", after := #[{ on := 1, ground := Go.Ground.data }, { on := 3, ground := Go.Ground.data }, { on := 5, ground := Go.Ground.data }, { on := 7, ground := Go.Ground.data }], guard := none }) rfl (fun K hK => ?_) AllReadyH.nil
  go_simp
  refine (HP.out W5 HBD.out).mono ?_
  rintro e W6 ⟨rfl, ⟨c', M', hrt⟩, hg⟩
  have HS0' : Hid ((fun W => RT W G12 X' ∧ W.heap[w.heap.size + 1]? = some (.cells #[.int .i64 kd, .int .u64 cl, .int .u64 rq, .int .i64 cd, .int .i64 tm, .int .u64 id, .int .i64 cn, .int .i64 st, .int .i64 lv, .int .u64 ge, .int .i64 fr, .int .i64 lf, .int .i64 du, .int .i64 tl, .slice a n ca, .int .u64 nt, .int .i64 de] 64 (0, 0)) ∧ W.there (w.heap.size + 2) 0 135) W6) := Lib.hid ⟨HS0.out.1.frame (hg.block _ HS0.out.1.lt (by intro e; injection e with e; have := HMB.out; have := HGA.out.2; omega)), (hg.block _ (ex_lt HS0.out.2.1) (by intro e; injection e with e; have := HMB.out; omega)).trans HS0.out.2.1, there_eq HS0.out.2.2 (hg.block _ (there_lt HS0.out.2.2) (by intro e; injection e with e; have := HMB.out; omega))⟩
  have HRT6 := Lib.hid hrt
  have HG6 := Lib.hid hg
  have HNL : Hid ((w.heap.size + 2) < W5.heap.size) := Lib.hid (there_lt HS0.out.2.2)
  clear hrt hg
  clear HS0
  have HS0 := HS0'
  clear HS0'
  refine hK.out _ _ HS0.out (fun hHeld => ?_)
  clear hK K hHeld
  try simp only [Act.put, List.setIfInBounds_toArray, List.set_cons_zero, List.set_cons_succ]
  refine wpAnyH_take (i := 10) (oi := { dst := some 39, op := Go.Op.binOp Go.BinOp.eql 3 (Go.Operand.tmp 37) (Go.Operand.tmp 38) 3, type := 4, pos := "law.go:53", after := #[{ on := 8, ground := Go.Ground.data }, { on := 9, ground := Go.Ground.data }, { on := 11, ground := Go.Ground.gcOnly Go.Departure.lateStores }], guard := none }) (v := ?_) rfl (by kernel_rfl) (by kernel_rfl) (by kernel_rfl) (fun _ _ _ h => h) (Or.inl ⟨by rfl, ?_⟩) HS0.out ?_
  case refine_2 => (intro w1 hS1; clear hS1; go_simp; try with_reducible rfl)
  try simp only [Act.put, List.setIfInBounds_toArray, List.set_cons_zero, List.set_cons_succ]
  refine wpAnyH_ready (rs := [11]) (by kernel_rfl) (by simp) ?_
  refine AllReadyH.cons (o := { dst := none, op := Go.Op.store 62 (Go.Operand.tmp 6) (Go.Operand.tmp 29), type := 0, pos := "law.go:53", after := #[{ on := 0, ground := Go.Ground.data }, { on := 8, ground := Go.Ground.chain }, { on := 0, ground := Go.Ground.phase }, { on := 1, ground := Go.Ground.textOnly Go.Departure.lateStores }, { on := 2, ground := Go.Ground.textOnly Go.Departure.lateStores }, { on := 3, ground := Go.Ground.textOnly Go.Departure.lateStores }, { on := 4, ground := Go.Ground.textOnly Go.Departure.lateStores }, { on := 5, ground := Go.Ground.textOnly Go.Departure.lateStores }, { on := 6, ground := Go.Ground.textOnly Go.Departure.lateStores }, { on := 7, ground := Go.Ground.textOnly Go.Departure.lateStores }, { on := 8, ground := Go.Ground.textOnly Go.Departure.lateStoresUnsure }, { on := 9, ground := Go.Ground.textOnly Go.Departure.lateStores }, { on := 10, ground := Go.Ground.textOnly Go.Departure.lateStores }], guard := none }) rfl (fun K hK => ?_) AllReadyH.nil
  rw [if_pos (by rfl)]
  refine wp_store_mid 62 (.tmp 6) (.tmp 29) rfl (w.heap.size + 2) 0 (tabC X').toArray rfl rfl (by rw [HTA.out X']; exact HS0.out.2.2) (HYA.out X') (HONE.out X') ?_
  rw [List.toList_toArray]
  have HF := Lib.hid (RT.over2 HS0.out.2.2 X')
  have HRF : Hid (Rt Av (W6.setCells (w.heap.size + 2) 0 (tabC X')) T mb c' M' X') := Lib.hid (HRT6.out _ ⟨by rw [size_setCells]; exact Nat.le_refl _, fun k hk hor => heap_setCells (by have := HNL.out; omega) _ _ _⟩)
  have HGF : Hid (w.grownBy (W6.setCells (w.heap.size + 2) 0 (tabC X')) (some mb)) := Lib.hid (by
    have hg := HG6.out
    have hb := HBD.out
    have hs := below_setCells (Below.refl w.heap.size W6) (Nat.le_add_right w.heap.size 2) (tabC X') 0
    exact ⟨hs.os.trans (hg.os.trans hb.os), hs.tape.trans (hg.tape.trans hb.tape), hs.output.trans (hg.output.trans hb.output), Nat.le_trans (Nat.le_trans hb.size hg.size) hs.size, fun k hk hr => ((hs.block k hk).trans (hg.block k (Nat.lt_of_lt_of_le hk hb.size) hr)).trans (hb.block k hk)⟩)
  have HS0' : Hid ((fun W => RT W G12 X' ∧ W.heap[w.heap.size + 1]? = some (.cells #[.int .i64 kd, .int .u64 cl, .int .u64 rq, .int .i64 cd, .int .i64 tm, .int .u64 id, .int .i64 cn, .int .i64 st, .int .i64 lv, .int .u64 ge, .int .i64 fr, .int .i64 lf, .int .i64 du, .int .i64 tl, .slice a n ca, .int .u64 nt, .int .i64 de] 64 (0, 0)) ∧ W.there (w.heap.size + 2) 0 135) (W6.setCells (w.heap.size + 2) 0 (tabC X'))) := Lib.hid ⟨HS0.out.1.far (by have := HGA.out.1; omega) _ _, (heap_setCells (show w.heap.size + 1 ≠ w.heap.size + 2 by omega) _ _ _).trans HS0.out.2.1, World.there_setCells HS0.out.2.2 _ _ _⟩
  clear HS0
  have HS0 := HS0'
  clear HS0'
  refine hK.out _ _ HS0.out (fun hHeld => ?_)
  clear hK K hHeld
  try simp only [Act.put, List.setIfInBounds_toArray, List.set_cons_zero, List.set_cons_succ]
  refine wpAnyH_take (i := 12) (oi := { dst := some 7, op := Go.Op.assign (Go.Operand.tmp 39), type := 4, pos := "law.go:53", after := #[{ on := 10, ground := Go.Ground.data }, { on := 11, ground := Go.Ground.chain }, { on := 0, ground := Go.Ground.phase }, { on := 1, ground := Go.Ground.phase }, { on := 2, ground := Go.Ground.phase }, { on := 3, ground := Go.Ground.phase }, { on := 4, ground := Go.Ground.phase }, { on := 5, ground := Go.Ground.phase }, { on := 6, ground := Go.Ground.phase }, { on := 7, ground := Go.Ground.phase }, { on := 8, ground := Go.Ground.phase }, { on := 9, ground := Go.Ground.phase }, { on := 10, ground := Go.Ground.phase }, { on := 11, ground := Go.Ground.phase }], guard := none }) (v := ?_) rfl (by kernel_rfl) (by kernel_rfl) (by kernel_rfl) (fun _ _ _ h => h) (Or.inl ⟨by rfl, ?_⟩) HS0.out ?_
  case refine_2 => (intro w1 hS1; clear hS1; go_simp; try with_reducible rfl)
  try simp only [Act.put, List.setIfInBounds_toArray, List.set_cons_zero, List.set_cons_succ]
  refine wpAnyH_done (by kernel_rfl) ?_ _
  go_wp2_with fail
  exact bodyPost_ret (rt_result Try.results30 _ _ (w.heap.size + 2) X' rfl HF.out) rfl ⟨X', rfl, ⟨c', M', HRF.out⟩, HGF.out⟩
end Go.Proofs.Ytnhaakdjijjinaa

/- ChainSame. -/
import Derived.Test.YthnnbmofpmedhaaChK
namespace Go.Proofs.Ythnnbmofpmedhaa
open Go.RowKit
/-- Who stands ahead of the due. -/
theorem Cal.stops {D : Cal} {s b v t r e2 : Int} (hA : D.Dues s b v 0) (hb : 0 < b) (st : s ≤ t) (tv : t < v) (hR : RestIs D s b t r e2) :
    e2 = 0 ∧ 1 ≤ r ∧ r ≤ b ∧ v ≠ 0 ∧ (∀ x e, D.Dues t r x e → x = v ∧ e = 0) ∧ ∀ u x, t ≤ u → D.Dues u r x 0 → v ≤ x := by
  rcases hA with ⟨_, _, h⟩ | ⟨_, _, h, _⟩ | ⟨_, _, _, _, _, h⟩ | ⟨s0, s1, _, ht, h⟩
  · omega
  · omega
  · omega
  rcases h with ⟨h, _, _⟩ | ⟨_, h2, h3, h4, h5⟩
  · omega
  have hst := D.g_step (v - 1) (by omega)
  rw [h3, show v - 1 + 1 = v by omega] at hst
  simp only [if_true] at hst
  have m1 := D.g_mono (a := t) (b := v - 1) (by omega) (by omega)
  have m2 := D.g_mono s0 st
  have he : e2 = 0 ∧ r = b - (D.g t - D.g s) := by
    rcases hR with ⟨h, _, _⟩ | ⟨_, _, hr, he⟩
    · rcases h with h | h
      · omega
      · exact absurd ⟨(instB_iff s).2 ⟨s0, s1⟩, (instB_iff t).2 ⟨by omega, by omega⟩, st⟩ h
    · exact ⟨he, by omega⟩
  obtain ⟨he, hr⟩ := he
  refine ⟨he, by omega, by omega, by omega, fun x e hx => D.due_is hx (by omega) (by omega) tv h5 (by omega) h3 ht, fun u x hu hx => ?_⟩
  rcases hx with ⟨_, _, h⟩ | ⟨_, _, h, _⟩ | ⟨_, _, _, _, _, h⟩ | ⟨u0, u1, _, _, h⟩
  · omega
  · omega
  · omega
  rcases h with ⟨h, _, _⟩ | ⟨_, k2, k3, k4, k5⟩
  · omega
  have m3 := D.g_mono (a := t) (b := u) (by omega) hu
  rcases Int.lt_or_le x v with hc | hc
  · have := D.g_mono (a := x) (b := v - 1) (by omega) (by omega)
    omega
  · exact hc
theorem Cal.due_pos {D : Cal} {s b v : Int} (hA : D.Dues s b v 0) (hb : 0 < b) : 0 < v := by
  rcases hA with ⟨_, _, h⟩ | ⟨_, _, h, _⟩ | ⟨_, _, _, _, _, h⟩ | ⟨s0, s1, _, ht, h⟩
  · omega
  · omega
  · omega
  rcases h with ⟨h, _, _⟩ | ⟨_, h2, h3, h4, h5⟩
  · omega
  · omega
theorem step_struct : Try.prog.underlying 29 = some (.struct (Try.prog.fieldsOf 29)) := by kernel_rfl
theorem step_held : Try.prog.stoodInHeld 29 = false := by kernel_rfl
theorem step_guard : Try.prog.eqGuardType Try.prog.depth 29 = false := by kernel_rfl
theorem guard_step (op : BinOp) (x y : Operand) (xs ys : Array Value) (w : World) : (eqGuard op 29 x y (.agg xs) (.agg ys)).run Try.prog w = .ok () w := run_eqGuard_agg w op _ x y xs ys step_guard
theorem eq_step (l f c d : Int) (w : World) : (Op.equalIn 10000 29 (.agg #[.int .i64 l, .int .i64 f, .int .i64 c, .int .i64 d]) (.agg #[.int .i64 l, .int .i64 f, .int .i64 c, .int .i64 d])).run Try.prog w = .ok true w := by
  rw [run_equalIn_agg w 9999 _ _ _ step_struct step_held]
  have h : Try.prog.underlying 2 = some (.int .i64) := Try.underlying2
  have h' : Try.prog.underlying 3 = some (.int .i64) := Try.underlying3
  simp [Op.eqFields, go_sem, h, h', Try.underlying29]
theorem eql_step (l f c d : Int) (w : World) : (binOp .eql 29 (.agg #[.int .i64 l, .int .i64 f, .int .i64 c, .int .i64 d]) (.agg #[.int .i64 l, .int .i64 f, .int .i64 c, .int .i64 d])).run Try.prog w = .ok (.bool true) w := by
  rw [run_eql_struct, eq_step]; rfl
set_option maxRecDepth 100000 in
set_option maxHeartbeats 16000000 in
theorem same_skip (off : Int) (a0 : Option Addr) (n0 ca0 : Nat) (b0 : Option Addr) (m0 cb0 : Nat) (F T G U : Nat → Int) (c : Int) (a : Option Addr) (n ca : Nat) (r b : Int) (B P : Nat → Int) (now t u : Int) (w : World) (hS0 : Sps w a0 n0 F T) (hR0 : Sps w b0 m0 G U) (hS : Sps w a n B P) (hz : ¬ ((n0 ≤ 60 ∧ m0 ≤ 60) ∧ n ≤ 60) ∨ checkE off F T n0 G U m0 ≠ 0 ∨ goodC c n r b B P = false ∨ u < 0 ∨ 1125899906842624 < u) :
    Calls Try.prog 6 #[calV off a0 n0 ca0 b0 m0 cb0, conV c a n ca r b, .int .i64 now, .int .i64 t, .int .i64 u] w fun e w' => e = .returned (.bool true) ∧ Below w.heap.size w w' := by
  obtain ⟨B2, s0, s1, sz⟩ := box2 w #[.int .i64 off, .slice a0 n0 ca0, .slice b0 m0 cb0] #[.int .i64 c, .slice a n ca, .int .i64 r, .int .i64 b] 24 27
  have HE0_0 := Lib.hid s0
  have HE1_0 := Lib.hid s1
  have HB0 := Lib.hid B2
  have HZ0 := Lib.hid sz
  have hli := light15 off a0 n0 ca0 b0 m0 cb0 c a n ca r b ((w.alloc (.cells #[.int .i64 off, .slice a0 n0 ca0, .slice b0 m0 cb0] 24)).alloc (.cells #[.int .i64 c, .slice a n ca, .int .i64 r, .int .i64 b] 27)) hS0.1 hR0.1 hS.1
  have HCK := Lib.hid (fun W (hb : Below w.heap.size w W) => rcheck10 off a0 n0 ca0 F T b0 m0 cb0 G U W (hS0.kept hb) (hR0.kept hb))
  have HGD := Lib.hid (fun W (hb : Below w.heap.size w W) => rgood_any c a n ca r b B P W (hS.kept hb))
  obtain ⟨x, hx⟩ : ∃ x, (decide (n0 ≤ 60 ∧ m0 ≤ 60) && decide (n ≤ 60)) = x := ⟨_, rfl⟩
  obtain ⟨z0, ez⟩ : ∃ z, checkE off F T n0 G U m0 = z := ⟨_, rfl⟩
  obtain ⟨g, hg⟩ : ∃ z, goodC c n r b B P = z := ⟨_, rfl⟩
  obtain ⟨y0, d0⟩ : ∃ z, (z0 != 0) = z := ⟨_, rfl⟩
  obtain ⟨y1, d1⟩ : ∃ z, decide (u < 0) = z := ⟨_, rfl⟩
  obtain ⟨y2, d2⟩ : ∃ z, decide (1125899906842624 < u) = z := ⟨_, rfl⟩
  have hor : x = false ∨ (x = true ∧ (y0 = true ∨ (y0 = false ∧ (g = false ∨ (g = true ∧ (y1 = true ∨ (y1 = false ∧ y2 = true))))))) := by
    have h1 : x = true → ((n0 ≤ 60 ∧ m0 ≤ 60) ∧ n ≤ 60) := by rw [← hx]; simp
    have h2 : z0 ≠ 0 → y0 = true := by rw [← d0]; simp
    have h3 : u < 0 → y1 = true := by rw [← d1]; simp
    have h4 : 1125899906842624 < u → y2 = true := by rw [← d2]; simp
    rw [ez, hg] at hz
    cases x
    · exact .inl rfl
    · have hz := hz.resolve_left (fun h => h (h1 rfl))
      refine .inr ⟨rfl, ?_⟩
      cases y0
      · have hz := hz.resolve_left (fun h => by cases h2 h)
        refine .inr ⟨rfl, ?_⟩
        cases g
        · exact .inl rfl
        · have hz := hz.resolve_left (by decide)
          refine .inr ⟨rfl, ?_⟩
          cases y1
          · exact .inr ⟨rfl, h4 (hz.resolve_left (fun h => by cases h3 h))⟩
          · exact .inl rfl
      · exact .inl rfl
  rw [hx] at hli
  rw [ez] at HCK
  rw [hg] at HGD
  clear hx ez hz hg
  have e0_0 := cells_heap HE0_0.out 0
  have e0_1 := cells_heap HE0_0.out 1
  have e0_2 := cells_heap HE0_0.out 2
  obtain ⟨e1_0, e1_1, e1_2, e1_3, -⟩ := four_at HE1_0.out
  clear B2 sz s0 s1
  clear hS0 hR0 hS
  unfold conV at *
  unfold calV at *
  rcases hor with rfl | ⟨rfl, rfl | ⟨rfl, rfl | ⟨rfl, rfl | ⟨rfl, rfl⟩⟩⟩⟩
  · go_enter Try.func6, Try.ntmps6
    go_wp2_with fail
    generalize ((w.alloc (.cells #[.int .i64 off, .slice a0 n0 ca0, .slice b0 m0 cb0] 24)).alloc (.cells #[.int .i64 c, .slice a n ca, .int .i64 r, .int .i64 b] 27)) = W0 at HB0 HZ0 HE0_0 HE1_0 e0_0 e0_1 e0_2 e1_0 e1_1 e1_2 e1_3 hli ⊢
    refine (hli).mono ?_
    rintro e W1 ⟨rfl, hb⟩
    have HB1 := Lib.hid (HB0.out.trans (hb.mono HB0.out.size))
    have HE0_1 := Lib.hid (ex_below HE0_0.out hb)
    have HE1_1 := Lib.hid (ex_below HE1_0.out hb)
    clear e0_0 e0_1 e0_2 e1_0 e1_1 e1_2 e1_3 hb
    have e0_0 := cells_heap HE0_1.out 0
    have e0_1 := cells_heap HE0_1.out 1
    have e0_2 := cells_heap HE0_1.out 2
    obtain ⟨e1_0, e1_1, e1_2, e1_3, -⟩ := four_at HE1_1.out
    go_wp2_with fail
    refine (lives15 W1).mono ?_
    rintro e wl ⟨rfl, hb⟩
    have HBL := Lib.hid (HB1.out.trans (hb.mono HB1.out.size))
    clear e0_0 e0_1 e0_2 e1_0 e1_1 e1_2 e1_3 hb
    go_wp2_with fail
    go_ret
    exact ⟨rfl, HBL.out⟩
  · go_enter Try.func6, Try.ntmps6
    go_wp2_with fail
    generalize ((w.alloc (.cells #[.int .i64 off, .slice a0 n0 ca0, .slice b0 m0 cb0] 24)).alloc (.cells #[.int .i64 c, .slice a n ca, .int .i64 r, .int .i64 b] 27)) = W0 at HB0 HZ0 HE0_0 HE1_0 e0_0 e0_1 e0_2 e1_0 e1_1 e1_2 e1_3 hli ⊢
    refine (hli).mono ?_
    rintro e W1 ⟨rfl, hb⟩
    have HB1 := Lib.hid (HB0.out.trans (hb.mono HB0.out.size))
    have HE0_1 := Lib.hid (ex_below HE0_0.out hb)
    have HE1_1 := Lib.hid (ex_below HE1_0.out hb)
    clear e0_0 e0_1 e0_2 e1_0 e1_1 e1_2 e1_3 hb
    have e0_0 := cells_heap HE0_1.out 0
    have e0_1 := cells_heap HE0_1.out 1
    have e0_2 := cells_heap HE0_1.out 2
    obtain ⟨e1_0, e1_1, e1_2, e1_3, -⟩ := four_at HE1_1.out
    go_wp2_with fail
    refine (HCK.out W1 HB1.out).mono ?_
    rintro e W2 ⟨rfl, hb⟩
    have HB2 := Lib.hid (HB1.out.trans (hb.mono HB1.out.size))
    have HE0_2 := Lib.hid (ex_below HE0_1.out hb)
    have HE1_2 := Lib.hid (ex_below HE1_1.out hb)
    clear e0_0 e0_1 e0_2 e1_0 e1_1 e1_2 e1_3 hb
    have e0_0 := cells_heap HE0_2.out 0
    have e0_1 := cells_heap HE0_2.out 1
    have e0_2 := cells_heap HE0_2.out 2
    obtain ⟨e1_0, e1_1, e1_2, e1_3, -⟩ := four_at HE1_2.out
    go_wp2_with fail
    refine (lives15 W2).mono ?_
    rintro e wl ⟨rfl, hb⟩
    have HBL := Lib.hid (HB2.out.trans (hb.mono HB2.out.size))
    clear e0_0 e0_1 e0_2 e1_0 e1_1 e1_2 e1_3 hb
    go_wp2_with fail
    go_ret
    exact ⟨rfl, HBL.out⟩
  · go_enter Try.func6, Try.ntmps6
    go_wp2_with fail
    generalize ((w.alloc (.cells #[.int .i64 off, .slice a0 n0 ca0, .slice b0 m0 cb0] 24)).alloc (.cells #[.int .i64 c, .slice a n ca, .int .i64 r, .int .i64 b] 27)) = W0 at HB0 HZ0 HE0_0 HE1_0 e0_0 e0_1 e0_2 e1_0 e1_1 e1_2 e1_3 hli ⊢
    refine (hli).mono ?_
    rintro e W1 ⟨rfl, hb⟩
    have HB1 := Lib.hid (HB0.out.trans (hb.mono HB0.out.size))
    have HE0_1 := Lib.hid (ex_below HE0_0.out hb)
    have HE1_1 := Lib.hid (ex_below HE1_0.out hb)
    clear e0_0 e0_1 e0_2 e1_0 e1_1 e1_2 e1_3 hb
    have e0_0 := cells_heap HE0_1.out 0
    have e0_1 := cells_heap HE0_1.out 1
    have e0_2 := cells_heap HE0_1.out 2
    obtain ⟨e1_0, e1_1, e1_2, e1_3, -⟩ := four_at HE1_1.out
    go_wp2_with fail
    refine (HCK.out W1 HB1.out).mono ?_
    rintro e W2 ⟨rfl, hb⟩
    have HB2 := Lib.hid (HB1.out.trans (hb.mono HB1.out.size))
    have HE0_2 := Lib.hid (ex_below HE0_1.out hb)
    have HE1_2 := Lib.hid (ex_below HE1_1.out hb)
    clear e0_0 e0_1 e0_2 e1_0 e1_1 e1_2 e1_3 hb
    have e0_0 := cells_heap HE0_2.out 0
    have e0_1 := cells_heap HE0_2.out 1
    have e0_2 := cells_heap HE0_2.out 2
    obtain ⟨e1_0, e1_1, e1_2, e1_3, -⟩ := four_at HE1_2.out
    go_wp2_with fail
    refine (HGD.out W2 HB2.out).mono ?_
    rintro e W3 ⟨rfl, hb⟩
    have HB3 := Lib.hid (HB2.out.trans (hb.mono HB2.out.size))
    have HE0_3 := Lib.hid (ex_below HE0_2.out hb)
    have HE1_3 := Lib.hid (ex_below HE1_2.out hb)
    clear e0_0 e0_1 e0_2 e1_0 e1_1 e1_2 e1_3 hb
    have e0_0 := cells_heap HE0_3.out 0
    have e0_1 := cells_heap HE0_3.out 1
    have e0_2 := cells_heap HE0_3.out 2
    obtain ⟨e1_0, e1_1, e1_2, e1_3, -⟩ := four_at HE1_3.out
    go_wp2_with fail
    refine (lives15 W3).mono ?_
    rintro e wl ⟨rfl, hb⟩
    have HBL := Lib.hid (HB3.out.trans (hb.mono HB3.out.size))
    clear e0_0 e0_1 e0_2 e1_0 e1_1 e1_2 e1_3 hb
    go_wp2_with fail
    go_ret
    exact ⟨rfl, HBL.out⟩
  · go_enter Try.func6, Try.ntmps6
    go_wp2_with fail
    generalize ((w.alloc (.cells #[.int .i64 off, .slice a0 n0 ca0, .slice b0 m0 cb0] 24)).alloc (.cells #[.int .i64 c, .slice a n ca, .int .i64 r, .int .i64 b] 27)) = W0 at HB0 HZ0 HE0_0 HE1_0 e0_0 e0_1 e0_2 e1_0 e1_1 e1_2 e1_3 hli ⊢
    refine (hli).mono ?_
    rintro e W1 ⟨rfl, hb⟩
    have HB1 := Lib.hid (HB0.out.trans (hb.mono HB0.out.size))
    have HE0_1 := Lib.hid (ex_below HE0_0.out hb)
    have HE1_1 := Lib.hid (ex_below HE1_0.out hb)
    clear e0_0 e0_1 e0_2 e1_0 e1_1 e1_2 e1_3 hb
    have e0_0 := cells_heap HE0_1.out 0
    have e0_1 := cells_heap HE0_1.out 1
    have e0_2 := cells_heap HE0_1.out 2
    obtain ⟨e1_0, e1_1, e1_2, e1_3, -⟩ := four_at HE1_1.out
    go_wp2_with fail
    refine (HCK.out W1 HB1.out).mono ?_
    rintro e W2 ⟨rfl, hb⟩
    have HB2 := Lib.hid (HB1.out.trans (hb.mono HB1.out.size))
    have HE0_2 := Lib.hid (ex_below HE0_1.out hb)
    have HE1_2 := Lib.hid (ex_below HE1_1.out hb)
    clear e0_0 e0_1 e0_2 e1_0 e1_1 e1_2 e1_3 hb
    have e0_0 := cells_heap HE0_2.out 0
    have e0_1 := cells_heap HE0_2.out 1
    have e0_2 := cells_heap HE0_2.out 2
    obtain ⟨e1_0, e1_1, e1_2, e1_3, -⟩ := four_at HE1_2.out
    go_wp2_with fail
    refine (HGD.out W2 HB2.out).mono ?_
    rintro e W3 ⟨rfl, hb⟩
    have HB3 := Lib.hid (HB2.out.trans (hb.mono HB2.out.size))
    have HE0_3 := Lib.hid (ex_below HE0_2.out hb)
    have HE1_3 := Lib.hid (ex_below HE1_2.out hb)
    clear e0_0 e0_1 e0_2 e1_0 e1_1 e1_2 e1_3 hb
    have e0_0 := cells_heap HE0_3.out 0
    have e0_1 := cells_heap HE0_3.out 1
    have e0_2 := cells_heap HE0_3.out 2
    obtain ⟨e1_0, e1_1, e1_2, e1_3, -⟩ := four_at HE1_3.out
    go_wp2_with fail
    refine (lives15 W3).mono ?_
    rintro e wl ⟨rfl, hb⟩
    have HBL := Lib.hid (HB3.out.trans (hb.mono HB3.out.size))
    clear e0_0 e0_1 e0_2 e1_0 e1_1 e1_2 e1_3 hb
    go_wp2_with fail
    go_ret
    exact ⟨rfl, HBL.out⟩
  · go_enter Try.func6, Try.ntmps6
    go_wp2_with fail
    generalize ((w.alloc (.cells #[.int .i64 off, .slice a0 n0 ca0, .slice b0 m0 cb0] 24)).alloc (.cells #[.int .i64 c, .slice a n ca, .int .i64 r, .int .i64 b] 27)) = W0 at HB0 HZ0 HE0_0 HE1_0 e0_0 e0_1 e0_2 e1_0 e1_1 e1_2 e1_3 hli ⊢
    refine (hli).mono ?_
    rintro e W1 ⟨rfl, hb⟩
    have HB1 := Lib.hid (HB0.out.trans (hb.mono HB0.out.size))
    have HE0_1 := Lib.hid (ex_below HE0_0.out hb)
    have HE1_1 := Lib.hid (ex_below HE1_0.out hb)
    clear e0_0 e0_1 e0_2 e1_0 e1_1 e1_2 e1_3 hb
    have e0_0 := cells_heap HE0_1.out 0
    have e0_1 := cells_heap HE0_1.out 1
    have e0_2 := cells_heap HE0_1.out 2
    obtain ⟨e1_0, e1_1, e1_2, e1_3, -⟩ := four_at HE1_1.out
    go_wp2_with fail
    refine (HCK.out W1 HB1.out).mono ?_
    rintro e W2 ⟨rfl, hb⟩
    have HB2 := Lib.hid (HB1.out.trans (hb.mono HB1.out.size))
    have HE0_2 := Lib.hid (ex_below HE0_1.out hb)
    have HE1_2 := Lib.hid (ex_below HE1_1.out hb)
    clear e0_0 e0_1 e0_2 e1_0 e1_1 e1_2 e1_3 hb
    have e0_0 := cells_heap HE0_2.out 0
    have e0_1 := cells_heap HE0_2.out 1
    have e0_2 := cells_heap HE0_2.out 2
    obtain ⟨e1_0, e1_1, e1_2, e1_3, -⟩ := four_at HE1_2.out
    go_wp2_with fail
    refine (HGD.out W2 HB2.out).mono ?_
    rintro e W3 ⟨rfl, hb⟩
    have HB3 := Lib.hid (HB2.out.trans (hb.mono HB2.out.size))
    have HE0_3 := Lib.hid (ex_below HE0_2.out hb)
    have HE1_3 := Lib.hid (ex_below HE1_2.out hb)
    clear e0_0 e0_1 e0_2 e1_0 e1_1 e1_2 e1_3 hb
    have e0_0 := cells_heap HE0_3.out 0
    have e0_1 := cells_heap HE0_3.out 1
    have e0_2 := cells_heap HE0_3.out 2
    obtain ⟨e1_0, e1_1, e1_2, e1_3, -⟩ := four_at HE1_3.out
    go_wp2_with fail
    refine (lives15 W3).mono ?_
    rintro e wl ⟨rfl, hb⟩
    have HBL := Lib.hid (HB3.out.trans (hb.mono HB3.out.size))
    clear e0_0 e0_1 e0_2 e1_0 e1_1 e1_2 e1_3 hb
    go_wp2_with fail
    go_ret
    exact ⟨rfl, HBL.out⟩
set_option maxRecDepth 100000 in
set_option maxHeartbeats 16000000 in
theorem same_ok (off : Int) (a0 : Option Addr) (n0 ca0 : Nat) (b0 : Option Addr) (m0 cb0 : Nat) (F T G U : Nat → Int) (c : Int) (a : Option Addr) (n ca : Nat) (r b : Int) (B P : Nat → Int) (now t u : Int) (w : World) (hS0 : Sps w a0 n0 F T) (hR0 : Sps w b0 m0 G U) (hS : Sps w a n B P) (hl : n0 ≤ 60 ∧ m0 ≤ 60) (hl2 : n ≤ 60) (hz : checkE off F T n0 G U m0 = 0) (hg : goodC c n r b B P = true) (u0 : ¬ u < 0) (u1 : ¬ 1125899906842624 < u) :
    Calls Try.prog 6 #[calV off a0 n0 ca0 b0 m0 cb0, conV c a n ca r b, .int .i64 now, .int .i64 t, .int .i64 u] w fun e w' => e = .returned (.bool true) ∧ Below w.heap.size w w' := by
  obtain ⟨B2, s0, s1, sz⟩ := box2 w #[.int .i64 off, .slice a0 n0 ca0, .slice b0 m0 cb0] #[.int .i64 c, .slice a n ca, .int .i64 r, .int .i64 b] 24 27
  have HE0_0 := Lib.hid s0
  have HE1_0 := Lib.hid s1
  have HB0 := Lib.hid B2
  have HZ0 := Lib.hid sz
  have hli := light15 off a0 n0 ca0 b0 m0 cb0 c a n ca r b ((w.alloc (.cells #[.int .i64 off, .slice a0 n0 ca0, .slice b0 m0 cb0] 24)).alloc (.cells #[.int .i64 c, .slice a n ca, .int .i64 r, .int .i64 b] 27)) hS0.1 hR0.1 hS.1
  rw [decide_eq_true hl, decide_eq_true hl2] at hli
  have hd := checkE_ok hz
  have HCK := Lib.hid (fun W (hb : Below w.heap.size w W) => rcheck10 off a0 n0 ca0 F T b0 m0 cb0 G U W (hS0.kept hb) (hR0.kept hb))
  have HGD := Lib.hid (fun W (hb : Below w.heap.size w W) => rgood_any c a n ca r b B P W (hS.kept hb))
  have HNW := Lib.hid (fun W (hb : Below w.heap.size w W) => clock_in off a0 n0 ca0 b0 m0 cb0 F T G U W (hS0.kept hb) (hR0.kept hb) hz)
  have HFI := Lib.hid (fun W L (hb : Below w.heap.size w W) (hC : Ck L (⟨F, T, n0, G, U, m0, off⟩ : Cal) W) => first_any hC hd c a n ca r b B P now (hS.kept hb) hg)
  have HST := Lib.hid (fun W L (lv fr bb d tt : Int) (b1 : bb ≤ 9223372036854775807) (hC : Ck L (⟨F, T, n0, G, U, m0, off⟩ : Cal) W) => stand_any hC hd lv fr bb d tt b1)
  have HGO := Lib.hid (fun W L (lv fr bb d tt : Int) (b1 : bb ≤ 9223372036854775807) (hC : Ck L (⟨F, T, n0, G, U, m0, off⟩ : Cal) W) => go_any hC hd lv fr bb d tt b1)
  obtain ⟨_, _, n1, n6, hlv⟩ := goodC_n hg
  obtain ⟨p1, p2, _, _⟩ := lvs_at hlv (show 0 < n by omega)
  rw [hz] at HCK
  rw [hg] at HGD
  obtain ⟨f0, hf0⟩ : ∃ f, B 0 = f := ⟨_, rfl⟩
  rw [hf0] at HFI p1 p2
  obtain ⟨D, eD⟩ : ∃ D : Cal, (⟨F, T, n0, G, U, m0, off⟩ : Cal) = D := ⟨_, rfl⟩
  rw [eD] at HNW HFI HST HGO
  have y1 : decide (u < 0) = false := decide_eq_false u0
  have y2 : decide (1125899906842624 < u) = false := decide_eq_false u1
  clear hz eD hd hg hlv hf0 n1 n6
  have e0_0 := cells_heap HE0_0.out 0
  have e0_1 := cells_heap HE0_0.out 1
  have e0_2 := cells_heap HE0_0.out 2
  obtain ⟨e1_0, e1_1, e1_2, e1_3, -⟩ := four_at HE1_0.out
  clear B2 sz s0 s1
  clear hS0 hR0 hS hl hl2
  unfold conV at *
  unfold calV at *
  go_enter Try.func6, Try.ntmps6
  go_wp2_with fail
  generalize ((w.alloc (.cells #[.int .i64 off, .slice a0 n0 ca0, .slice b0 m0 cb0] 24)).alloc (.cells #[.int .i64 c, .slice a n ca, .int .i64 r, .int .i64 b] 27)) = W0 at HB0 HZ0 HE0_0 HE1_0 e0_0 e0_1 e0_2 e1_0 e1_1 e1_2 e1_3 hli ⊢
  refine (hli).mono ?_
  rintro e W1 ⟨rfl, hb⟩
  have HB1 := Lib.hid (HB0.out.trans (hb.mono HB0.out.size))
  have HE0_1 := Lib.hid (ex_below HE0_0.out hb)
  have HE1_1 := Lib.hid (ex_below HE1_0.out hb)
  clear e0_0 e0_1 e0_2 e1_0 e1_1 e1_2 e1_3 hb
  have e0_0 := cells_heap HE0_1.out 0
  have e0_1 := cells_heap HE0_1.out 1
  have e0_2 := cells_heap HE0_1.out 2
  obtain ⟨e1_0, e1_1, e1_2, e1_3, -⟩ := four_at HE1_1.out
  go_wp2_with fail
  refine (HCK.out W1 HB1.out).mono ?_
  rintro e W2 ⟨rfl, hb⟩
  have HB2 := Lib.hid (HB1.out.trans (hb.mono HB1.out.size))
  have HE0_2 := Lib.hid (ex_below HE0_1.out hb)
  have HE1_2 := Lib.hid (ex_below HE1_1.out hb)
  clear e0_0 e0_1 e0_2 e1_0 e1_1 e1_2 e1_3 hb
  have e0_0 := cells_heap HE0_2.out 0
  have e0_1 := cells_heap HE0_2.out 1
  have e0_2 := cells_heap HE0_2.out 2
  obtain ⟨e1_0, e1_1, e1_2, e1_3, -⟩ := four_at HE1_2.out
  go_wp2_with fail
  refine (HGD.out W2 HB2.out).mono ?_
  rintro e W3 ⟨rfl, hb⟩
  have HB3 := Lib.hid (HB2.out.trans (hb.mono HB2.out.size))
  have HE0_3 := Lib.hid (ex_below HE0_2.out hb)
  have HE1_3 := Lib.hid (ex_below HE1_2.out hb)
  clear e0_0 e0_1 e0_2 e1_0 e1_1 e1_2 e1_3 hb
  have e0_0 := cells_heap HE0_3.out 0
  have e0_1 := cells_heap HE0_3.out 1
  have e0_2 := cells_heap HE0_3.out 2
  obtain ⟨e1_0, e1_1, e1_2, e1_3, -⟩ := four_at HE1_3.out
  go_wp2_with fail
  refine (HNW.out W3 HB3.out).mono ?_
  rintro e W4 ⟨L, rfl, hC, hle, hb⟩
  have HB4 := Lib.hid (HB3.out.trans (hb.mono HB3.out.size))
  have HE0_4 := Lib.hid (ex_below HE0_3.out hb)
  have HE1_4 := Lib.hid (ex_below HE1_3.out hb)
  have HN0 : Hid (w.heap.size ≠ L.C) := Lib.hid (by have := ex_lt HE0_3.out; omega)
  have HN1 : Hid (w.heap.size + 1 ≠ L.C) := Lib.hid (by have := ex_lt HE1_3.out; omega)
  have HC4 := Lib.hid hC
  have HM4 := Lib.hid hC.pl.lt
  have HL : Hid (w.heap.size ≤ L.C) := Lib.hid (Nat.le_trans HB3.out.size hle)
  clear e0_0 e0_1 e0_2 e1_0 e1_1 e1_2 e1_3 hb hC hle
  have e0_0 := cells_heap HE0_4.out 0
  have e0_1 := cells_heap HE0_4.out 1
  have e0_2 := cells_heap HE0_4.out 2
  obtain ⟨e1_0, e1_1, e1_2, e1_3, -⟩ := four_at HE1_4.out
  go_wp2_with fail
  refine (HFI.out W4 L HB4.out HC4.out).mono ?_
  rintro e W5 ⟨l, f, cc, d, er, rfl, hR, hC, ho⟩
  have HB5 := Lib.hid (HB4.out.trans (ho.toBelow HB4.out.size (fun k hk => hk ▸ HL.out)))
  have HE0_5 := Lib.hid (ex_only HE0_4.out ho HN0.out)
  have HE1_5 := Lib.hid (ex_only HE1_4.out ho HN1.out)
  have HM5 := Lib.hid (Nat.lt_of_lt_of_le HM4.out ho.size)
  have HC5 := Lib.hid hC
  unfold stepV at *
  have hor : (er != 0) = true ∨ ((er != 0) = false ∧ (decide (t < now) = true ∨ (decide (t < now) = false ∧ decide (d ≤ t) = true))) ∨ (l = 0 ∧ f = now ∧ cc = f0 ∧ er = 0 ∧ Hid (D.Dues now f0 d 0) ∧ Hid (0 < D.n) ∧ now ≤ t ∧ t < d) := by
    by_cases he : er = 0
    · right
      by_cases h1 : t < now
      · exact .inl ⟨by simpa using he, .inl (decide_eq_true h1)⟩
      · by_cases h2 : d ≤ t
        · exact .inl ⟨by simpa using he, .inr ⟨decide_eq_false h1, decide_eq_true h2⟩⟩
        · right
          have hn := hR.n_pos (by omega) he
          obtain ⟨v, e', hv, h4⟩ := hR
          rcases h4 with ⟨rfl, h5, h6, h7, h8, h9⟩ | ⟨h4, _, _, _, _, h5⟩
          · subst h8; exact ⟨h5, h6, h7, h9, hv, hn, by omega, by omega⟩
          · exact absurd (h5.symm.trans he) h4
    · exact .inl (by simpa using he)
  clear hR
  clear e0_0 e0_1 e0_2 e1_0 e1_1 e1_2 e1_3 ho hC
  have e0_0 := cells_heap HE0_5.out 0
  have e0_1 := cells_heap HE0_5.out 1
  have e0_2 := cells_heap HE0_5.out 2
  obtain ⟨e1_0, e1_1, e1_2, e1_3, -⟩ := four_at HE1_5.out
  rcases hor with h1 | ⟨h1, h2 | ⟨h2, h3⟩⟩ | ⟨rfl, rfl, rfl, rfl, HD, HNP, t0, t1⟩
  · obtain ⟨bx, bn, -⟩ := box1 W5 #[.int .i64 l, .int .i64 f, .int .i64 cc, .int .i64 d] 29
    have HB6 := Lib.hid (HB5.out.trans (bx.mono HB5.out.size))
    have HE0_6 := Lib.hid (ex_below HE0_5.out bx)
    have HE1_6 := Lib.hid (ex_below HE1_5.out bx)
    have HE2_6 := Lib.hid bn
    have HN2 : Hid (W5.heap.size ≠ L.C) := Lib.hid (by have := HM5.out; omega)
    have HM6 := Lib.hid (Nat.lt_of_lt_of_le HM5.out bx.size)
    have HC6 := Lib.hid (HC5.out.kept bx)
    clear e0_0 e0_1 e0_2 e1_0 e1_1 e1_2 e1_3 bx bn
    have e0_0 := cells_heap HE0_6.out 0
    have e0_1 := cells_heap HE0_6.out 1
    have e0_2 := cells_heap HE0_6.out 2
    obtain ⟨e1_0, e1_1, e1_2, e1_3, -⟩ := four_at HE1_6.out
    obtain ⟨e2_0, e2_1, e2_2, e2_3, -⟩ := four_at HE2_6.out
    go_wp2_with fail
    generalize W5.alloc (.cells #[.int .i64 l, .int .i64 f, .int .i64 cc, .int .i64 d] 29) = W6 at HB6 HE0_6 HE1_6 HE2_6 HC6 HM6 e0_0 e0_1 e0_2 e1_0 e1_1 e1_2 e1_3 e2_0 e2_1 e2_2 e2_3 ⊢
    go_wp2_with fail
    refine (lives15 W6).mono ?_
    rintro e wl ⟨rfl, hb⟩
    have HBL := Lib.hid (HB6.out.trans (hb.mono HB6.out.size))
    clear e0_0 e0_1 e0_2 e1_0 e1_1 e1_2 e1_3 e2_0 e2_1 e2_2 e2_3 hb
    go_wp2_with fail
    go_ret
    exact ⟨rfl, HBL.out⟩
  · obtain ⟨bx, bn, -⟩ := box1 W5 #[.int .i64 l, .int .i64 f, .int .i64 cc, .int .i64 d] 29
    have HB6 := Lib.hid (HB5.out.trans (bx.mono HB5.out.size))
    have HE0_6 := Lib.hid (ex_below HE0_5.out bx)
    have HE1_6 := Lib.hid (ex_below HE1_5.out bx)
    have HE2_6 := Lib.hid bn
    have HN2 : Hid (W5.heap.size ≠ L.C) := Lib.hid (by have := HM5.out; omega)
    have HM6 := Lib.hid (Nat.lt_of_lt_of_le HM5.out bx.size)
    have HC6 := Lib.hid (HC5.out.kept bx)
    clear e0_0 e0_1 e0_2 e1_0 e1_1 e1_2 e1_3 bx bn
    have e0_0 := cells_heap HE0_6.out 0
    have e0_1 := cells_heap HE0_6.out 1
    have e0_2 := cells_heap HE0_6.out 2
    obtain ⟨e1_0, e1_1, e1_2, e1_3, -⟩ := four_at HE1_6.out
    obtain ⟨e2_0, e2_1, e2_2, e2_3, -⟩ := four_at HE2_6.out
    go_wp2_with fail
    generalize W5.alloc (.cells #[.int .i64 l, .int .i64 f, .int .i64 cc, .int .i64 d] 29) = W6 at HB6 HE0_6 HE1_6 HE2_6 HC6 HM6 e0_0 e0_1 e0_2 e1_0 e1_1 e1_2 e1_3 e2_0 e2_1 e2_2 e2_3 ⊢
    go_wp2_with fail
    refine (lives15 W6).mono ?_
    rintro e wl ⟨rfl, hb⟩
    have HBL := Lib.hid (HB6.out.trans (hb.mono HB6.out.size))
    clear e0_0 e0_1 e0_2 e1_0 e1_1 e1_2 e1_3 e2_0 e2_1 e2_2 e2_3 hb
    go_wp2_with fail
    go_ret
    exact ⟨rfl, HBL.out⟩
  · obtain ⟨bx, bn, -⟩ := box1 W5 #[.int .i64 l, .int .i64 f, .int .i64 cc, .int .i64 d] 29
    have HB6 := Lib.hid (HB5.out.trans (bx.mono HB5.out.size))
    have HE0_6 := Lib.hid (ex_below HE0_5.out bx)
    have HE1_6 := Lib.hid (ex_below HE1_5.out bx)
    have HE2_6 := Lib.hid bn
    have HN2 : Hid (W5.heap.size ≠ L.C) := Lib.hid (by have := HM5.out; omega)
    have HM6 := Lib.hid (Nat.lt_of_lt_of_le HM5.out bx.size)
    have HC6 := Lib.hid (HC5.out.kept bx)
    clear e0_0 e0_1 e0_2 e1_0 e1_1 e1_2 e1_3 bx bn
    have e0_0 := cells_heap HE0_6.out 0
    have e0_1 := cells_heap HE0_6.out 1
    have e0_2 := cells_heap HE0_6.out 2
    obtain ⟨e1_0, e1_1, e1_2, e1_3, -⟩ := four_at HE1_6.out
    obtain ⟨e2_0, e2_1, e2_2, e2_3, -⟩ := four_at HE2_6.out
    go_wp2_with fail
    generalize W5.alloc (.cells #[.int .i64 l, .int .i64 f, .int .i64 cc, .int .i64 d] 29) = W6 at HB6 HE0_6 HE1_6 HE2_6 HC6 HM6 e0_0 e0_1 e0_2 e1_0 e1_1 e1_2 e1_3 e2_0 e2_1 e2_2 e2_3 ⊢
    go_wp2_with fail
    refine (lives15 W6).mono ?_
    rintro e wl ⟨rfl, hb⟩
    have HBL := Lib.hid (HB6.out.trans (hb.mono HB6.out.size))
    clear e0_0 e0_1 e0_2 e1_0 e1_1 e1_2 e1_3 e2_0 e2_1 e2_2 e2_3 hb
    go_wp2_with fail
    go_ret
    exact ⟨rfl, HBL.out⟩
  · have d1 : decide (t < f) = false := decide_eq_false (by omega)
    have d2 : decide (d ≤ t) = false := decide_eq_false (by omega)
    obtain ⟨bx, bn, -⟩ := box1 W5 #[.int .i64 0, .int .i64 f, .int .i64 cc, .int .i64 d] 29
    have HB6 := Lib.hid (HB5.out.trans (bx.mono HB5.out.size))
    have HE0_6 := Lib.hid (ex_below HE0_5.out bx)
    have HE1_6 := Lib.hid (ex_below HE1_5.out bx)
    have HE2_6 := Lib.hid bn
    have HN2 : Hid (W5.heap.size ≠ L.C) := Lib.hid (by have := HM5.out; omega)
    have HM6 := Lib.hid (Nat.lt_of_lt_of_le HM5.out bx.size)
    have HC6 := Lib.hid (HC5.out.kept bx)
    clear e0_0 e0_1 e0_2 e1_0 e1_1 e1_2 e1_3 bx bn
    have e0_0 := cells_heap HE0_6.out 0
    have e0_1 := cells_heap HE0_6.out 1
    have e0_2 := cells_heap HE0_6.out 2
    obtain ⟨e1_0, e1_1, e1_2, e1_3, -⟩ := four_at HE1_6.out
    obtain ⟨e2_0, e2_1, e2_2, e2_3, -⟩ := four_at HE2_6.out
    go_wp2_with fail
    generalize W5.alloc (.cells #[.int .i64 0, .int .i64 f, .int .i64 cc, .int .i64 d] 29) = W6 at HB6 HE0_6 HE1_6 HE2_6 HC6 HM6 e0_0 e0_1 e0_2 e1_0 e1_1 e1_2 e1_3 e2_0 e2_1 e2_2 e2_3 ⊢
    go_wp2_with fail
    refine (HST.out W6 L 0 f cc d t (by omega) HC6.out).mono ?_
    rintro e W7 ⟨l, ff, q, x, er, rfl, hR, hC, ho⟩
    have HB7 := Lib.hid (HB6.out.trans (ho.toBelow HB6.out.size (fun k hk => hk ▸ HL.out)))
    have HE0_7 := Lib.hid (ex_only HE0_6.out ho HN0.out)
    have HE1_7 := Lib.hid (ex_only HE1_6.out ho HN1.out)
    have HE2_7 := Lib.hid (ex_only HE2_6.out ho HN2.out)
    have HM7 := Lib.hid (Nat.lt_of_lt_of_le HM6.out ho.size)
    have HC7 := Lib.hid hC
    replace HC7 := Lib.hid (HC7.out (.inl HNP.out))
    obtain ⟨rfl, rfl, rfl, rfl, hq⟩ : l = 0 ∧ ff = t ∧ x = 0 ∧ er = 0 ∧ Hid (1 ≤ q ∧ q ≤ cc ∧ d ≠ 0 ∧ (∀ x e, D.Dues t q x e → x = d ∧ e = 0) ∧ ∀ u x, t ≤ u → D.Dues u q x 0 → d ≤ x) := by
      rcases hR with ⟨h, _⟩ | ⟨_, h, _⟩ | ⟨_, _, v, e', h3, h4⟩
      · have := Cal.due_pos HD.out (by omega); omega
      · omega
      · obtain ⟨rfl, k2, k3, k4, k5, k6⟩ := Cal.stops HD.out (by omega) t0 t1 h3
        rcases h4 with ⟨_, g1, g2, g3, g4, g5⟩ | ⟨h, _⟩
        · subst g3; exact ⟨g1, g2, g4, g5, ⟨k2, k3, k4, k5, k6⟩⟩
        · exact absurd rfl h
    have hq1 := hq.out.1
    have hq2 := hq.out.2.1
    clear hR
    unfold stepV at *
    clear e0_0 e0_1 e0_2 e1_0 e1_1 e1_2 e1_3 e2_0 e2_1 e2_2 e2_3 ho hC
    have e0_0 := cells_heap HE0_7.out 0
    have e0_1 := cells_heap HE0_7.out 1
    have e0_2 := cells_heap HE0_7.out 2
    obtain ⟨e1_0, e1_1, e1_2, e1_3, -⟩ := four_at HE1_7.out
    obtain ⟨e2_0, e2_1, e2_2, e2_3, -⟩ := four_at HE2_7.out
    obtain ⟨bx, bn, -⟩ := box1 W7 #[.int .i64 0, .int .i64 ff, .int .i64 q, .int .i64 0] 29
    have HB8 := Lib.hid (HB7.out.trans (bx.mono HB7.out.size))
    have HE0_8 := Lib.hid (ex_below HE0_7.out bx)
    have HE1_8 := Lib.hid (ex_below HE1_7.out bx)
    have HE2_8 := Lib.hid (ex_below HE2_7.out bx)
    have HE3_8 := Lib.hid bn
    have HN3 : Hid (W7.heap.size ≠ L.C) := Lib.hid (by have := HM7.out; omega)
    have HM8 := Lib.hid (Nat.lt_of_lt_of_le HM7.out bx.size)
    have HC8 := Lib.hid (HC7.out.kept bx)
    clear e0_0 e0_1 e0_2 e1_0 e1_1 e1_2 e1_3 e2_0 e2_1 e2_2 e2_3 bx bn
    have e0_0 := cells_heap HE0_8.out 0
    have e0_1 := cells_heap HE0_8.out 1
    have e0_2 := cells_heap HE0_8.out 2
    obtain ⟨e1_0, e1_1, e1_2, e1_3, -⟩ := four_at HE1_8.out
    obtain ⟨e2_0, e2_1, e2_2, e2_3, -⟩ := four_at HE2_8.out
    obtain ⟨e3_0, e3_1, e3_2, e3_3, -⟩ := four_at HE3_8.out
    go_wp2_with fail
    generalize W7.alloc (.cells #[.int .i64 0, .int .i64 ff, .int .i64 q, .int .i64 0] 29) = W8 at HB8 HE0_8 HE1_8 HE2_8 HE3_8 HC8 HM8 e0_0 e0_1 e0_2 e1_0 e1_1 e1_2 e1_3 e2_0 e2_1 e2_2 e2_3 e3_0 e3_1 e3_2 e3_3 ⊢
    go_wp2_with fail
    refine (HGO.out W8 L 0 ff q 0 ff (by omega) HC8.out).mono ?_
    rintro e W9 ⟨l, fg, qg, xg, er, rfl, hR, hC, ho⟩
    have HB9 := Lib.hid (HB8.out.trans (ho.toBelow HB8.out.size (fun k hk => hk ▸ HL.out)))
    have HE0_9 := Lib.hid (ex_only HE0_8.out ho HN0.out)
    have HE1_9 := Lib.hid (ex_only HE1_8.out ho HN1.out)
    have HE2_9 := Lib.hid (ex_only HE2_8.out ho HN2.out)
    have HE3_9 := Lib.hid (ex_only HE3_8.out ho HN3.out)
    have HM9 := Lib.hid (Nat.lt_of_lt_of_le HM8.out ho.size)
    have HC9 := Lib.hid hC
    obtain ⟨rfl, rfl⟩ : xg = d ∧ er = 0 := by
      rcases hR with ⟨h, _⟩ | ⟨_, h, _⟩ | ⟨_, _, v, e', h3, h4⟩
      · omega
      · omega
      · obtain ⟨rfl, rfl⟩ := hq.out.2.2.2.1 _ _ h3
        rcases h4 with ⟨_, g1, g2, g3, g4, g5⟩ | ⟨h, _⟩
        · exact ⟨g4, g5⟩
        · exact absurd rfl h
    have d3 : decide (q < 1) = false := decide_eq_false (by omega)
    have hlt : decide (u < ff) = true ∨ (decide (u < ff) = false ∧ ff ≤ u) := by
      by_cases h : u < ff
      · exact .inl (decide_eq_true h)
      · exact .inr ⟨decide_eq_false h, by omega⟩
    clear hR
    unfold stepV at *
    clear e0_0 e0_1 e0_2 e1_0 e1_1 e1_2 e1_3 e2_0 e2_1 e2_2 e2_3 e3_0 e3_1 e3_2 e3_3 ho hC
    have e0_0 := cells_heap HE0_9.out 0
    have e0_1 := cells_heap HE0_9.out 1
    have e0_2 := cells_heap HE0_9.out 2
    obtain ⟨e1_0, e1_1, e1_2, e1_3, -⟩ := four_at HE1_9.out
    obtain ⟨e2_0, e2_1, e2_2, e2_3, -⟩ := four_at HE2_9.out
    obtain ⟨e3_0, e3_1, e3_2, e3_3, -⟩ := four_at HE3_9.out
    rcases hlt with d4 | ⟨d4, hu⟩
    · obtain ⟨bx, bn, -⟩ := box1 W9 #[.int .i64 l, .int .i64 fg, .int .i64 qg, .int .i64 xg] 29
      have HB10 := Lib.hid (HB9.out.trans (bx.mono HB9.out.size))
      have HE0_10 := Lib.hid (ex_below HE0_9.out bx)
      have HE1_10 := Lib.hid (ex_below HE1_9.out bx)
      have HE2_10 := Lib.hid (ex_below HE2_9.out bx)
      have HE3_10 := Lib.hid (ex_below HE3_9.out bx)
      have HE4_10 := Lib.hid bn
      have HN4 : Hid (W9.heap.size ≠ L.C) := Lib.hid (by have := HM9.out; omega)
      have HM10 := Lib.hid (Nat.lt_of_lt_of_le HM9.out bx.size)
      have HC10 := Lib.hid (HC9.out.kept bx)
      clear e0_0 e0_1 e0_2 e1_0 e1_1 e1_2 e1_3 e2_0 e2_1 e2_2 e2_3 e3_0 e3_1 e3_2 e3_3 bx bn
      have e0_0 := cells_heap HE0_10.out 0
      have e0_1 := cells_heap HE0_10.out 1
      have e0_2 := cells_heap HE0_10.out 2
      obtain ⟨e1_0, e1_1, e1_2, e1_3, -⟩ := four_at HE1_10.out
      obtain ⟨e2_0, e2_1, e2_2, e2_3, -⟩ := four_at HE2_10.out
      obtain ⟨e3_0, e3_1, e3_2, e3_3, -⟩ := four_at HE3_10.out
      obtain ⟨e4_0, e4_1, e4_2, e4_3, -⟩ := four_at HE4_10.out
      go_wp2_with fail
      generalize W9.alloc (.cells #[.int .i64 l, .int .i64 fg, .int .i64 qg, .int .i64 xg] 29) = W10 at HB10 HE0_10 HE1_10 HE2_10 HE3_10 HE4_10 HC10 HM10 e0_0 e0_1 e0_2 e1_0 e1_1 e1_2 e1_3 e2_0 e2_1 e2_2 e2_3 e3_0 e3_1 e3_2 e3_3 e4_0 e4_1 e4_2 e4_3 ⊢
      go_wp2_with fail
      refine (lives15 W10).mono ?_
      rintro e wl ⟨rfl, hb⟩
      have HBL := Lib.hid (HB10.out.trans (hb.mono HB10.out.size))
      clear e0_0 e0_1 e0_2 e1_0 e1_1 e1_2 e1_3 e2_0 e2_1 e2_2 e2_3 e3_0 e3_1 e3_2 e3_3 e4_0 e4_1 e4_2 e4_3 hb
      go_wp2_with fail
      go_ret
      exact ⟨rfl, HBL.out⟩
    · obtain ⟨bx, bn, -⟩ := box1 W9 #[.int .i64 l, .int .i64 fg, .int .i64 qg, .int .i64 xg] 29
      have HB10 := Lib.hid (HB9.out.trans (bx.mono HB9.out.size))
      have HE0_10 := Lib.hid (ex_below HE0_9.out bx)
      have HE1_10 := Lib.hid (ex_below HE1_9.out bx)
      have HE2_10 := Lib.hid (ex_below HE2_9.out bx)
      have HE3_10 := Lib.hid (ex_below HE3_9.out bx)
      have HE4_10 := Lib.hid bn
      have HN4 : Hid (W9.heap.size ≠ L.C) := Lib.hid (by have := HM9.out; omega)
      have HM10 := Lib.hid (Nat.lt_of_lt_of_le HM9.out bx.size)
      have HC10 := Lib.hid (HC9.out.kept bx)
      clear e0_0 e0_1 e0_2 e1_0 e1_1 e1_2 e1_3 e2_0 e2_1 e2_2 e2_3 e3_0 e3_1 e3_2 e3_3 bx bn
      have e0_0 := cells_heap HE0_10.out 0
      have e0_1 := cells_heap HE0_10.out 1
      have e0_2 := cells_heap HE0_10.out 2
      obtain ⟨e1_0, e1_1, e1_2, e1_3, -⟩ := four_at HE1_10.out
      obtain ⟨e2_0, e2_1, e2_2, e2_3, -⟩ := four_at HE2_10.out
      obtain ⟨e3_0, e3_1, e3_2, e3_3, -⟩ := four_at HE3_10.out
      obtain ⟨e4_0, e4_1, e4_2, e4_3, -⟩ := four_at HE4_10.out
      go_wp2_with fail
      generalize W9.alloc (.cells #[.int .i64 l, .int .i64 fg, .int .i64 qg, .int .i64 xg] 29) = W10 at HB10 HE0_10 HE1_10 HE2_10 HE3_10 HE4_10 HC10 HM10 e0_0 e0_1 e0_2 e1_0 e1_1 e1_2 e1_3 e2_0 e2_1 e2_2 e2_3 e3_0 e3_1 e3_2 e3_3 e4_0 e4_1 e4_2 e4_3 ⊢
      go_wp2_with fail
      refine (HGO.out W10 L 0 ff q 0 u (by omega) HC10.out).mono ?_
      rintro e W11 ⟨lh, fh, qh, xh, eh, rfl, hR, hC, ho⟩
      have HB11 := Lib.hid (HB10.out.trans (ho.toBelow HB10.out.size (fun k hk => hk ▸ HL.out)))
      have HE0_11 := Lib.hid (ex_only HE0_10.out ho HN0.out)
      have HE1_11 := Lib.hid (ex_only HE1_10.out ho HN1.out)
      have HE2_11 := Lib.hid (ex_only HE2_10.out ho HN2.out)
      have HE3_11 := Lib.hid (ex_only HE3_10.out ho HN3.out)
      have HE4_11 := Lib.hid (ex_only HE4_10.out ho HN4.out)
      have HM11 := Lib.hid (Nat.lt_of_lt_of_le HM10.out ho.size)
      have HC11 := Lib.hid hC
      have hx : (lh = 0 ∧ fh = 0 ∧ qh = 0 ∧ xh = 0 ∧ (eh != 0) = true ∧ (eh == 0) = false) ∨ ((eh != 0) = false ∧ (eh == 0) = true ∧ decide (xg ≤ xh) = true) := by
        rcases hR with ⟨h, _⟩ | ⟨_, h, _⟩ | ⟨_, _, v, e', h3, h4⟩
        · omega
        · omega
        · rcases h4 with ⟨rfl, g1, g2, g3, g4, g5⟩ | ⟨h, g1, g2, g3, g4, g5⟩
          · have := hq.out.2.2.2.2 u v hu h3
            exact .inr ⟨by simpa using g5, by simpa using g5, decide_eq_true (by omega)⟩
          · exact .inl ⟨g1, g2, g3, g4, by rw [g5]; simpa using h, by rw [g5]; simpa using h⟩
      have q2 := fun (w : World) => eql_step 0 0 0 0 w
      have g2 := guard_step .eql
      clear hR
      unfold stepV at *
      clear e0_0 e0_1 e0_2 e1_0 e1_1 e1_2 e1_3 e2_0 e2_1 e2_2 e2_3 e3_0 e3_1 e3_2 e3_3 e4_0 e4_1 e4_2 e4_3 ho hC
      have e0_0 := cells_heap HE0_11.out 0
      have e0_1 := cells_heap HE0_11.out 1
      have e0_2 := cells_heap HE0_11.out 2
      obtain ⟨e1_0, e1_1, e1_2, e1_3, -⟩ := four_at HE1_11.out
      obtain ⟨e2_0, e2_1, e2_2, e2_3, -⟩ := four_at HE2_11.out
      obtain ⟨e3_0, e3_1, e3_2, e3_3, -⟩ := four_at HE3_11.out
      obtain ⟨e4_0, e4_1, e4_2, e4_3, -⟩ := four_at HE4_11.out
      rcases hx with ⟨rfl, rfl, rfl, rfl, d5, d6⟩ | ⟨d5, d6, d7⟩
      · obtain ⟨bx, bn, -⟩ := box1 W11 #[.int .i64 0, .int .i64 0, .int .i64 0, .int .i64 0] 29
        have HB12 := Lib.hid (HB11.out.trans (bx.mono HB11.out.size))
        have HE0_12 := Lib.hid (ex_below HE0_11.out bx)
        have HE1_12 := Lib.hid (ex_below HE1_11.out bx)
        have HE2_12 := Lib.hid (ex_below HE2_11.out bx)
        have HE3_12 := Lib.hid (ex_below HE3_11.out bx)
        have HE4_12 := Lib.hid (ex_below HE4_11.out bx)
        have HE5_12 := Lib.hid bn
        have HN5 : Hid (W11.heap.size ≠ L.C) := Lib.hid (by have := HM11.out; omega)
        have HM12 := Lib.hid (Nat.lt_of_lt_of_le HM11.out bx.size)
        have HC12 := Lib.hid (HC11.out.kept bx)
        clear e0_0 e0_1 e0_2 e1_0 e1_1 e1_2 e1_3 e2_0 e2_1 e2_2 e2_3 e3_0 e3_1 e3_2 e3_3 e4_0 e4_1 e4_2 e4_3 bx bn
        have e0_0 := cells_heap HE0_12.out 0
        have e0_1 := cells_heap HE0_12.out 1
        have e0_2 := cells_heap HE0_12.out 2
        obtain ⟨e1_0, e1_1, e1_2, e1_3, -⟩ := four_at HE1_12.out
        obtain ⟨e2_0, e2_1, e2_2, e2_3, -⟩ := four_at HE2_12.out
        obtain ⟨e3_0, e3_1, e3_2, e3_3, -⟩ := four_at HE3_12.out
        obtain ⟨e4_0, e4_1, e4_2, e4_3, -⟩ := four_at HE4_12.out
        obtain ⟨e5_0, e5_1, e5_2, e5_3, -⟩ := four_at HE5_12.out
        go_wp2_with fail
        generalize W11.alloc (.cells #[.int .i64 0, .int .i64 0, .int .i64 0, .int .i64 0] 29) = W12 at HB12 HE0_12 HE1_12 HE2_12 HE3_12 HE4_12 HE5_12 HC12 HM12 e0_0 e0_1 e0_2 e1_0 e1_1 e1_2 e1_3 e2_0 e2_1 e2_2 e2_3 e3_0 e3_1 e3_2 e3_3 e4_0 e4_1 e4_2 e4_3 e5_0 e5_1 e5_2 e5_3 ⊢
        go_wp2_with fail
        refine (lives15 W12).mono ?_
        rintro e wl ⟨rfl, hb⟩
        have HBL := Lib.hid (HB12.out.trans (hb.mono HB12.out.size))
        clear e0_0 e0_1 e0_2 e1_0 e1_1 e1_2 e1_3 e2_0 e2_1 e2_2 e2_3 e3_0 e3_1 e3_2 e3_3 e4_0 e4_1 e4_2 e4_3 e5_0 e5_1 e5_2 e5_3 hb
        go_wp2_with fail
        go_ret
        exact ⟨rfl, HBL.out⟩
      · obtain ⟨bx, bn, -⟩ := box1 W11 #[.int .i64 lh, .int .i64 fh, .int .i64 qh, .int .i64 xh] 29
        have HB12 := Lib.hid (HB11.out.trans (bx.mono HB11.out.size))
        have HE0_12 := Lib.hid (ex_below HE0_11.out bx)
        have HE1_12 := Lib.hid (ex_below HE1_11.out bx)
        have HE2_12 := Lib.hid (ex_below HE2_11.out bx)
        have HE3_12 := Lib.hid (ex_below HE3_11.out bx)
        have HE4_12 := Lib.hid (ex_below HE4_11.out bx)
        have HE5_12 := Lib.hid bn
        have HN5 : Hid (W11.heap.size ≠ L.C) := Lib.hid (by have := HM11.out; omega)
        have HM12 := Lib.hid (Nat.lt_of_lt_of_le HM11.out bx.size)
        have HC12 := Lib.hid (HC11.out.kept bx)
        clear e0_0 e0_1 e0_2 e1_0 e1_1 e1_2 e1_3 e2_0 e2_1 e2_2 e2_3 e3_0 e3_1 e3_2 e3_3 e4_0 e4_1 e4_2 e4_3 bx bn
        have e0_0 := cells_heap HE0_12.out 0
        have e0_1 := cells_heap HE0_12.out 1
        have e0_2 := cells_heap HE0_12.out 2
        obtain ⟨e1_0, e1_1, e1_2, e1_3, -⟩ := four_at HE1_12.out
        obtain ⟨e2_0, e2_1, e2_2, e2_3, -⟩ := four_at HE2_12.out
        obtain ⟨e3_0, e3_1, e3_2, e3_3, -⟩ := four_at HE3_12.out
        obtain ⟨e4_0, e4_1, e4_2, e4_3, -⟩ := four_at HE4_12.out
        obtain ⟨e5_0, e5_1, e5_2, e5_3, -⟩ := four_at HE5_12.out
        go_wp2_with fail
        generalize W11.alloc (.cells #[.int .i64 lh, .int .i64 fh, .int .i64 qh, .int .i64 xh] 29) = W12 at HB12 HE0_12 HE1_12 HE2_12 HE3_12 HE4_12 HE5_12 HC12 HM12 e0_0 e0_1 e0_2 e1_0 e1_1 e1_2 e1_3 e2_0 e2_1 e2_2 e2_3 e3_0 e3_1 e3_2 e3_3 e4_0 e4_1 e4_2 e4_3 e5_0 e5_1 e5_2 e5_3 ⊢
        go_wp2_with fail
        refine (lives15 W12).mono ?_
        rintro e wl ⟨rfl, hb⟩
        have HBL := Lib.hid (HB12.out.trans (hb.mono HB12.out.size))
        clear e0_0 e0_1 e0_2 e1_0 e1_1 e1_2 e1_3 e2_0 e2_1 e2_2 e2_3 e3_0 e3_1 e3_2 e3_3 e4_0 e4_1 e4_2 e4_3 e5_0 e5_1 e5_2 e5_3 hb
        go_wp2_with fail
        go_ret
        exact ⟨rfl, HBL.out⟩
theorem same_walk (off : Int) (a0 : Option Addr) (n0 ca0 : Nat) (b0 : Option Addr) (m0 cb0 : Nat) (F T G U : Nat → Int) (c : Int) (a : Option Addr) (n ca : Nat) (r b : Int) (B P : Nat → Int) (now t u : Int) (w : World) (hS0 : Sps w a0 n0 F T) (hR0 : Sps w b0 m0 G U) (hS : Sps w a n B P) :
    Calls Try.prog 6 #[calV off a0 n0 ca0 b0 m0 cb0, conV c a n ca r b, .int .i64 now, .int .i64 t, .int .i64 u] w fun e w' => e = .returned (.bool true) ∧ Below w.heap.size w w' := by
  by_cases hz : ¬ ((n0 ≤ 60 ∧ m0 ≤ 60) ∧ n ≤ 60) ∨ checkE off F T n0 G U m0 ≠ 0 ∨ goodC c n r b B P = false ∨ u < 0 ∨ 1125899906842624 < u
  · exact same_skip off a0 n0 ca0 b0 m0 cb0 F T G U c a n ca r b B P now t u w hS0 hR0 hS hz
  · simp only [not_or, Decidable.not_not] at hz
    exact same_ok off a0 n0 ca0 b0 m0 cb0 F T G U c a n ca r b B P now t u w hS0 hR0 hS hz.1.1 hz.1.2 hz.2.1 (by simpa using hz.2.2.1) hz.2.2.2.1 hz.2.2.2.2
end Go.Proofs.Ythnnbmofpmedhaa

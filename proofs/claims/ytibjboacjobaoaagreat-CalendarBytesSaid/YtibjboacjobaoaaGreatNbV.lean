/- The reference's bytes of rows of spans and of calendars. -/
import Derived.Test.YtibjboacjobaoaaGreatMgBD
import Derived.Laws.OwnMore
import Derived.Deep.RegionHeld
namespace Go.Proofs.YtibjboacjobaoaaGreat
open Go.RowKit
/-- append(bytes of one's own, bytes): as a step of a region. -/
theorem step_append_ob {ops : Array Oper} {o : Oper} {a : Act} {w : World} {K : Act → World → Prop} {Q : Exit → Act → World → Prop} {E : Prop}
    (hgd : o.guard = none) (s x : Operand) (hop : o.op = Op.call { callee := Callee.builtin Builtin.append, args := #[s, x], argTypes := #[25, 25] })
    (base : Nat) (v u : Value) (bs cs : List Nat) (hs : a.eval s = v) (hx : a.eval x = u) (hown : OB w base v bs) (hrb : RB w u cs)
    (hlen : bs.length + cs.length ≤ 140737488351232) (hbase : base ≤ w.heap.size)
    (hK : ∀ v' w', OB w' base v' (bs ++ cs) → w.grownBy w' v.ownBlock → K (a.put o.dst v') w') :
    if Region.wanted o (yielded ops a.tmps) = true then Oper.wp Tryz.prog o a w K Q else E := by
  have hw : Region.wanted o (yielded ops a.tmps) = true := by simp [Region.wanted, hgd]
  rw [if_pos hw]
  obtain ⟨i0, hi, hz0, hz1, hz2⟩ := info_parts info5
  have key : ∃ v' w', (Builtin.append_ #[25, 25] o.type #[v, u]).run Tryz.prog w = .ok v' w' ∧ OB w' base v' (bs ++ cs) ∧ w.grownBy w' v.ownBlock := by
    rcases hrb.2.2 with ⟨rfl, rfl⟩ | ⟨ad, cap, rfl, hc, hm, hcell⟩
    · exact ⟨v, w, run_append_owned_none (P := Tryz.prog) (w := w) base 25 o.type 5 i0 1 Tryz.underlying25 hi v bs.length (cb bs) hown, by simpa using hown, World.grownBy.refl _ _⟩
    · obtain ⟨v', w', h1, h2, h3, _⟩ := run_append_own (P := Tryz.prog) w base 25 o.type 5 i0 (.int .u8 0) 1 1 Tryz.underlying25 hi hz0 hz1 hz2 rfl (by decide) v bs.length (cb bs) hown ad cs.length cap (cb cs) (by simp [cb]) (by
        intro j y hj
        have hlt : j < cs.length := by have := (List.getElem?_eq_some_iff.mp hj).1; rwa [cb_length] at this
        rw [cb_get cs j hlt] at hj
        simp only [Option.some.injEq] at hj
        subst hj
        exact hcell j hlt) (cb_one cs) (by unfold maxLen; omega) (by omega) hbase
      exact ⟨v', w', h1, by unfold OB; rw [List.length_append, cb_append]; exact h2, h3⟩
  obtain ⟨v', w', hrun, h2, h3⟩ := key
  unfold Oper.wp
  simp [execOp, hop, resolve, invoke, builtin, hs, hx, hrun, Result.andThen]
  exact hK v' w' h2 h3
set_option maxRecDepth 100000 in
set_option maxHeartbeats 8000000 in
theorem rrow_w (a : Option Addr) (n ca : Nat) (F T : Nat → Int) (w : World) (hS : Sps w a n F T) (hn : n ≤ 1000) (hnn : NonNeg F T n) :
    Calls Tryz.prog 60 #[.slice a n ca] w (Owned w (rowW F T n)) := by
  have HUP := Lib.hid hS.up
  have HS := Lib.hid hS
  have HNN := Lib.hid hnn
  have e0 : IntKind.u64.wrap (n : Int) = (n : Int) := IntWalk.u64_in _ ⟨by omega, by omega⟩
  have h0 := refnum_any n w (by omega)
  have HN := Lib.hid hn
  clear hS hnn hn
  go_enter Tryz.func60, Tryz.ntmps60
  go_wp2_with fail
  refine h0.mono ?_
  rintro e w1 ⟨v1, rfl, ho1, hb1⟩
  have HO1 : Hid (OB w1 w.heap.size v1 (num 0 n ++ pW (pairs F T 0))) := Lib.hid (by simpa [pairs, pW] using ho1)
  have HB1 := Lib.hid hb1
  clear h0 ho1 hb1
  go_wp2_with fail
  go_loopg [3, 4] n (fun kx s3 s4 wr => ∃ (k : Nat), s4 = .int .i64 k ∧ k ≤ n ∧ n - k ≤ kx ∧ Hid (OB wr w.heap.size s3 (num 0 n ++ pW (pairs F T k))) ∧ Hid (Below w.heap.size w wr))
  case atStart => exact ⟨0, rfl, by omega, by omega, HO1, HB1⟩
  case round =>
    obtain ⟨k, rfl, hk, hkx, HO, HB⟩ := hrel
    by_cases hlt : k < n
    · have hltz : (k : Int) < (n : Int) := by omega
      have hk0 : (0 : Int) ≤ (k : Int) := by omega
      obtain ⟨ab, ao, rfl, hal, c0, c1, x1, x2, x3, x4⟩ := HS.out.at HB.out k hlt
      obtain ⟨p0, p1⟩ := HNN.out k hlt
      obtain ⟨f, hf⟩ : ∃ f : Nat, F k = (f : Int) := ⟨(F k).toNat, by omega⟩
      obtain ⟨t, ht⟩ : ∃ t : Nat, T k = (t : Int) := ⟨(T k).toNat, by omega⟩
      have HSN := Lib.hid (rowW_snoc F T n k f t hf ht)
      rw [hf] at c0 x1 x2
      rw [ht] at c1 x3 x4
      have ef : IntKind.u64.wrap (f : Int) = (f : Int) := IntWalk.u64_in _ ⟨by omega, by omega⟩
      have et : IntKind.u64.wrap (t : Int) = (t : Int) := IntWalk.u64_in _ ⟨by omega, by omega⟩
      have HLL : Hid ((num 0 n ++ pW (pairs F T k)).length ≤ 100000 ∧ f < 18446744073709551616 ∧ t < 18446744073709551616 ∧ (num 0 f).length ≤ 9 ∧ (num 0 t).length ≤ 9) := Lib.hid (by
        have := rowW_len F T n k HN.out hk HUP.out
        have := HN.out
        exact ⟨by omega, by omega, by omega, num_len9 0 f (by omega), num_len9 0 t (by omega)⟩)
      have HC1 : Hid (wr.cell? ⟨ab, ao + k * 2 + 1, none⟩ = some (.int .i64 (t : Int)) ∧ ab < wr.heap.size ∧ ab < w.heap.size) := Lib.hid ⟨c1, hal, by
        obtain ⟨ab', ao', e, hl', _⟩ := HS.out.2 (by omega)
        injection e with e
        injection e with e1 e2
        omega⟩
      clear p0 p1 hf ht x1 x2 x3 x4 c1
      have hn1 := refnum_any f wr HLL.out.2.1
      go_wp2_with fail
      refine hn1.mono ?_
      rintro e w2 ⟨v2, rfl, ho2, hb2⟩
      have HB2 := Lib.hid (HB.out.trans (hb2.mono HB.out.size))
      have HR2 := Lib.hid (ho2.rb (num_lt' 0 f (by omega) HLL.out.2.1) (by have := HLL.out; omega))
      have HO2 := Lib.hid (HO.out.kept hb2)
      have hC2 := (hb2.cell (p := ⟨ab, ao + k * 2 + 1, none⟩) HC1.out.2.1).trans HC1.out.1
      have HC2 : Hid (w2.cell? ⟨ab, ao + k * 2 + 1, none⟩ = some (.int .i64 (t : Int)) ∧ ab < w2.heap.size) := Lib.hid ⟨hC2, (cell_spot hC2).2⟩
      clear hn1 ho2 hb2 c0 hC2 hal
      go_wp2_with (at_builtin; go_must (refine append_rb rfl (.tmp 15) (.tmp 22) rfl w.heap.size _ _ (num 0 n ++ pW (pairs F T k)) (num 0 f) rfl rfl HO2.out HR2.out (by have := HLL.out; omega) HB2.out.size ?_); intro v3 w3 ho3 hg3; have HB3 := Lib.hid (HO2.out.below hg3 HB2.out HB2.out.size); have HO3 := Lib.hid ho3; have hC3 : w3.cell? ⟨ab, ao + k * 2 + 1, none⟩ = some (.int .i64 (t : Int)) := (hg3.cell HC2.out.1 (show some ab ≠ _ from fun e => by have := (World.ownsRow.lt HO2.out ab e.symm).1; have := HC1.out.2.2; omega)); clear ho3 hg3)
      have hn2 := refnum_any t w3 HLL.out.2.2.1
      clear HO2 HR2 HB2 HC2
      go_wp2_with fail
      refine hn2.mono ?_
      rintro e w4 ⟨v4, rfl, ho4, hb4⟩
      have HB4 := Lib.hid (HB3.out.trans (hb4.mono HB3.out.size))
      have HR4 := Lib.hid (ho4.rb (num_lt' 0 t (by omega) HLL.out.2.2.1) (by have := HLL.out; omega))
      have HO4 := Lib.hid (HO3.out.kept hb4)
      clear hn2 ho4 hb4 hC3 HO3 HB3
      go_wp2_with (at_builtin; go_must (refine append_rb rfl (.tmp 24) (.tmp 31) rfl w.heap.size _ _ ((num 0 n ++ pW (pairs F T k)) ++ num 0 f) (num 0 t) rfl rfl HO4.out HR4.out (by have := HLL.out; rw [List.length_append]; omega) HB4.out.size ?_); intro v5 w5 ho5 hg5; have HB5 := Lib.hid (HO4.out.below hg5 HB4.out HB4.out.size); have HO5 : Hid (OB w5 w.heap.size v5 (num 0 n ++ pW (pairs F T (k + 1)))) := Lib.hid (by rw [HSN.out, ← List.append_assoc]; exact ho5); clear ho5 hg5)
      go_roundg (n - (k + 1))
      case measure => omega
      case rel =>
        have hn9 := HN.out
        clear ef et e0
        have hw64 : wrap64 ((k : Int) + 1) = (k : Int) + 1 := wrap_up k (by omega)
        exact ⟨k + 1, by rw [hw64]; rfl, by omega, by omega, HO5, HB5⟩
    · have hltz : ¬ (k : Int) < (n : Int) := by omega
      obtain rfl : k = n := by omega
      go_wp2_with fail
      go_ret
      exact ⟨_, rfl, HO.out, HB.out⟩
set_option maxRecDepth 100000 in
set_option maxHeartbeats 16000000 in
theorem rput10 (off : Int) (a : Option Addr) (n ca : Nat) (a' : Option Addr) (m cb : Nat) (F T G U : Nat → Int) (w : World) (hS : Sps w a n F T) (hR : Sps w a' m G U) (hn : n ≤ 32) (hm : m ≤ 32) (hnn : NonNeg F T n) (hmm : NonNeg G U m) (ho : 0 ≤ off ∧ off ≤ 604800) :
    Calls Tryz.prog 18 #[calV off a n ca a' m cb] w (Owned w (calW off F T n G U m)) := by
  obtain ⟨B1, s0, sz⟩ := box1 w #[.int .i64 off, .slice a n ca, .slice a' m cb] 24
  obtain ⟨q0, q1, q2⟩ := tri_at s0
  have HB1 := Lib.hid B1
  have HROW := Lib.hid (fun W (hb : Below w.heap.size w W) => And.intro (rrow_w a n ca F T W (hS.kept hb) (by omega) hnn) (rrow_w a' m cb G U W (hR.kept hb) (by omega) hmm))
  have HINT := Lib.hid (fun W => refint_any off W (by omega) (by omega))
  have HLEN : Hid ((∀ c ∈ intB off, c < 256) ∧ (intB off).length ≤ 9 ∧ (∀ c ∈ rowW F T n, c < 256) ∧ (rowW F T n).length ≤ 1000 ∧ (∀ c ∈ rowW G U m, c < 256) ∧ (rowW G U m).length ≤ 1000) := Lib.hid ⟨intB_lt off (by omega) (by omega), intB_len9 off (by omega) (by omega), rowW_lt F T n (by omega) hS.up, by have := rowW_len F T n n (by omega) (Nat.le_refl _) hS.up; unfold rowW; omega, rowW_lt G U m (by omega) hR.up, by have := rowW_len G U m m (by omega) (Nat.le_refl _) hR.up; unfold rowW; omega⟩
  obtain ⟨z1, hz1⟩ : ∃ x, intB off = x := ⟨_, rfl⟩
  obtain ⟨z2, hz2⟩ : ∃ x, rowW F T n = x := ⟨_, rfl⟩
  obtain ⟨z3, hz3⟩ : ∃ x, rowW G U m = x := ⟨_, rfl⟩
  have hcw : calW off F T n G U m = z1 ++ (z2 ++ z3) := by unfold calW; rw [hz1, hz2, hz3]
  rw [hcw, ← List.append_assoc]
  rw [hz1] at HINT
  rw [hz2, hz3] at HROW
  rw [hz1, hz2, hz3] at HLEN
  clear hz1 hz2 hz3 hcw hS hR hn hm hnn hmm ho
  have hlt : w.heap.size < (w.alloc (.cells #[.int .i64 off, .slice a n ca, .slice a' m cb] 24)).heap.size := by rw [sz]; omega
  clear s0 sz B1
  unfold calV
  go_enter Tryz.func18, Tryz.ntmps18
  go_wp2_with fail
  generalize w.alloc (.cells #[.int .i64 off, .slice a n ca, .slice a' m cb] 24) = W0 at q0 q1 q2 HB1 hlt ⊢
  have HS : Hid (∀ W, Below W0.heap.size W0 W → (W.cell? ⟨w.heap.size, 0, none⟩ = some (.int .i64 off) ∧ W.cell? ⟨w.heap.size, 1, none⟩ = some (.slice a n ca) ∧ W.cell? ⟨w.heap.size, 2, none⟩ = some (.slice a' m cb))) := Lib.hid (fun W hb => ⟨(hb.cell (p := ⟨w.heap.size, 0, none⟩) hlt).trans q0, (hb.cell (p := ⟨w.heap.size, 1, none⟩) hlt).trans q1, (hb.cell (p := ⟨w.heap.size, 2, none⟩) hlt).trans q2⟩)
  have b0 : Below W0.heap.size W0 W0.drew := (Below.refl _ _).drew
  have h0 := HS.out _ b0
  have HC : Hid (∀ W, Below W0.heap.size W0 W → Below w.heap.size w W) := Lib.hid (fun W h => HB1.out.trans (h.mono HB1.out.size))
  clear q0 q1 q2
  refine wp_region_held_drew (S := fun w1 => w1.cell? ⟨w.heap.size, 0, none⟩ = some (.int .i64 off) ∧ w1.cell? ⟨w.heap.size, 1, none⟩ = some (.slice a n ca) ∧ w1.cell? ⟨w.heap.size, 2, none⟩ = some (.slice a' m cb)) (by kernel_rfl) h0 (fun hHeld => ?_)
  refine wpAnyH_take (i := 0) (v := ?_) rfl (by kernel_rfl) (by kernel_rfl) (by kernel_rfl) (fun _ _ _ h => h) (Or.inl ⟨by rfl, ?_⟩) (by assumption) ?_
  case refine_2 => (intro w1 hS1; (try dsimp only at hS1); go_simp; try with_reducible rfl)
  try simp only [List.getElem_toArray, List.getElem_cons_zero, List.getElem_cons_succ, Act.put, List.setIfInBounds_toArray, List.set_cons_zero, List.set_cons_succ]
  refine wpAnyH_take (i := 1) (v := ?_) rfl (by kernel_rfl) (by kernel_rfl) (by kernel_rfl) (fun _ _ _ h => h) (Or.inl ⟨by rfl, ?_⟩) (by assumption) ?_
  case refine_2 => (intro w1 hS1; (try dsimp only at hS1); go_simp; try with_reducible rfl)
  try simp only [List.getElem_toArray, List.getElem_cons_zero, List.getElem_cons_succ, Act.put, List.setIfInBounds_toArray, List.set_cons_zero, List.set_cons_succ]
  refine wpAnyH_take (i := 3) (v := ?_) rfl (by kernel_rfl) (by kernel_rfl) (by kernel_rfl) (fun _ _ _ h => h) (Or.inl ⟨by rfl, ?_⟩) (by assumption) ?_
  case refine_2 => (intro w1 hS1; (try dsimp only at hS1); go_simp; try with_reducible rfl)
  try simp only [List.getElem_toArray, List.getElem_cons_zero, List.getElem_cons_succ, Act.put, List.setIfInBounds_toArray, List.set_cons_zero, List.set_cons_succ]
  refine wpAnyH_take (i := 4) (v := ?_) rfl (by kernel_rfl) (by kernel_rfl) (by kernel_rfl) (fun _ _ _ h => h) (Or.inl ⟨by rfl, ?_⟩) (by assumption) ?_
  case refine_2 => (intro w1 hS1; (try dsimp only at hS1); go_simp; try with_reducible rfl)
  try simp only [List.getElem_toArray, List.getElem_cons_zero, List.getElem_cons_succ, Act.put, List.setIfInBounds_toArray, List.set_cons_zero, List.set_cons_succ]
  refine wpAnyH_take (i := 7) (v := ?_) rfl (by kernel_rfl) (by kernel_rfl) (by kernel_rfl) (fun _ _ _ h => h) (Or.inl ⟨by rfl, ?_⟩) (by assumption) ?_
  case refine_2 => (intro w1 hS1; (try dsimp only at hS1); go_simp; try with_reducible rfl)
  try simp only [List.getElem_toArray, List.getElem_cons_zero, List.getElem_cons_succ, Act.put, List.setIfInBounds_toArray, List.set_cons_zero, List.set_cons_succ]
  refine wpAnyH_take (i := 8) (v := ?_) rfl (by kernel_rfl) (by kernel_rfl) (by kernel_rfl) (fun _ _ _ h => h) (Or.inl ⟨by rfl, ?_⟩) (by assumption) ?_
  case refine_2 => (intro w1 hS1; (try dsimp only at hS1); go_simp; try with_reducible rfl)
  try simp only [List.getElem_toArray, List.getElem_cons_zero, List.getElem_cons_succ, Act.put, List.setIfInBounds_toArray, List.set_cons_zero, List.set_cons_succ]
  refine wpAnyH_ready (rs := [2]) (by kernel_rfl) (by simp) ?_
  refine (AllReadyH.cons rfl (fun K hK => ?_) AllReadyH.nil)
  go_simp
  refine (HINT.out W0.drew).mono ?_
  rintro e W1 ⟨v1, rfl, ho1, hb1⟩
  have b1 : Below W0.heap.size W0 W1 := b0.trans hb1
  have HO1 : Hid (OB W1 W0.heap.size v1 z1) := Lib.hid ho1
  refine hK.out _ _ (HS.out _ b1) (fun hHeld => ?_)
  clear hK K hHeld
  try simp only [List.getElem_toArray, List.getElem_cons_zero, List.getElem_cons_succ, Act.put, List.setIfInBounds_toArray, List.set_cons_zero, List.set_cons_succ]
  refine wpAnyH_ready (rs := [5]) (by kernel_rfl) (by simp) ?_
  refine (AllReadyH.cons rfl (fun K hK => ?_) AllReadyH.nil)
  go_simp
  refine ((HROW.out W1 (HC.out _ b1)).1).mono ?_
  rintro e W2 ⟨v2, rfl, ho2, hb2⟩
  have b2 : Below W0.heap.size W0 W2 := b1.trans (hb2.mono b1.size)
  have HO2 : Hid (OB W2 W0.heap.size v1 z1) := Lib.hid (HO1.out.kept hb2)
  have HR2 : Hid (RB W2 v2 z2) := Lib.hid (ho2.rb HLEN.out.2.2.1 (by have := HLEN.out; omega))
  clear ho1 hb1 ho2 hb2
  refine hK.out _ _ (HS.out _ b2) (fun hHeld => ?_)
  clear hK K hHeld
  try simp only [List.getElem_toArray, List.getElem_cons_zero, List.getElem_cons_succ, Act.put, List.setIfInBounds_toArray, List.set_cons_zero, List.set_cons_succ]
  refine wpAnyH_ready (rs := [6]) (by kernel_rfl) (by simp) ?_
  refine (AllReadyH.cons rfl (fun K hK => ?_) AllReadyH.nil)
  refine step_append_ob rfl (.tmp 5) (.tmp 8) rfl W0.heap.size v1 v2 z1 z2 rfl rfl HO2.out HR2.out (by have := HLEN.out; omega) b2.size ?_
  intro v3 W3 ho3 hg3
  have b3 : Below W0.heap.size W0 W3 := HO2.out.below hg3 b2 b2.size
  have HO3 := Lib.hid ho3
  clear ho3 hg3
  refine hK.out _ _ (HS.out _ b3) (fun hHeld => ?_)
  clear hK K hHeld
  try simp only [List.getElem_toArray, List.getElem_cons_zero, List.getElem_cons_succ, Act.put, List.setIfInBounds_toArray, List.set_cons_zero, List.set_cons_succ]
  refine wpAnyH_ready (rs := [9]) (by kernel_rfl) (by simp) ?_
  refine (AllReadyH.cons rfl (fun K hK => ?_) AllReadyH.nil)
  go_simp
  refine ((HROW.out W3 (HC.out _ b3)).2).mono ?_
  rintro e W4 ⟨v4, rfl, ho4, hb4⟩
  have b4 : Below W0.heap.size W0 W4 := b3.trans (hb4.mono b3.size)
  have HO4 := Lib.hid (HO3.out.kept hb4)
  have HR4 : Hid (RB W4 v4 z3) := Lib.hid (ho4.rb HLEN.out.2.2.2.2.1 (by have := HLEN.out; omega))
  clear ho4 hb4
  refine hK.out _ _ (HS.out _ b4) (fun hHeld => ?_)
  clear hK K hHeld
  try simp only [List.getElem_toArray, List.getElem_cons_zero, List.getElem_cons_succ, Act.put, List.setIfInBounds_toArray, List.set_cons_zero, List.set_cons_succ]
  refine wpAnyH_ready (rs := [10]) (by kernel_rfl) (by simp) ?_
  refine (AllReadyH.cons rfl (fun K hK => ?_) AllReadyH.nil)
  refine step_append_ob rfl (.tmp 9) (.tmp 12) rfl W0.heap.size v3 v4 (z1 ++ z2) z3 rfl rfl HO4.out HR4.out (by have := HLEN.out; rw [List.length_append]; omega) b4.size ?_
  intro v5 W5 ho5 hg5
  have b5 : Below W0.heap.size W0 W5 := HO4.out.below hg5 b4 b4.size
  refine hK.out _ _ (HS.out _ b5) (fun hHeld => ?_)
  clear hK K hHeld
  try simp only [List.getElem_toArray, List.getElem_cons_zero, List.getElem_cons_succ, Act.put, List.setIfInBounds_toArray, List.set_cons_zero, List.set_cons_succ]
  refine wpAnyH_take (i := 11) (v := ?_) rfl (by kernel_rfl) (by kernel_rfl) (by kernel_rfl) (fun _ _ _ h => h) (Or.inl ⟨by rfl, ?_⟩) (HS.out _ b5) ?_
  case refine_2 => (intro w1 hS1; (try dsimp only at hS1); go_simp; try with_reducible rfl)
  try simp only [List.getElem_toArray, List.getElem_cons_zero, List.getElem_cons_succ, Act.put, List.setIfInBounds_toArray, List.set_cons_zero, List.set_cons_succ]
  refine wpAnyH_done (by kernel_rfl) ?_ _
  go_wp2_with fail
  go_ret
  exact ⟨_, rfl, ho5.mono HB1.out.size, HC.out _ b5⟩
end Go.Proofs.YtibjboacjobaoaaGreat

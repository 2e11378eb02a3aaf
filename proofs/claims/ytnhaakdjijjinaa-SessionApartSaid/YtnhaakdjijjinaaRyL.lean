/- Replies: the reference's Read. -/
import Derived.Test.YtnhaakdjijjinaaMRb
namespace Go.Proofs.Ytnhaakdjijjinaa
open Go.RowKit
theorem yBad_of (ds : List Nat) (h : fN (y2 ds) = true) (k : tkOk (y3 ds) = false) : yBad ds = true := by
  have h4 : y4 ds = [] := by
    unfold y4 tkRest
    rw [h, k]
    rfl
  have h5 : y5 ds = [] := by unfold y5; rw [h4]; exact (nB_none 64).2.1
  have h6 : y6 ds = [] := by unfold y6; rw [h4, (nB_none 64).1, qR]; exact h5
  have h7 : y7 ds = [] := by unfold y7; rw [h6]; exact (nB_none _).2.1
  unfold yBad
  rw [h7]
  exact (nB_none 128).2.2
/-- A reply on its way from the reference's reader. -/
structure AsmF (w0 : World) (b : Nat) (ds : List Nat) (bad : Bool) (g : Nat) (C : Array Value) (W : World) : Prop where
  rr : RF W b ds bad
  rd : Rd b w0 W
  res : W.heap[w0.heap.size]? = some (.cells #[.int .i64 0, .int .i64 0, .int .u64 0, .int .i64 0, .int .i64 0, .int .i64 0, .int .u64 0, .int .i64 0, .int .i64 0, .int .i64 0, .int .i64 0, .slice none 0 0, .int .u64 0, .int .i64 0] 28 (0, 0))
  box : W.heap[g]? = some (.cells C 28 (0, 0))
  lt : w0.heap.size < g
  hb : b < w0.heap.size
theorem AsmF.call {w0 W W' : World} {b : Nat} {ds ds' : List Nat} {bad bad' : Bool} {g : Nat} {C : Array Value} (h : AsmF w0 b ds bad g C W) (k : RF W' b ds' bad') (r : Rd b W W') : AsmF w0 b ds' bad' g C W' :=
  ⟨k, h.rd.trans r, r.keep h.res (by have := h.hb; omega), r.keep h.box (by have := h.hb; have := h.lt; omega), h.lt, h.hb⟩
theorem AsmF.kept {w0 W W' : World} {b : Nat} {ds : List Nat} {bad : Bool} {g : Nat} {C : Array Value} (h : AsmF w0 b ds bad g C W) (k : Below W.heap.size W W') : AsmF w0 b ds bad g C W' :=
  ⟨h.rr.kept k, h.rd.trans (Rd.below k), ex_below h.res k, ex_below h.box k, h.lt, h.hb⟩
theorem AsmF.under {w0 W W' : World} {b : Nat} {ds : List Nat} {bad : Bool} {g : Nat} {C : Array Value} (h : AsmF w0 b ds bad g C W) (k : Below (g + 1) W W') : AsmF w0 b ds bad g C W' :=
  ⟨h.rr.under k (by have := h.hb; have := h.lt; omega), h.rd.under k (by have := h.lt; omega), (k.block _ (by have := h.lt; omega)).trans h.res, (k.block _ (Nat.lt_succ_self g)).trans h.box, h.lt, h.hb⟩
theorem AsmF.set {w0 W : World} {b : Nat} {ds : List Nat} {bad : Bool} {g : Nat} {C C' : Array Value} (h : AsmF w0 b ds bad g C W) (j : Nat) (y : Value) (e : C.setIfInBounds j y = C') : AsmF w0 b ds bad g C' (W.setCell ⟨g, j, none⟩ y) := by
  have k : Below g W (W.setCell ⟨g, j, none⟩ y) := (Below.refl _ _).setCell (p := ⟨g, j, none⟩) (Nat.le_refl _) _
  exact ⟨h.rr.under k (by have := h.hb; have := h.lt; omega), h.rd.under k (Nat.le_of_lt h.lt), (k.block _ h.lt).trans h.res, e ▸ heap_set h.box j y, h.lt, h.hb⟩
theorem AsmF.made {w0 W : World} {b : Nat} {ds : List Nat} {bad : Bool} (C : Array Value) (h : RF W b ds bad) (hd : Rd b w0 W) (r : W.heap[w0.heap.size]? = some (.cells #[.int .i64 0, .int .i64 0, .int .u64 0, .int .i64 0, .int .i64 0, .int .i64 0, .int .u64 0, .int .i64 0, .int .i64 0, .int .i64 0, .int .i64 0, .slice none 0 0, .int .u64 0, .int .i64 0] 28 (0, 0))) (hb : b < w0.heap.size) : AsmF w0 b ds bad W.heap.size C (W.alloc (.cells C 28)) := by
  obtain ⟨B1, s0, -⟩ := box1 W C 28
  exact ⟨h.kept B1, hd.trans (Rd.below B1), ex_below r B1, s0, ex_lt r, hb⟩
/-- What the reference's Read gives. -/
def ReadF (b : Nat) (ds : List Nat) (w : World) (e : Ending) (w' : World) : Prop :=
  (yOk ds = true → ∃ a' ca', e = .returned (.tuple #[yV ds a' ca', .bool true]) ∧ OU w' w.heap.size (.slice a' (yXs ds).length ca') (yXs ds) ∧ RF w' b (yRest ds) false ∧ Rd b w w') ∧
  (yOk ds = false → e = .returned (.tuple #[zV, .bool false]) ∧ RF w' b [] true ∧ Rd b w w')
set_option maxRecDepth 100000 in
set_option maxHeartbeats 16000000 in
theorem rread19 (b : Nat) (ds : List Nat) (bad : Bool) (w : World) (hr : RF w b ds bad) :
    Calls Try.prog 25 #[.pointer (some ⟨b, 0, none⟩)] w (ReadF b ds w) := by
  have hbl := hr.lt
  have HBL := Lib.hid hbl
  obtain ⟨B1, s0, sz⟩ := box1 w #[.int .i64 0, .int .i64 0, .int .u64 0, .int .i64 0, .int .i64 0, .int .i64 0, .int .u64 0, .int .i64 0, .int .i64 0, .int .i64 0, .int .i64 0, .slice none 0 0, .int .u64 0, .int .i64 0] 28
  have hc99 := nN_le 99 ds
  have HN1 : Hid (∀ W bd, RF W b ds bd → Calls Try.prog 64 #[.pointer (some ⟨b, 0, none⟩), .int .u64 99] W fun e w' => e = .returned (.int .u64 ((nN 99 ds : Nat) : Int)) ∧ RF w' b (nR 99 ds) (nB 99 ds) ∧ Rd b W w') := Lib.hid (fun W bd h => num_rf1 b 99 _ bd W h)
  obtain ⟨c, ec⟩ : ∃ x, nN 99 ds = x := ⟨_, rfl⟩
  rw [ec] at hc99 HN1
  have HEC := Lib.hid ec
  have HI1 : Hid (∀ W bd, RF W b (nR 99 ds) bd → Calls Try.prog 65 #[.pointer (some ⟨b, 0, none⟩)] W fun e w' => e = .returned (.int .i64 (iN (nR 99 ds))) ∧ RF w' b (y2 ds) (iB (nR 99 ds)) ∧ Rd b W w') := Lib.hid (fun W bd h => int_rf1 b _ bd W h)
  have HF1 : Hid (∀ W bd, RF W b (y2 ds) bd → Calls Try.prog 66 #[.pointer (some ⟨b, 0, none⟩)] W fun e w' => e = .returned (.bool (fN (y2 ds))) ∧ RF w' b (y3 ds) (nB 1 (y2 ds)) ∧ Rd b W w') := Lib.hid (fun W bd h => flag_rf1 b _ bd W h)
  have HK1 : Hid (∀ W bd, RF W b (y3 ds) bd → Calls Try.prog 67 #[.pointer (some ⟨b, 0, none⟩)] W fun e w' => e = .returned (.tuple #[(tkN (y3 ds)).t, .bool (tkOk (y3 ds))]) ∧ RF w' b (tkRest (y3 ds)) (!tkOk (y3 ds)) ∧ Rd b W w') := Lib.hid (fun W bd h => tk_rf b _ bd W h)
  obtain ⟨tm, et⟩ : ∃ x, iN (nR 99 ds) = x := ⟨_, rfl⟩
  rw [et] at HI1
  have HET := Lib.hid et
  have w1y : IntKind.i64.wrap (c : Int) = (c : Int) := IntWalk.i64_in _ ⟨by omega, by omega⟩
  have w1z : wrap64 (c : Int) = (c : Int) := IntWalk.wrap64_in _ ⟨by omega, by omega⟩
  obtain ⟨⟨t1, t2, t3, t4, t5, t6, t7, t8, t9⟩, hm⟩ : ∃ x : Nine, yNine ds = x := ⟨_, rfl⟩
  obtain ⟨z, hz⟩ : ∃ x, fN (y2 ds) = x := ⟨_, rfl⟩
  rw [hz] at HF1
  have h64 := nN_le 64 (y4 ds)
  have h128 := nN_le 128 (y7 ds)
  have HN64 : Hid (∀ W bd, RF W b (y4 ds) bd → Calls Try.prog 64 #[.pointer (some ⟨b, 0, none⟩), .int .u64 64] W fun e w' => e = .returned (.int .u64 ((nN 64 (y4 ds) : Nat) : Int)) ∧ RF w' b (y5 ds) (nB 64 (y4 ds)) ∧ Rd b W w') := Lib.hid (fun W bd h => num_rf1 b 64 _ bd W h)
  have HN3 : Hid (∀ W bd, RF W b (y6 ds) bd → Calls Try.prog 64 #[.pointer (some ⟨b, 0, none⟩), .int .u64 18446744073709551615] W fun e w' => e = .returned (.int .u64 ((nN 18446744073709551615 (y6 ds) : Nat) : Int)) ∧ RF w' b (y7 ds) (nB 18446744073709551615 (y6 ds)) ∧ Rd b W w') := Lib.hid (fun W bd h => num_rf1 b 18446744073709551615 _ bd W h)
  have HN4 : Hid (∀ W bd, RF W b (y7 ds) bd → Calls Try.prog 64 #[.pointer (some ⟨b, 0, none⟩), .int .u64 128] W fun e w' => e = .returned (.int .u64 ((nN 128 (y7 ds) : Nat) : Int)) ∧ RF w' b (yRest ds) (nB 128 (y7 ds)) ∧ Rd b W w') := Lib.hid (fun W bd h => num_rf1 b 128 _ bd W h)
  have HLL : Hid (([] : List Nat).length = 0 ∧ [] ++ qL 18446744073709551615 (nN 64 (y4 ds) - 0) (y5 ds) = yXs ds ∧ qR 18446744073709551615 (nN 64 (y4 ds) - 0) (y5 ds) = y6 ds) := Lib.hid ⟨rfl, rfl, rfl⟩
  obtain ⟨n, hn⟩ : ∃ x, nN 64 (y4 ds) = x := ⟨_, rfl⟩
  rw [hn] at HN64 HLL h64
  have HN64L := Lib.hid h64
  obtain ⟨nt, ent⟩ : ∃ x, nN 18446744073709551615 (y6 ds) = x := ⟨_, rfl⟩
  obtain ⟨de, ede⟩ : ∃ x, nN 128 (y7 ds) = x := ⟨_, rfl⟩
  rw [ent] at HN3
  rw [ede] at HN4 h128
  have HEN := Lib.hid (And.intro ent ede)
  have wdy : IntKind.i64.wrap (de : Int) = (de : Int) := IntWalk.i64_in _ ⟨by omega, by omega⟩
  have wdz : wrap64 (de : Int) = (de : Int) := IntWalk.wrap64_in _ ⟨by omega, by omega⟩
  have HOK : Hid (yOk ds = (!nB 128 (y7 ds) && yS ds)) := Lib.hid rfl
  have HBO := Lib.hid (yBad_of ds)
  have HY0 : Hid (∀ T1 T2 T3 T4 T5 T6 T7 T8 T9 : Nat, yNine ds = ⟨T1, T2, T3, T4, T5, T6, T7, T8, T9⟩ → (∀ a ca, yV ds a ca = repV (c : Int) tm (T1 : Int) (T2 : Int) (T3 : Int) (T4 : Int) (T5 : Int) (T6 : Int) (T7 : Int) (T8 : Int) (T9 : Int) a (yXs ds).length ca (nt : Int) (de : Int)) ∧ yS ds = repS (c : Int) tm (T1 : Int) (T2 : Int) (T3 : Int) (T4 : Int) (T5 : Int) (T6 : Int) (T7 : Int) (T8 : Int) (T9 : Int) (yXs ds).length (de : Int)) := Lib.hid (fun T1 T2 T3 T4 T5 T6 T7 T8 T9 h => by
    unfold yV yS
    rw [h, ec, et, ent, ede]
    exact ⟨fun _ _ => rfl, rfl⟩)
  have HR0 := Lib.hid (hr.kept B1)
  have HD0 := Lib.hid (Rd.below (b := b) B1)
  have HT0 := Lib.hid s0
  have HSZ := Lib.hid sz
  clear hc99 ec et hr B1 s0 sz hbl h64 hn h128 ent ede
  go_enter Try.func25, Try.ntmps25
  go_wp2_with fail
  generalize w.alloc (.cells #[.int .i64 0, .int .i64 0, .int .u64 0, .int .i64 0, .int .i64 0, .int .i64 0, .int .u64 0, .int .i64 0, .int .i64 0, .int .i64 0, .int .i64 0, .slice none 0 0, .int .u64 0, .int .i64 0] 28) = W0 at HR0 HD0 HT0 HSZ ⊢
  refine (HN1.out W0 _ HR0.out).mono ?_
  rintro e W1 ⟨rfl, hx, ht⟩
  obtain ⟨g, hg⟩ : ∃ g, W1.heap.size = g := ⟨_, rfl⟩
  have hX := AsmF.made #[.int .i64 (c : Int), .int .i64 0, .int .u64 0, .int .i64 0, .int .i64 0, .int .i64 0, .int .u64 0, .int .i64 0, .int .i64 0, .int .i64 0, .int .i64 0, .slice none 0 0, .int .u64 0, .int .i64 0] hx (HD0.out.trans ht) (ht.keep HT0.out (by have := HBL.out; omega)) HBL.out
  rw [hg] at hX
  have HX := Lib.hid hX
  clear hx ht hX HR0 HD0 HT0 HN1
  obtain ⟨q0, q1, q2, q3, q4, q5, q6, q7, q8, q9, q10, q11, q12, q13⟩ := rep_at HX.out.box
  have qf := rep_fr HX.out.box
  go_wp2_with fail
  generalize W1.alloc (.cells #[.int .i64 (c : Int), .int .i64 0, .int .u64 0, .int .i64 0, .int .i64 0, .int .i64 0, .int .u64 0, .int .i64 0, .int .i64 0, .int .i64 0, .int .i64 0, .slice none 0 0, .int .u64 0, .int .i64 0] 28) = W2 at HX q0 q1 q2 q3 q4 q5 q6 q7 q8 q9 q10 q11 q12 q13 qf ⊢
  refine (HI1.out W2 _ HX.out.rr).mono ?_
  rintro e W3 ⟨rfl, hx, ht⟩
  have hX := HX.out.call hx ht
  have hX2 := hX.set 1 (.int .i64 tm) rfl
  simp only [List.setIfInBounds_toArray, List.set_cons_zero, List.set_cons_succ] at hX2
  have HX' := Lib.hid hX2
  clear hx ht HX q0 q1 q2 q3 q4 q5 q6 q7 q8 q9 q10 q11 q12 q13 qf hX2
  have HX := HX'
  clear HX'
  obtain ⟨q0, q1, q2, q3, q4, q5, q6, q7, q8, q9, q10, q11, q12, q13⟩ := rep_at hX.box
  have qf := rep_fr hX.box
  clear hX
  go_wp2_with fail
  clear q0 q1 q2 q3 q4 q5 q6 q7 q8 q9 q10 q11 q12 q13 qf
  generalize W3.setCell ⟨g, 1, none⟩ (.int .i64 tm) = W4 at HX ⊢
  refine (HF1.out W4 _ HX.out.rr).mono ?_
  rintro e W5 ⟨rfl, hx, ht⟩
  have HX' := Lib.hid (HX.out.call hx ht)
  clear hx ht
  clear HX
  have HX := HX'
  clear HX'
  cases z
  case false =>
    have hy4 : y4 ds = y3 ds := by unfold y4; rw [hz]; rfl
    have hyn : yNine ds = zNine := by unfold yNine; rw [hz]; rfl
    have HY : Hid ((∀ a ca, yV ds a ca = repV (c : Int) tm 0 0 0 0 0 0 0 0 0 a (yXs ds).length ca (nt : Int) (de : Int)) ∧ yS ds = repS (c : Int) tm 0 0 0 0 0 0 0 0 0 (yXs ds).length (de : Int)) := Lib.hid (HY0.out 0 0 0 0 0 0 0 0 0 hyn)
    rw [← hy4] at HX
    clear hy4 hz hm hyn
    go_wp2_with fail
    refine (HN64.out _ _ HX.out.rr).mono ?_
    rintro e W6 ⟨rfl, hx, ht⟩
    have HX' := Lib.hid (HX.out.call hx ht)
    clear hx ht
    clear HX
    have HX := HX'
    clear HX'
    have HO0 : Hid (OU W6 (g + 1) (.slice none 0 0) []) := Lib.hid (OU.nil _ _)
    go_wp2_with fail
    go_loopg [7] n (fun kx s7 wr => ∃ (k : Nat) (D : List Nat) (es : List Nat) (bd : Bool) (v : Value), s7 = .int .u64 k ∧ k ≤ n ∧ n - k ≤ kx ∧ Hid (D.length = k ∧ D ++ qL 18446744073709551615 (n - k) es = yXs ds ∧ qR 18446744073709551615 (n - k) es = y6 ds) ∧ Hid (AsmF w b es bd g #[.int .i64 (c : Int), .int .i64 tm, .int .u64 0, .int .i64 0, .int .i64 0, .int .i64 0, .int .u64 0, .int .i64 0, .int .i64 0, .int .i64 0, .int .i64 0, v, .int .u64 0, .int .i64 0] wr) ∧ Hid (OU wr (g + 1) v D))
    case atStart => exact ⟨0, [], y5 ds, _, _, rfl, by omega, by omega, HLL, HX, HO0⟩
    case round =>
      obtain ⟨k, D, es, bd, v, rfl, hk, hkx, HDL, HX, HO⟩ := hrel
      obtain ⟨a5, c5, hv5, -, -⟩ := OU.shape HO.out
      subst hv5
      obtain ⟨l5, hl5⟩ : ∃ x, D.length = x := ⟨_, rfl⟩
      rw [hl5] at HX HO
      by_cases hlt : k < n
      · have hltz : (k : Int) < (n : Int) := by omega
        have hnk : n - k = (n - (k + 1)) + 1 := by omega
        have HDD : Hid ((D ++ [nN 18446744073709551615 es]).length = k + 1 ∧ (D ++ [nN 18446744073709551615 es]) ++ qL 18446744073709551615 (n - (k + 1)) (nR 18446744073709551615 es) = yXs ds ∧ qR 18446744073709551615 (n - (k + 1)) (nR 18446744073709551615 es) = y6 ds) := by
          have h := HDL.out
          rw [hnk, qL, qR] at h
          exact Lib.hid ⟨by rw [List.length_append, h.1]; rfl, by rw [List.append_assoc]; exact h.2.1, h.2.2⟩
        have HN2 : Hid (∀ W bd, RF W b es bd → Calls Try.prog 64 #[.pointer (some ⟨b, 0, none⟩), .int .u64 18446744073709551615] W fun e w' => e = .returned (.int .u64 ((nN 18446744073709551615 es : Nat) : Int)) ∧ RF w' b (nR 18446744073709551615 es) (nB 18446744073709551615 es) ∧ Rd b W w') := Lib.hid (fun W bd h => num_rf1 b 18446744073709551615 _ bd W h)
        obtain ⟨f, e1⟩ : ∃ x, nN 18446744073709551615 es = x := ⟨_, rfl⟩
        obtain ⟨es1, e2⟩ : ∃ x, nR 18446744073709551615 es = x := ⟨_, rfl⟩
        obtain ⟨bd1, e3⟩ : ∃ x, nB 18446744073709551615 es = x := ⟨_, rfl⟩
        rw [e1, e2, e3] at HN2
        rw [e1, e2] at HDD
        have HLD : Hid (D.length ≤ 100000) := Lib.hid (by have := HDL.out.1; have := HN64L.out; omega)
        clear e1 e2 e3 hnk HDL hl5
        have cd0 : Below wr.heap.size wr wr.drew := (Below.refl _ _).drew
        have HX' := Lib.hid (HX.out.kept cd0)
        have HO' := Lib.hid (HO.out.kept cd0)
        clear cd0
        clear HX HO
        have HX := HX'
        have HO := HO'
        clear HX' HO'
        go_wp2_with fail
        refine wp_region_held_drew (S := fun _ => True) (by kernel_rfl) trivial (fun hHeld => ?_)
        clear hHeld
        generalize wr.drew = wd at HX HO ⊢
        refine wpAnyH_take (i := 0) (v := ?_) rfl (by kernel_rfl) (by kernel_rfl) (by kernel_rfl) (fun _ _ _ h => h) (Or.inl ⟨by rfl, ?_⟩) trivial ?_
        case refine_2 => (intro w1 hS1; (try dsimp only at hS1); go_simp; try with_reducible rfl)
        try simp only [List.getElem_toArray, List.getElem_cons_zero, List.getElem_cons_succ, Act.put, List.setIfInBounds_toArray, List.set_cons_zero, List.set_cons_succ]
        refine wpAnyH_take (i := 2) (v := ?_) rfl (by kernel_rfl) (by kernel_rfl) (by kernel_rfl) (fun _ _ _ h => h) (Or.inl ⟨by rfl, ?_⟩) trivial ?_
        case refine_2 => (intro w1 hS1; (try dsimp only at hS1); go_simp; try with_reducible rfl)
        try simp only [List.getElem_toArray, List.getElem_cons_zero, List.getElem_cons_succ, Act.put, List.setIfInBounds_toArray, List.set_cons_zero, List.set_cons_succ]
        refine wpAnyH_ready (rs := [1, 3]) (by kernel_rfl) (by simp) ?_
        refine AllReadyH.cons rfl (fun K hK => ?_) (AllReadyH.cons rfl (fun K hK => ?_) (AllReadyH.nil))
        · obtain ⟨q0, q1, q2, q3, q4, q5, q6, q7, q8, q9, q10, q11, q12, q13⟩ := rep_at HX.out.box
          go_simp
          clear q0 q1 q2 q3 q4 q5 q6 q7 q8 q9 q10 q11 q12 q13
          refine hK.out _ _ trivial (fun hHeld => ?_)
          clear hK K hHeld
          try simp only [List.getElem_toArray, List.getElem_cons_zero, List.getElem_cons_succ, Act.put, List.setIfInBounds_toArray, List.set_cons_zero, List.set_cons_succ]
          refine wpAnyH_ready (rs := [3]) (by kernel_rfl) (by simp) ?_
          refine AllReadyH.cons rfl (fun K hK => ?_) (AllReadyH.nil)
          go_simp
          refine (HN2.out _ _ HX.out.rr).mono ?_
          rintro e w2 ⟨rfl, hx, ht⟩
          have HX' := Lib.hid (HX.out.call hx ht)
          have HO' := Lib.hid (HO.out.rd ht (by have := HX.out.lt; have := HX.out.hb; omega))
          clear hx ht
          clear HX HO
          have HX := HX'
          have HO := HO'
          clear HX' HO'
          refine hK.out _ _ trivial (fun hHeld => ?_)
          clear hK K hHeld
          try simp only [List.getElem_toArray, List.getElem_cons_zero, List.getElem_cons_succ, Act.put, List.setIfInBounds_toArray, List.set_cons_zero, List.set_cons_succ]
          refine wpAnyH_ready (rs := [4]) (by kernel_rfl) (by simp) ?_
          refine AllReadyH.cons rfl (fun K hK => ?_) (AllReadyH.nil)
          have HV : Hid ((w2.alloc (.cells #[.int .u64 (f : Int)] 23)).cell? ⟨w2.heap.size, 0, none⟩ = some (.int .u64 (f : Int))) := Lib.hid (one_at (box1 w2 #[.int .u64 (f : Int)] 23).2.1)
          have B4 := (box1 w2 #[.int .u64 (f : Int)] 23).1
          have HX' := Lib.hid (HX.out.kept B4)
          have HO' := Lib.hid (HO.out.kept B4)
          have HZ4 : Hid (g + 1 ≤ (w2.alloc (.cells #[.int .u64 (f : Int)] 23)).heap.size) := Lib.hid (ex_lt HX'.out.box)
          clear B4
          clear HX HO
          have HX := HX'
          have HO := HO'
          clear HX' HO'
          go_simp
          refine hK.out _ _ trivial (fun hHeld => ?_)
          clear hK K hHeld
          try simp only [List.getElem_toArray, List.getElem_cons_zero, List.getElem_cons_succ, Act.put, List.setIfInBounds_toArray, List.set_cons_zero, List.set_cons_succ]
          refine wpAnyH_ready (rs := [5]) (by kernel_rfl) (by simp) ?_
          refine AllReadyH.cons rfl (fun K hK => ?_) (AllReadyH.nil)
          refine step_append_u rfl (.tmp 31) (.tmp 34) rfl (g + 1) (.slice a5 l5 c5) D f ⟨w2.heap.size, 0, none⟩ 1 rfl rfl HO.out HV.out HLD.out HZ4.out ?_
          intro v5 w5 ho5 hst
          obtain ⟨a6, c6, hv5, -, -⟩ := OU.shape ho5
          obtain ⟨l6, hl6⟩ : ∃ x, (D ++ [f]).length = x := ⟨_, rfl⟩
          rw [hl6] at hv5
          subst hv5
          have B5 := hst.below (Below.refl (g + 1) _)
          have HX' := Lib.hid (HX.out.under B5)
          have HO' := Lib.hid ho5
          clear B5 ho5 hst hl6 HV HZ4
          clear HX HO
          have HX := HX'
          have HO := HO'
          clear HX' HO'
          refine hK.out _ _ trivial (fun hHeld => ?_)
          clear hK K hHeld
          try simp only [List.getElem_toArray, List.getElem_cons_zero, List.getElem_cons_succ, Act.put, List.setIfInBounds_toArray, List.set_cons_zero, List.set_cons_succ]
          refine wpAnyH_take (i := 6) (v := ?_) rfl (by kernel_rfl) (by kernel_rfl) (by kernel_rfl) (fun _ _ _ h => h) (Or.inl ⟨by rfl, ?_⟩) trivial ?_
          case refine_2 => (intro w1 hS1; (try dsimp only at hS1); go_simp; try with_reducible rfl)
          try simp only [List.getElem_toArray, List.getElem_cons_zero, List.getElem_cons_succ, Act.put, List.setIfInBounds_toArray, List.set_cons_zero, List.set_cons_succ]
          refine wpAnyH_ready (rs := [7]) (by kernel_rfl) (by simp) ?_
          refine AllReadyH.cons rfl (fun K hK => ?_) AllReadyH.nil
          obtain ⟨q0, q1, q2, q3, q4, q5, q6, q7, q8, q9, q10, q11, q12, q13⟩ := rep_at HX.out.box
          have qf := rep_fr HX.out.box
          have hX := HX.out.set 11 (.slice a6 l6 c6) rfl
          simp only [List.setIfInBounds_toArray, List.set_cons_zero, List.set_cons_succ] at hX
          have HX' := Lib.hid hX
          have HO' := Lib.hid (HO.out.set (p := ⟨g, 11, none⟩) (Nat.lt_succ_self g) (.slice a6 l6 c6))
          clear hX
          clear HX HO
          have HX := HX'
          have HO := HO'
          clear HX' HO'
          go_simp
          clear q0 q1 q2 q3 q4 q5 q6 q7 q8 q9 q10 q11 q12 q13 qf
          refine hK.out _ _ trivial (fun hHeld => ?_)
          clear hK K hHeld
          try simp only [List.getElem_toArray, List.getElem_cons_zero, List.getElem_cons_succ, Act.put, List.setIfInBounds_toArray, List.set_cons_zero, List.set_cons_succ]
          refine wpAnyH_done (by kernel_rfl) ?_ _
          go_wp2_with fail
          go_roundg (n - (k + 1))
          case measure => omega
          case rel => exact ⟨k + 1, D ++ [f], es1, bd1, _, by have hw := wrap_upU k (by have := HN64L.out; omega); first | (rw [hw.1]; rfl) | (rw [hw.2]; rfl) | go_num, by omega, by omega, HDD, HX, HO⟩
        · go_simp
          refine (HN2.out _ _ HX.out.rr).mono ?_
          rintro e w2 ⟨rfl, hx, ht⟩
          have HX' := Lib.hid (HX.out.call hx ht)
          have HO' := Lib.hid (HO.out.rd ht (by have := HX.out.lt; have := HX.out.hb; omega))
          clear hx ht
          clear HX HO
          have HX := HX'
          have HO := HO'
          clear HX' HO'
          refine hK.out _ _ trivial (fun hHeld => ?_)
          clear hK K hHeld
          try simp only [List.getElem_toArray, List.getElem_cons_zero, List.getElem_cons_succ, Act.put, List.setIfInBounds_toArray, List.set_cons_zero, List.set_cons_succ]
          refine wpAnyH_ready (rs := [1, 4]) (by kernel_rfl) (by simp) ?_
          refine AllReadyH.cons rfl (fun K hK => ?_) (AllReadyH.cons rfl (fun K hK => ?_) (AllReadyH.nil))
          · obtain ⟨q0, q1, q2, q3, q4, q5, q6, q7, q8, q9, q10, q11, q12, q13⟩ := rep_at HX.out.box
            go_simp
            clear q0 q1 q2 q3 q4 q5 q6 q7 q8 q9 q10 q11 q12 q13
            refine hK.out _ _ trivial (fun hHeld => ?_)
            clear hK K hHeld
            try simp only [List.getElem_toArray, List.getElem_cons_zero, List.getElem_cons_succ, Act.put, List.setIfInBounds_toArray, List.set_cons_zero, List.set_cons_succ]
            refine wpAnyH_ready (rs := [4]) (by kernel_rfl) (by simp) ?_
            refine AllReadyH.cons rfl (fun K hK => ?_) (AllReadyH.nil)
            have HV : Hid ((w2.alloc (.cells #[.int .u64 (f : Int)] 23)).cell? ⟨w2.heap.size, 0, none⟩ = some (.int .u64 (f : Int))) := Lib.hid (one_at (box1 w2 #[.int .u64 (f : Int)] 23).2.1)
            have B4 := (box1 w2 #[.int .u64 (f : Int)] 23).1
            have HX' := Lib.hid (HX.out.kept B4)
            have HO' := Lib.hid (HO.out.kept B4)
            have HZ4 : Hid (g + 1 ≤ (w2.alloc (.cells #[.int .u64 (f : Int)] 23)).heap.size) := Lib.hid (ex_lt HX'.out.box)
            clear B4
            clear HX HO
            have HX := HX'
            have HO := HO'
            clear HX' HO'
            go_simp
            refine hK.out _ _ trivial (fun hHeld => ?_)
            clear hK K hHeld
            try simp only [List.getElem_toArray, List.getElem_cons_zero, List.getElem_cons_succ, Act.put, List.setIfInBounds_toArray, List.set_cons_zero, List.set_cons_succ]
            refine wpAnyH_ready (rs := [5]) (by kernel_rfl) (by simp) ?_
            refine AllReadyH.cons rfl (fun K hK => ?_) (AllReadyH.nil)
            refine step_append_u rfl (.tmp 31) (.tmp 34) rfl (g + 1) (.slice a5 l5 c5) D f ⟨w2.heap.size, 0, none⟩ 1 rfl rfl HO.out HV.out HLD.out HZ4.out ?_
            intro v5 w5 ho5 hst
            obtain ⟨a6, c6, hv5, -, -⟩ := OU.shape ho5
            obtain ⟨l6, hl6⟩ : ∃ x, (D ++ [f]).length = x := ⟨_, rfl⟩
            rw [hl6] at hv5
            subst hv5
            have B5 := hst.below (Below.refl (g + 1) _)
            have HX' := Lib.hid (HX.out.under B5)
            have HO' := Lib.hid ho5
            clear B5 ho5 hst hl6 HV HZ4
            clear HX HO
            have HX := HX'
            have HO := HO'
            clear HX' HO'
            refine hK.out _ _ trivial (fun hHeld => ?_)
            clear hK K hHeld
            try simp only [List.getElem_toArray, List.getElem_cons_zero, List.getElem_cons_succ, Act.put, List.setIfInBounds_toArray, List.set_cons_zero, List.set_cons_succ]
            refine wpAnyH_take (i := 6) (v := ?_) rfl (by kernel_rfl) (by kernel_rfl) (by kernel_rfl) (fun _ _ _ h => h) (Or.inl ⟨by rfl, ?_⟩) trivial ?_
            case refine_2 => (intro w1 hS1; (try dsimp only at hS1); go_simp; try with_reducible rfl)
            try simp only [List.getElem_toArray, List.getElem_cons_zero, List.getElem_cons_succ, Act.put, List.setIfInBounds_toArray, List.set_cons_zero, List.set_cons_succ]
            refine wpAnyH_ready (rs := [7]) (by kernel_rfl) (by simp) ?_
            refine AllReadyH.cons rfl (fun K hK => ?_) AllReadyH.nil
            obtain ⟨q0, q1, q2, q3, q4, q5, q6, q7, q8, q9, q10, q11, q12, q13⟩ := rep_at HX.out.box
            have qf := rep_fr HX.out.box
            have hX := HX.out.set 11 (.slice a6 l6 c6) rfl
            simp only [List.setIfInBounds_toArray, List.set_cons_zero, List.set_cons_succ] at hX
            have HX' := Lib.hid hX
            have HO' := Lib.hid (HO.out.set (p := ⟨g, 11, none⟩) (Nat.lt_succ_self g) (.slice a6 l6 c6))
            clear hX
            clear HX HO
            have HX := HX'
            have HO := HO'
            clear HX' HO'
            go_simp
            clear q0 q1 q2 q3 q4 q5 q6 q7 q8 q9 q10 q11 q12 q13 qf
            refine hK.out _ _ trivial (fun hHeld => ?_)
            clear hK K hHeld
            try simp only [List.getElem_toArray, List.getElem_cons_zero, List.getElem_cons_succ, Act.put, List.setIfInBounds_toArray, List.set_cons_zero, List.set_cons_succ]
            refine wpAnyH_done (by kernel_rfl) ?_ _
            go_wp2_with fail
            go_roundg (n - (k + 1))
            case measure => omega
            case rel => exact ⟨k + 1, D ++ [f], es1, bd1, _, by have hw := wrap_upU k (by have := HN64L.out; omega); first | (rw [hw.1]; rfl) | (rw [hw.2]; rfl) | go_num, by omega, by omega, HDD, HX, HO⟩
          · have HV : Hid ((w2.alloc (.cells #[.int .u64 (f : Int)] 23)).cell? ⟨w2.heap.size, 0, none⟩ = some (.int .u64 (f : Int))) := Lib.hid (one_at (box1 w2 #[.int .u64 (f : Int)] 23).2.1)
            have B4 := (box1 w2 #[.int .u64 (f : Int)] 23).1
            have HX' := Lib.hid (HX.out.kept B4)
            have HO' := Lib.hid (HO.out.kept B4)
            have HZ4 : Hid (g + 1 ≤ (w2.alloc (.cells #[.int .u64 (f : Int)] 23)).heap.size) := Lib.hid (ex_lt HX'.out.box)
            clear B4
            clear HX HO
            have HX := HX'
            have HO := HO'
            clear HX' HO'
            go_simp
            refine hK.out _ _ trivial (fun hHeld => ?_)
            clear hK K hHeld
            try simp only [List.getElem_toArray, List.getElem_cons_zero, List.getElem_cons_succ, Act.put, List.setIfInBounds_toArray, List.set_cons_zero, List.set_cons_succ]
            refine wpAnyH_ready (rs := [1]) (by kernel_rfl) (by simp) ?_
            refine AllReadyH.cons rfl (fun K hK => ?_) (AllReadyH.nil)
            obtain ⟨q0, q1, q2, q3, q4, q5, q6, q7, q8, q9, q10, q11, q12, q13⟩ := rep_at HX.out.box
            go_simp
            clear q0 q1 q2 q3 q4 q5 q6 q7 q8 q9 q10 q11 q12 q13
            refine hK.out _ _ trivial (fun hHeld => ?_)
            clear hK K hHeld
            try simp only [List.getElem_toArray, List.getElem_cons_zero, List.getElem_cons_succ, Act.put, List.setIfInBounds_toArray, List.set_cons_zero, List.set_cons_succ]
            refine wpAnyH_ready (rs := [5]) (by kernel_rfl) (by simp) ?_
            refine AllReadyH.cons rfl (fun K hK => ?_) (AllReadyH.nil)
            refine step_append_u rfl (.tmp 31) (.tmp 34) rfl (g + 1) (.slice a5 l5 c5) D f ⟨w2.heap.size, 0, none⟩ 1 rfl rfl HO.out HV.out HLD.out HZ4.out ?_
            intro v5 w5 ho5 hst
            obtain ⟨a6, c6, hv5, -, -⟩ := OU.shape ho5
            obtain ⟨l6, hl6⟩ : ∃ x, (D ++ [f]).length = x := ⟨_, rfl⟩
            rw [hl6] at hv5
            subst hv5
            have B5 := hst.below (Below.refl (g + 1) _)
            have HX' := Lib.hid (HX.out.under B5)
            have HO' := Lib.hid ho5
            clear B5 ho5 hst hl6 HV HZ4
            clear HX HO
            have HX := HX'
            have HO := HO'
            clear HX' HO'
            refine hK.out _ _ trivial (fun hHeld => ?_)
            clear hK K hHeld
            try simp only [List.getElem_toArray, List.getElem_cons_zero, List.getElem_cons_succ, Act.put, List.setIfInBounds_toArray, List.set_cons_zero, List.set_cons_succ]
            refine wpAnyH_take (i := 6) (v := ?_) rfl (by kernel_rfl) (by kernel_rfl) (by kernel_rfl) (fun _ _ _ h => h) (Or.inl ⟨by rfl, ?_⟩) trivial ?_
            case refine_2 => (intro w1 hS1; (try dsimp only at hS1); go_simp; try with_reducible rfl)
            try simp only [List.getElem_toArray, List.getElem_cons_zero, List.getElem_cons_succ, Act.put, List.setIfInBounds_toArray, List.set_cons_zero, List.set_cons_succ]
            refine wpAnyH_ready (rs := [7]) (by kernel_rfl) (by simp) ?_
            refine AllReadyH.cons rfl (fun K hK => ?_) AllReadyH.nil
            obtain ⟨q0, q1, q2, q3, q4, q5, q6, q7, q8, q9, q10, q11, q12, q13⟩ := rep_at HX.out.box
            have qf := rep_fr HX.out.box
            have hX := HX.out.set 11 (.slice a6 l6 c6) rfl
            simp only [List.setIfInBounds_toArray, List.set_cons_zero, List.set_cons_succ] at hX
            have HX' := Lib.hid hX
            have HO' := Lib.hid (HO.out.set (p := ⟨g, 11, none⟩) (Nat.lt_succ_self g) (.slice a6 l6 c6))
            clear hX
            clear HX HO
            have HX := HX'
            have HO := HO'
            clear HX' HO'
            go_simp
            clear q0 q1 q2 q3 q4 q5 q6 q7 q8 q9 q10 q11 q12 q13 qf
            refine hK.out _ _ trivial (fun hHeld => ?_)
            clear hK K hHeld
            try simp only [List.getElem_toArray, List.getElem_cons_zero, List.getElem_cons_succ, Act.put, List.setIfInBounds_toArray, List.set_cons_zero, List.set_cons_succ]
            refine wpAnyH_done (by kernel_rfl) ?_ _
            go_wp2_with fail
            go_roundg (n - (k + 1))
            case measure => omega
            case rel => exact ⟨k + 1, D ++ [f], es1, bd1, _, by have hw := wrap_upU k (by have := HN64L.out; omega); first | (rw [hw.1]; rfl) | (rw [hw.2]; rfl) | go_num, by omega, by omega, HDD, HX, HO⟩
      · have hltz : ¬ (k : Int) < (n : Int) := by omega
        obtain rfl : k = n := by omega
        have hd := HDL.out
        rw [Nat.sub_self, qL, qR, List.append_nil] at hd
        obtain ⟨hd1, hd2, hd3⟩ := hd
        subst hd3
        have HDX := Lib.hid hd2
        have HL5 := Lib.hid hl5
        clear hd1 hd2 HDL hl5 hk hkx hltz hlt
        go_wp2_with fail
        refine (HN3.out _ _ HX.out.rr).mono ?_
        rintro e W12 ⟨rfl, hx, ht⟩
        have HX' := Lib.hid (HX.out.call hx ht)
        have HO' := Lib.hid (HO.out.rd ht (by have := HX.out.lt; have := HX.out.hb; omega))
        clear hx ht
        clear HX HO
        have HX := HX'
        have HO := HO'
        clear HX' HO'
        obtain ⟨q0, q1, q2, q3, q4, q5, q6, q7, q8, q9, q10, q11, q12, q13⟩ := rep_at HX.out.box
        have qf := rep_fr HX.out.box
        have hX := HX.out.set 12 (.int .u64 (nt : Int)) rfl
        simp only [List.setIfInBounds_toArray, List.set_cons_zero, List.set_cons_succ] at hX
        have HX' := Lib.hid hX
        have HO' := Lib.hid (HO.out.set (p := ⟨g, 12, none⟩) (Nat.lt_succ_self g) (.int .u64 (nt : Int)))
        clear hX
        clear HX HO
        have HX := HX'
        have HO := HO'
        clear HX' HO'
        go_wp2_with fail
        clear q0 q1 q2 q3 q4 q5 q6 q7 q8 q9 q10 q11 q12 q13 qf
        generalize W12.setCell ⟨g, 12, none⟩ (.int .u64 (nt : Int)) = W13 at HX HO ⊢
        refine (HN4.out _ _ HX.out.rr).mono ?_
        rintro e W14 ⟨rfl, hx, ht⟩
        have HX' := Lib.hid (HX.out.call hx ht)
        have HO' := Lib.hid (HO.out.rd ht (by have := HX.out.lt; have := HX.out.hb; omega))
        clear hx ht
        clear HX HO
        have HX := HX'
        have HO := HO'
        clear HX' HO'
        obtain ⟨bd, ebd⟩ : ∃ x, nB 128 (y7 ds) = x := ⟨_, rfl⟩
        obtain ⟨sd, esd⟩ : ∃ x, yS ds = x := ⟨_, rfl⟩
        have HY1 : Hid ((∀ a ca, yV ds a ca = repV (c : Int) tm 0 0 0 0 0 0 0 0 0 a l5 ca (nt : Int) (de : Int)) ∧ yS ds = repS (c : Int) tm 0 0 0 0 0 0 0 0 0 l5 (de : Int)) := Lib.hid (by
          have h := HY.out
          rw [← HDX.out, HL5.out] at h
          exact h)
        have HSN : Hid (∀ W a, ∀ ca : Nat, Calls Try.prog 15 #[repV (c : Int) tm 0 0 0 0 0 0 0 0 0 a l5 ca (nt : Int) (de : Int)] W fun e w' => e = .returned (.bool (yS ds)) ∧ Below W.heap.size W w') := Lib.hid (fun W a ca => by rw [HY1.out.2]; exact rrsound19 (c : Int) tm 0 0 0 0 0 0 0 0 0 a l5 ca (nt : Int) (de : Int) W)
        rw [ebd] at HX HOK
        rw [esd] at HSN HOK
        have HEB := Lib.hid ebd
        clear esd ebd
        unfold repV at HSN
        obtain ⟨q0, q1, q2, q3, q4, q5, q6, q7, q8, q9, q10, q11, q12, q13⟩ := rep_at HX.out.box
        have qf := rep_fr HX.out.box
        have hX := HX.out.set 13 (.int .i64 (de : Int)) rfl
        simp only [List.setIfInBounds_toArray, List.set_cons_zero, List.set_cons_succ] at hX
        have HX' := Lib.hid hX
        have HO' := Lib.hid (HO.out.set (p := ⟨g, 13, none⟩) (Nat.lt_succ_self g) (.int .i64 (de : Int)))
        clear hX
        clear HX HO
        have HX := HX'
        have HO := HO'
        clear HX' HO'
        have fb := HX.out.rr.bad_at
        cases bd
        case true =>
          go_wp2_with fail
          clear q0 q1 q2 q3 q4 q5 q6 q7 q8 q9 q10 q11 q12 q13 qf fb
          generalize W14.setCell ⟨g, 13, none⟩ (.int .i64 (de : Int)) = W15 at HX HO ⊢
          refine (fail_rf b _ _ _ HX.out.rr).mono ?_
          rintro e W18 ⟨rfl, hx, ht⟩
          have HX' := Lib.hid (HX.out.call hx ht)
          clear hx ht
          clear HX
          have HX := HX'
          clear HX'
          obtain ⟨r0, r1, r2, r3, r4, r5, r6, r7, r8, r9, r10, r11, r12, r13⟩ := rep_at HX.out.res
          have rf := rep_fr HX.out.res
          go_wp2_with fail
          clear r0 r1 r2 r3 r4 r5 r6 r7 r8 r9 r10 r11 r12 r13 rf
          have hp := put14_at HX.out.res (.int .i64 0) (.int .i64 0) (.int .u64 0) (.int .i64 0) (.int .i64 0) (.int .i64 0) (.int .u64 0) (.int .i64 0) (.int .i64 0) (.int .i64 0) (.int .i64 0) (.slice none 0 0) (.int .u64 0) (.int .i64 0)
          have hb := put14_below (B := w.heap.size) W18 (Nat.le_refl w.heap.size) (.int .i64 0) (.int .i64 0) (.int .u64 0) (.int .i64 0) (.int .i64 0) (.int .i64 0) (.int .u64 0) (.int .i64 0) (.int .i64 0) (.int .i64 0) (.int .i64 0) (.slice none 0 0) (.int .u64 0) (.int .i64 0)
          have hrr := HX.out.rr.under hb HX.out.hb
          have hrd := HX.out.rd.under hb (Nat.le_refl _)
          have hfin : ReadF b ds w (.returned (.tuple #[.agg #[.int .i64 0, .int .i64 0, .int .u64 0, .int .i64 0, .int .i64 0, .int .i64 0, .int .u64 0, .int .i64 0, .int .i64 0, .int .i64 0, .int .i64 0, .slice none 0 0, .int .u64 0, .int .i64 0], .bool false])) (put14 W18 w.heap.size (.int .i64 0) (.int .i64 0) (.int .u64 0) (.int .i64 0) (.int .i64 0) (.int .i64 0) (.int .u64 0) (.int .i64 0) (.int .i64 0) (.int .i64 0) (.int .i64 0) (.slice none 0 0) (.int .u64 0) (.int .i64 0)) := ⟨fun h => by rw [HOK.out] at h; simp at h, fun _ => ⟨rfl, hrr, hrd⟩⟩
          unfold put14 at hp hfin
          clear hrr hrd hb
          obtain ⟨p0, p1, p2, p3, p4, p5, p6, p7, p8, p9, p10, p11, p12, p13⟩ := rep_at hp
          exact bodyPost_ret (v := .tuple #[.agg #[.int .i64 0, .int .i64 0, .int .u64 0, .int .i64 0, .int .i64 0, .int .i64 0, .int .u64 0, .int .i64 0, .int .i64 0, .int .i64 0, .int .i64 0, .slice none 0 0, .int .u64 0, .int .i64 0], .bool false]) (by simp [results, Try.results25, go_sem, p0, p1, p2, p3, p4, p5, p6, p7, p8, p9, p10, p11, p12, p13]) rfl hfin
        case false =>
          obtain ⟨r0, r1, r2, r3, r4, r5, r6, r7, r8, r9, r10, r11, r12, r13⟩ := rep_at HX.out.box
          go_wp2_with fail
          clear q0 q1 q2 q3 q4 q5 q6 q7 q8 q9 q10 q11 q12 q13 r0 r1 r2 r3 r4 r5 r6 r7 r8 r9 r10 r11 r12 r13 qf fb
          generalize W14.setCell ⟨g, 13, none⟩ (.int .i64 (de : Int)) = W15 at HX HO ⊢
          refine (HSN.out W15 a5 c5).mono ?_
          rintro e W16 ⟨rfl, hb⟩
          have HX' := Lib.hid (HX.out.kept hb)
          have HO' := Lib.hid (HO.out.kept hb)
          clear hb
          clear HX HO
          have HX := HX'
          have HO := HO'
          clear HX' HO'
          cases sd
          case false =>
            go_wp2_with fail
            refine (fail_rf b _ _ _ HX.out.rr).mono ?_
            rintro e W18 ⟨rfl, hx, ht⟩
            have HX' := Lib.hid (HX.out.call hx ht)
            clear hx ht
            clear HX
            have HX := HX'
            clear HX'
            obtain ⟨r0, r1, r2, r3, r4, r5, r6, r7, r8, r9, r10, r11, r12, r13⟩ := rep_at HX.out.res
            have rf := rep_fr HX.out.res
            go_wp2_with fail
            clear r0 r1 r2 r3 r4 r5 r6 r7 r8 r9 r10 r11 r12 r13 rf
            have hp := put14_at HX.out.res (.int .i64 0) (.int .i64 0) (.int .u64 0) (.int .i64 0) (.int .i64 0) (.int .i64 0) (.int .u64 0) (.int .i64 0) (.int .i64 0) (.int .i64 0) (.int .i64 0) (.slice none 0 0) (.int .u64 0) (.int .i64 0)
            have hb := put14_below (B := w.heap.size) W18 (Nat.le_refl w.heap.size) (.int .i64 0) (.int .i64 0) (.int .u64 0) (.int .i64 0) (.int .i64 0) (.int .i64 0) (.int .u64 0) (.int .i64 0) (.int .i64 0) (.int .i64 0) (.int .i64 0) (.slice none 0 0) (.int .u64 0) (.int .i64 0)
            have hrr := HX.out.rr.under hb HX.out.hb
            have hrd := HX.out.rd.under hb (Nat.le_refl _)
            have hfin : ReadF b ds w (.returned (.tuple #[.agg #[.int .i64 0, .int .i64 0, .int .u64 0, .int .i64 0, .int .i64 0, .int .i64 0, .int .u64 0, .int .i64 0, .int .i64 0, .int .i64 0, .int .i64 0, .slice none 0 0, .int .u64 0, .int .i64 0], .bool false])) (put14 W18 w.heap.size (.int .i64 0) (.int .i64 0) (.int .u64 0) (.int .i64 0) (.int .i64 0) (.int .i64 0) (.int .u64 0) (.int .i64 0) (.int .i64 0) (.int .i64 0) (.int .i64 0) (.slice none 0 0) (.int .u64 0) (.int .i64 0)) := ⟨fun h => by rw [HOK.out] at h; simp at h, fun _ => ⟨rfl, hrr, hrd⟩⟩
            unfold put14 at hp hfin
            clear hrr hrd hb
            obtain ⟨p0, p1, p2, p3, p4, p5, p6, p7, p8, p9, p10, p11, p12, p13⟩ := rep_at hp
            exact bodyPost_ret (v := .tuple #[.agg #[.int .i64 0, .int .i64 0, .int .u64 0, .int .i64 0, .int .i64 0, .int .i64 0, .int .u64 0, .int .i64 0, .int .i64 0, .int .i64 0, .int .i64 0, .slice none 0 0, .int .u64 0, .int .i64 0], .bool false]) (by simp [results, Try.results25, go_sem, p0, p1, p2, p3, p4, p5, p6, p7, p8, p9, p10, p11, p12, p13]) rfl hfin
          obtain ⟨q0, q1, q2, q3, q4, q5, q6, q7, q8, q9, q10, q11, q12, q13⟩ := rep_at HX.out.box
          obtain ⟨r0, r1, r2, r3, r4, r5, r6, r7, r8, r9, r10, r11, r12, r13⟩ := rep_at HX.out.res
          have rf := rep_fr HX.out.res
          go_wp2_with fail
          clear q0 q1 q2 q3 q4 q5 q6 q7 q8 q9 q10 q11 q12 q13 r0 r1 r2 r3 r4 r5 r6 r7 r8 r9 r10 r11 r12 r13 rf
          have hp := put14_at HX.out.res (.int .i64 (c : Int)) (.int .i64 tm) (.int .u64 0) (.int .i64 0) (.int .i64 0) (.int .i64 0) (.int .u64 0) (.int .i64 0) (.int .i64 0) (.int .i64 0) (.int .i64 0) (.slice a5 l5 c5) (.int .u64 (nt : Int)) (.int .i64 (de : Int))
          have hb := put14_below (B := w.heap.size) W16 (Nat.le_refl w.heap.size) (.int .i64 (c : Int)) (.int .i64 tm) (.int .u64 0) (.int .i64 0) (.int .i64 0) (.int .i64 0) (.int .u64 0) (.int .i64 0) (.int .i64 0) (.int .i64 0) (.int .i64 0) (.slice a5 l5 c5) (.int .u64 (nt : Int)) (.int .i64 (de : Int))
          have hrr := HX.out.rr.under hb HX.out.hb
          have hrd := HX.out.rd.under hb (Nat.le_refl _)
          have hlt := HX.out.lt
          have ho : OU (put14 W16 w.heap.size (.int .i64 (c : Int)) (.int .i64 tm) (.int .u64 0) (.int .i64 0) (.int .i64 0) (.int .i64 0) (.int .u64 0) (.int .i64 0) (.int .i64 0) (.int .i64 0) (.int .i64 0) (.slice a5 l5 c5) (.int .u64 (nt : Int)) (.int .i64 (de : Int))) (g + 1) (.slice a5 l5 c5) D := by
            unfold put14
            have hl : w.heap.size < g + 1 := by omega
            exact (((((((((((((HO.out.set (p := ⟨_, 0, none⟩) hl _).set (p := ⟨_, 1, none⟩) hl _).set (p := ⟨_, 2, none⟩) hl _).set (p := ⟨_, 3, none⟩) hl _).set (p := ⟨_, 4, none⟩) hl _).set (p := ⟨_, 5, none⟩) hl _).set (p := ⟨_, 6, none⟩) hl _).set (p := ⟨_, 7, none⟩) hl _).set (p := ⟨_, 8, none⟩) hl _).set (p := ⟨_, 9, none⟩) hl _).set (p := ⟨_, 10, none⟩) hl _).set (p := ⟨_, 11, none⟩) hl _).set (p := ⟨_, 12, none⟩) hl _).set (p := ⟨_, 13, none⟩) hl _
          have hfin : ReadF b ds w (.returned (.tuple #[.agg #[.int .i64 (c : Int), .int .i64 tm, .int .u64 0, .int .i64 0, .int .i64 0, .int .i64 0, .int .u64 0, .int .i64 0, .int .i64 0, .int .i64 0, .int .i64 0, .slice a5 l5 c5, .int .u64 (nt : Int), .int .i64 (de : Int)], .bool true])) (put14 W16 w.heap.size (.int .i64 (c : Int)) (.int .i64 tm) (.int .u64 0) (.int .i64 0) (.int .i64 0) (.int .i64 0) (.int .u64 0) (.int .i64 0) (.int .i64 0) (.int .i64 0) (.int .i64 0) (.slice a5 l5 c5) (.int .u64 (nt : Int)) (.int .i64 (de : Int))) :=
            ⟨fun _ => ⟨a5, c5, by rw [HY1.out.1]; rfl, by rw [← HDX.out, HL5.out]; exact ho.mono (by omega), hrr, hrd⟩, fun h => by rw [HOK.out] at h; simp at h⟩
          unfold put14 at hp hfin
          clear hrr hrd hb ho
          obtain ⟨p0, p1, p2, p3, p4, p5, p6, p7, p8, p9, p10, p11, p12, p13⟩ := rep_at hp
          exact bodyPost_ret (v := .tuple #[.agg #[.int .i64 (c : Int), .int .i64 tm, .int .u64 0, .int .i64 0, .int .i64 0, .int .i64 0, .int .u64 0, .int .i64 0, .int .i64 0, .int .i64 0, .int .i64 0, .slice a5 l5 c5, .int .u64 (nt : Int), .int .i64 (de : Int)], .bool true]) (by simp [results, Try.results25, go_sem, p0, p1, p2, p3, p4, p5, p6, p7, p8, p9, p10, p11, p12, p13]) rfl hfin
  case true =>
    have hy4 : y4 ds = tkRest (y3 ds) := by unfold y4; rw [hz]; rfl
    have hyn : yNine ds = tkN (y3 ds) := by unfold yNine; rw [hz]; rfl
    have hy := HY0.out _ _ _ _ _ _ _ _ _ hm
    have hb3 := HBO.out hz
    rw [← hyn, hm, ← hy4] at HK1
    clear hy4 hz hm hyn
    unfold Nine.t tkV at HK1
    obtain ⟨ok3, eok⟩ : ∃ x, tkOk (y3 ds) = x := ⟨_, rfl⟩
    rw [eok] at HK1 hb3
    have HB3 : Hid (ok3 = false → nB 128 (y7 ds) = true) := Lib.hid hb3
    obtain ⟨x1, ex1⟩ : ∃ x : Int, (t1 : Int) = x := ⟨_, rfl⟩
    obtain ⟨x2, ex2⟩ : ∃ x : Int, (t2 : Int) = x := ⟨_, rfl⟩
    obtain ⟨x3, ex3⟩ : ∃ x : Int, (t3 : Int) = x := ⟨_, rfl⟩
    obtain ⟨x4, ex4⟩ : ∃ x : Int, (t4 : Int) = x := ⟨_, rfl⟩
    obtain ⟨x5, ex5⟩ : ∃ x : Int, (t5 : Int) = x := ⟨_, rfl⟩
    obtain ⟨x6, ex6⟩ : ∃ x : Int, (t6 : Int) = x := ⟨_, rfl⟩
    obtain ⟨x7, ex7⟩ : ∃ x : Int, (t7 : Int) = x := ⟨_, rfl⟩
    obtain ⟨x8, ex8⟩ : ∃ x : Int, (t8 : Int) = x := ⟨_, rfl⟩
    obtain ⟨x9, ex9⟩ : ∃ x : Int, (t9 : Int) = x := ⟨_, rfl⟩
    simp only [ex1, ex2, ex3, ex4, ex5, ex6, ex7, ex8, ex9] at HK1 hy
    have HY := Lib.hid hy
    clear ex1 ex2 ex3 ex4 ex5 ex6 ex7 ex8 ex9 eok hy hb3
    go_wp2_with fail
    refine (HK1.out _ _ HX.out.rr).mono ?_
    rintro e W3 ⟨rfl, hx, ht⟩
    have HX' := Lib.hid (HX.out.call hx ht)
    clear hx ht
    clear HX
    have HX := HX'
    clear HX'
    obtain ⟨q0, q1, q2, q3, q4, q5, q6, q7, q8, q9, q10, q11, q12, q13⟩ := rep_at HX.out.box
    have qf := rep_fr HX.out.box
    have hx9 := (((((((((HX.out.set 2 (.int .u64 x1) rfl).set 3 (.int .i64 x2) rfl).set 4 (.int .i64 x3) rfl).set 5 (.int .i64 x4) rfl).set 6 (.int .u64 x5) rfl).set 7 (.int .i64 x6) rfl).set 8 (.int .i64 x7) rfl).set 9 (.int .i64 x8) rfl).set 10 (.int .i64 x9) rfl)
    simp only [List.setIfInBounds_toArray, List.set_cons_zero, List.set_cons_succ] at hx9
    have HX' := Lib.hid hx9
    clear hx9
    clear HX
    have HX := HX'
    clear HX'
    go_wp2_with fail
    clear q0 q1 q2 q3 q4 q5 q6 q7 q8 q9 q10 q11 q12 q13 qf
    generalize (((((((((W3.setCell ⟨g, 2, none⟩ (.int .u64 x1)).setCell ⟨g, 3, none⟩ (.int .i64 x2)).setCell ⟨g, 4, none⟩ (.int .i64 x3)).setCell ⟨g, 5, none⟩ (.int .i64 x4)).setCell ⟨g, 6, none⟩ (.int .u64 x5)).setCell ⟨g, 7, none⟩ (.int .i64 x6)).setCell ⟨g, 8, none⟩ (.int .i64 x7)).setCell ⟨g, 9, none⟩ (.int .i64 x8)).setCell ⟨g, 10, none⟩ (.int .i64 x9)) = W3b at HX ⊢
    refine (HN64.out _ _ HX.out.rr).mono ?_
    rintro e W6 ⟨rfl, hx, ht⟩
    have HX' := Lib.hid (HX.out.call hx ht)
    clear hx ht
    clear HX
    have HX := HX'
    clear HX'
    have HO0 : Hid (OU W6 (g + 1) (.slice none 0 0) []) := Lib.hid (OU.nil _ _)
    go_wp2_with fail
    go_loopg [7] n (fun kx s7 wr => ∃ (k : Nat) (D : List Nat) (es : List Nat) (bd : Bool) (v : Value), s7 = .int .u64 k ∧ k ≤ n ∧ n - k ≤ kx ∧ Hid (D.length = k ∧ D ++ qL 18446744073709551615 (n - k) es = yXs ds ∧ qR 18446744073709551615 (n - k) es = y6 ds) ∧ Hid (AsmF w b es bd g #[.int .i64 (c : Int), .int .i64 tm, .int .u64 x1, .int .i64 x2, .int .i64 x3, .int .i64 x4, .int .u64 x5, .int .i64 x6, .int .i64 x7, .int .i64 x8, .int .i64 x9, v, .int .u64 0, .int .i64 0] wr) ∧ Hid (OU wr (g + 1) v D))
    case atStart => exact ⟨0, [], y5 ds, _, _, rfl, by omega, by omega, HLL, HX, HO0⟩
    case round =>
      obtain ⟨k, D, es, bd, v, rfl, hk, hkx, HDL, HX, HO⟩ := hrel
      obtain ⟨a5, c5, hv5, -, -⟩ := OU.shape HO.out
      subst hv5
      obtain ⟨l5, hl5⟩ : ∃ x, D.length = x := ⟨_, rfl⟩
      rw [hl5] at HX HO
      by_cases hlt : k < n
      · have hltz : (k : Int) < (n : Int) := by omega
        have hnk : n - k = (n - (k + 1)) + 1 := by omega
        have HDD : Hid ((D ++ [nN 18446744073709551615 es]).length = k + 1 ∧ (D ++ [nN 18446744073709551615 es]) ++ qL 18446744073709551615 (n - (k + 1)) (nR 18446744073709551615 es) = yXs ds ∧ qR 18446744073709551615 (n - (k + 1)) (nR 18446744073709551615 es) = y6 ds) := by
          have h := HDL.out
          rw [hnk, qL, qR] at h
          exact Lib.hid ⟨by rw [List.length_append, h.1]; rfl, by rw [List.append_assoc]; exact h.2.1, h.2.2⟩
        have HN2 : Hid (∀ W bd, RF W b es bd → Calls Try.prog 64 #[.pointer (some ⟨b, 0, none⟩), .int .u64 18446744073709551615] W fun e w' => e = .returned (.int .u64 ((nN 18446744073709551615 es : Nat) : Int)) ∧ RF w' b (nR 18446744073709551615 es) (nB 18446744073709551615 es) ∧ Rd b W w') := Lib.hid (fun W bd h => num_rf1 b 18446744073709551615 _ bd W h)
        obtain ⟨f, e1⟩ : ∃ x, nN 18446744073709551615 es = x := ⟨_, rfl⟩
        obtain ⟨es1, e2⟩ : ∃ x, nR 18446744073709551615 es = x := ⟨_, rfl⟩
        obtain ⟨bd1, e3⟩ : ∃ x, nB 18446744073709551615 es = x := ⟨_, rfl⟩
        rw [e1, e2, e3] at HN2
        rw [e1, e2] at HDD
        have HLD : Hid (D.length ≤ 100000) := Lib.hid (by have := HDL.out.1; have := HN64L.out; omega)
        clear e1 e2 e3 hnk HDL hl5
        have cd0 : Below wr.heap.size wr wr.drew := (Below.refl _ _).drew
        have HX' := Lib.hid (HX.out.kept cd0)
        have HO' := Lib.hid (HO.out.kept cd0)
        clear cd0
        clear HX HO
        have HX := HX'
        have HO := HO'
        clear HX' HO'
        go_wp2_with fail
        refine wp_region_held_drew (S := fun _ => True) (by kernel_rfl) trivial (fun hHeld => ?_)
        clear hHeld
        generalize wr.drew = wd at HX HO ⊢
        refine wpAnyH_take (i := 0) (v := ?_) rfl (by kernel_rfl) (by kernel_rfl) (by kernel_rfl) (fun _ _ _ h => h) (Or.inl ⟨by rfl, ?_⟩) trivial ?_
        case refine_2 => (intro w1 hS1; (try dsimp only at hS1); go_simp; try with_reducible rfl)
        try simp only [List.getElem_toArray, List.getElem_cons_zero, List.getElem_cons_succ, Act.put, List.setIfInBounds_toArray, List.set_cons_zero, List.set_cons_succ]
        refine wpAnyH_take (i := 2) (v := ?_) rfl (by kernel_rfl) (by kernel_rfl) (by kernel_rfl) (fun _ _ _ h => h) (Or.inl ⟨by rfl, ?_⟩) trivial ?_
        case refine_2 => (intro w1 hS1; (try dsimp only at hS1); go_simp; try with_reducible rfl)
        try simp only [List.getElem_toArray, List.getElem_cons_zero, List.getElem_cons_succ, Act.put, List.setIfInBounds_toArray, List.set_cons_zero, List.set_cons_succ]
        refine wpAnyH_ready (rs := [1, 3]) (by kernel_rfl) (by simp) ?_
        refine AllReadyH.cons rfl (fun K hK => ?_) (AllReadyH.cons rfl (fun K hK => ?_) (AllReadyH.nil))
        · obtain ⟨q0, q1, q2, q3, q4, q5, q6, q7, q8, q9, q10, q11, q12, q13⟩ := rep_at HX.out.box
          go_simp
          clear q0 q1 q2 q3 q4 q5 q6 q7 q8 q9 q10 q11 q12 q13
          refine hK.out _ _ trivial (fun hHeld => ?_)
          clear hK K hHeld
          try simp only [List.getElem_toArray, List.getElem_cons_zero, List.getElem_cons_succ, Act.put, List.setIfInBounds_toArray, List.set_cons_zero, List.set_cons_succ]
          refine wpAnyH_ready (rs := [3]) (by kernel_rfl) (by simp) ?_
          refine AllReadyH.cons rfl (fun K hK => ?_) (AllReadyH.nil)
          go_simp
          refine (HN2.out _ _ HX.out.rr).mono ?_
          rintro e w2 ⟨rfl, hx, ht⟩
          have HX' := Lib.hid (HX.out.call hx ht)
          have HO' := Lib.hid (HO.out.rd ht (by have := HX.out.lt; have := HX.out.hb; omega))
          clear hx ht
          clear HX HO
          have HX := HX'
          have HO := HO'
          clear HX' HO'
          refine hK.out _ _ trivial (fun hHeld => ?_)
          clear hK K hHeld
          try simp only [List.getElem_toArray, List.getElem_cons_zero, List.getElem_cons_succ, Act.put, List.setIfInBounds_toArray, List.set_cons_zero, List.set_cons_succ]
          refine wpAnyH_ready (rs := [4]) (by kernel_rfl) (by simp) ?_
          refine AllReadyH.cons rfl (fun K hK => ?_) (AllReadyH.nil)
          have HV : Hid ((w2.alloc (.cells #[.int .u64 (f : Int)] 23)).cell? ⟨w2.heap.size, 0, none⟩ = some (.int .u64 (f : Int))) := Lib.hid (one_at (box1 w2 #[.int .u64 (f : Int)] 23).2.1)
          have B4 := (box1 w2 #[.int .u64 (f : Int)] 23).1
          have HX' := Lib.hid (HX.out.kept B4)
          have HO' := Lib.hid (HO.out.kept B4)
          have HZ4 : Hid (g + 1 ≤ (w2.alloc (.cells #[.int .u64 (f : Int)] 23)).heap.size) := Lib.hid (ex_lt HX'.out.box)
          clear B4
          clear HX HO
          have HX := HX'
          have HO := HO'
          clear HX' HO'
          go_simp
          refine hK.out _ _ trivial (fun hHeld => ?_)
          clear hK K hHeld
          try simp only [List.getElem_toArray, List.getElem_cons_zero, List.getElem_cons_succ, Act.put, List.setIfInBounds_toArray, List.set_cons_zero, List.set_cons_succ]
          refine wpAnyH_ready (rs := [5]) (by kernel_rfl) (by simp) ?_
          refine AllReadyH.cons rfl (fun K hK => ?_) (AllReadyH.nil)
          refine step_append_u rfl (.tmp 31) (.tmp 34) rfl (g + 1) (.slice a5 l5 c5) D f ⟨w2.heap.size, 0, none⟩ 1 rfl rfl HO.out HV.out HLD.out HZ4.out ?_
          intro v5 w5 ho5 hst
          obtain ⟨a6, c6, hv5, -, -⟩ := OU.shape ho5
          obtain ⟨l6, hl6⟩ : ∃ x, (D ++ [f]).length = x := ⟨_, rfl⟩
          rw [hl6] at hv5
          subst hv5
          have B5 := hst.below (Below.refl (g + 1) _)
          have HX' := Lib.hid (HX.out.under B5)
          have HO' := Lib.hid ho5
          clear B5 ho5 hst hl6 HV HZ4
          clear HX HO
          have HX := HX'
          have HO := HO'
          clear HX' HO'
          refine hK.out _ _ trivial (fun hHeld => ?_)
          clear hK K hHeld
          try simp only [List.getElem_toArray, List.getElem_cons_zero, List.getElem_cons_succ, Act.put, List.setIfInBounds_toArray, List.set_cons_zero, List.set_cons_succ]
          refine wpAnyH_take (i := 6) (v := ?_) rfl (by kernel_rfl) (by kernel_rfl) (by kernel_rfl) (fun _ _ _ h => h) (Or.inl ⟨by rfl, ?_⟩) trivial ?_
          case refine_2 => (intro w1 hS1; (try dsimp only at hS1); go_simp; try with_reducible rfl)
          try simp only [List.getElem_toArray, List.getElem_cons_zero, List.getElem_cons_succ, Act.put, List.setIfInBounds_toArray, List.set_cons_zero, List.set_cons_succ]
          refine wpAnyH_ready (rs := [7]) (by kernel_rfl) (by simp) ?_
          refine AllReadyH.cons rfl (fun K hK => ?_) AllReadyH.nil
          obtain ⟨q0, q1, q2, q3, q4, q5, q6, q7, q8, q9, q10, q11, q12, q13⟩ := rep_at HX.out.box
          have qf := rep_fr HX.out.box
          have hX := HX.out.set 11 (.slice a6 l6 c6) rfl
          simp only [List.setIfInBounds_toArray, List.set_cons_zero, List.set_cons_succ] at hX
          have HX' := Lib.hid hX
          have HO' := Lib.hid (HO.out.set (p := ⟨g, 11, none⟩) (Nat.lt_succ_self g) (.slice a6 l6 c6))
          clear hX
          clear HX HO
          have HX := HX'
          have HO := HO'
          clear HX' HO'
          go_simp
          clear q0 q1 q2 q3 q4 q5 q6 q7 q8 q9 q10 q11 q12 q13 qf
          refine hK.out _ _ trivial (fun hHeld => ?_)
          clear hK K hHeld
          try simp only [List.getElem_toArray, List.getElem_cons_zero, List.getElem_cons_succ, Act.put, List.setIfInBounds_toArray, List.set_cons_zero, List.set_cons_succ]
          refine wpAnyH_done (by kernel_rfl) ?_ _
          go_wp2_with fail
          go_roundg (n - (k + 1))
          case measure => omega
          case rel => exact ⟨k + 1, D ++ [f], es1, bd1, _, by have hw := wrap_upU k (by have := HN64L.out; omega); first | (rw [hw.1]; rfl) | (rw [hw.2]; rfl) | go_num, by omega, by omega, HDD, HX, HO⟩
        · go_simp
          refine (HN2.out _ _ HX.out.rr).mono ?_
          rintro e w2 ⟨rfl, hx, ht⟩
          have HX' := Lib.hid (HX.out.call hx ht)
          have HO' := Lib.hid (HO.out.rd ht (by have := HX.out.lt; have := HX.out.hb; omega))
          clear hx ht
          clear HX HO
          have HX := HX'
          have HO := HO'
          clear HX' HO'
          refine hK.out _ _ trivial (fun hHeld => ?_)
          clear hK K hHeld
          try simp only [List.getElem_toArray, List.getElem_cons_zero, List.getElem_cons_succ, Act.put, List.setIfInBounds_toArray, List.set_cons_zero, List.set_cons_succ]
          refine wpAnyH_ready (rs := [1, 4]) (by kernel_rfl) (by simp) ?_
          refine AllReadyH.cons rfl (fun K hK => ?_) (AllReadyH.cons rfl (fun K hK => ?_) (AllReadyH.nil))
          · obtain ⟨q0, q1, q2, q3, q4, q5, q6, q7, q8, q9, q10, q11, q12, q13⟩ := rep_at HX.out.box
            go_simp
            clear q0 q1 q2 q3 q4 q5 q6 q7 q8 q9 q10 q11 q12 q13
            refine hK.out _ _ trivial (fun hHeld => ?_)
            clear hK K hHeld
            try simp only [List.getElem_toArray, List.getElem_cons_zero, List.getElem_cons_succ, Act.put, List.setIfInBounds_toArray, List.set_cons_zero, List.set_cons_succ]
            refine wpAnyH_ready (rs := [4]) (by kernel_rfl) (by simp) ?_
            refine AllReadyH.cons rfl (fun K hK => ?_) (AllReadyH.nil)
            have HV : Hid ((w2.alloc (.cells #[.int .u64 (f : Int)] 23)).cell? ⟨w2.heap.size, 0, none⟩ = some (.int .u64 (f : Int))) := Lib.hid (one_at (box1 w2 #[.int .u64 (f : Int)] 23).2.1)
            have B4 := (box1 w2 #[.int .u64 (f : Int)] 23).1
            have HX' := Lib.hid (HX.out.kept B4)
            have HO' := Lib.hid (HO.out.kept B4)
            have HZ4 : Hid (g + 1 ≤ (w2.alloc (.cells #[.int .u64 (f : Int)] 23)).heap.size) := Lib.hid (ex_lt HX'.out.box)
            clear B4
            clear HX HO
            have HX := HX'
            have HO := HO'
            clear HX' HO'
            go_simp
            refine hK.out _ _ trivial (fun hHeld => ?_)
            clear hK K hHeld
            try simp only [List.getElem_toArray, List.getElem_cons_zero, List.getElem_cons_succ, Act.put, List.setIfInBounds_toArray, List.set_cons_zero, List.set_cons_succ]
            refine wpAnyH_ready (rs := [5]) (by kernel_rfl) (by simp) ?_
            refine AllReadyH.cons rfl (fun K hK => ?_) (AllReadyH.nil)
            refine step_append_u rfl (.tmp 31) (.tmp 34) rfl (g + 1) (.slice a5 l5 c5) D f ⟨w2.heap.size, 0, none⟩ 1 rfl rfl HO.out HV.out HLD.out HZ4.out ?_
            intro v5 w5 ho5 hst
            obtain ⟨a6, c6, hv5, -, -⟩ := OU.shape ho5
            obtain ⟨l6, hl6⟩ : ∃ x, (D ++ [f]).length = x := ⟨_, rfl⟩
            rw [hl6] at hv5
            subst hv5
            have B5 := hst.below (Below.refl (g + 1) _)
            have HX' := Lib.hid (HX.out.under B5)
            have HO' := Lib.hid ho5
            clear B5 ho5 hst hl6 HV HZ4
            clear HX HO
            have HX := HX'
            have HO := HO'
            clear HX' HO'
            refine hK.out _ _ trivial (fun hHeld => ?_)
            clear hK K hHeld
            try simp only [List.getElem_toArray, List.getElem_cons_zero, List.getElem_cons_succ, Act.put, List.setIfInBounds_toArray, List.set_cons_zero, List.set_cons_succ]
            refine wpAnyH_take (i := 6) (v := ?_) rfl (by kernel_rfl) (by kernel_rfl) (by kernel_rfl) (fun _ _ _ h => h) (Or.inl ⟨by rfl, ?_⟩) trivial ?_
            case refine_2 => (intro w1 hS1; (try dsimp only at hS1); go_simp; try with_reducible rfl)
            try simp only [List.getElem_toArray, List.getElem_cons_zero, List.getElem_cons_succ, Act.put, List.setIfInBounds_toArray, List.set_cons_zero, List.set_cons_succ]
            refine wpAnyH_ready (rs := [7]) (by kernel_rfl) (by simp) ?_
            refine AllReadyH.cons rfl (fun K hK => ?_) AllReadyH.nil
            obtain ⟨q0, q1, q2, q3, q4, q5, q6, q7, q8, q9, q10, q11, q12, q13⟩ := rep_at HX.out.box
            have qf := rep_fr HX.out.box
            have hX := HX.out.set 11 (.slice a6 l6 c6) rfl
            simp only [List.setIfInBounds_toArray, List.set_cons_zero, List.set_cons_succ] at hX
            have HX' := Lib.hid hX
            have HO' := Lib.hid (HO.out.set (p := ⟨g, 11, none⟩) (Nat.lt_succ_self g) (.slice a6 l6 c6))
            clear hX
            clear HX HO
            have HX := HX'
            have HO := HO'
            clear HX' HO'
            go_simp
            clear q0 q1 q2 q3 q4 q5 q6 q7 q8 q9 q10 q11 q12 q13 qf
            refine hK.out _ _ trivial (fun hHeld => ?_)
            clear hK K hHeld
            try simp only [List.getElem_toArray, List.getElem_cons_zero, List.getElem_cons_succ, Act.put, List.setIfInBounds_toArray, List.set_cons_zero, List.set_cons_succ]
            refine wpAnyH_done (by kernel_rfl) ?_ _
            go_wp2_with fail
            go_roundg (n - (k + 1))
            case measure => omega
            case rel => exact ⟨k + 1, D ++ [f], es1, bd1, _, by have hw := wrap_upU k (by have := HN64L.out; omega); first | (rw [hw.1]; rfl) | (rw [hw.2]; rfl) | go_num, by omega, by omega, HDD, HX, HO⟩
          · have HV : Hid ((w2.alloc (.cells #[.int .u64 (f : Int)] 23)).cell? ⟨w2.heap.size, 0, none⟩ = some (.int .u64 (f : Int))) := Lib.hid (one_at (box1 w2 #[.int .u64 (f : Int)] 23).2.1)
            have B4 := (box1 w2 #[.int .u64 (f : Int)] 23).1
            have HX' := Lib.hid (HX.out.kept B4)
            have HO' := Lib.hid (HO.out.kept B4)
            have HZ4 : Hid (g + 1 ≤ (w2.alloc (.cells #[.int .u64 (f : Int)] 23)).heap.size) := Lib.hid (ex_lt HX'.out.box)
            clear B4
            clear HX HO
            have HX := HX'
            have HO := HO'
            clear HX' HO'
            go_simp
            refine hK.out _ _ trivial (fun hHeld => ?_)
            clear hK K hHeld
            try simp only [List.getElem_toArray, List.getElem_cons_zero, List.getElem_cons_succ, Act.put, List.setIfInBounds_toArray, List.set_cons_zero, List.set_cons_succ]
            refine wpAnyH_ready (rs := [1]) (by kernel_rfl) (by simp) ?_
            refine AllReadyH.cons rfl (fun K hK => ?_) (AllReadyH.nil)
            obtain ⟨q0, q1, q2, q3, q4, q5, q6, q7, q8, q9, q10, q11, q12, q13⟩ := rep_at HX.out.box
            go_simp
            clear q0 q1 q2 q3 q4 q5 q6 q7 q8 q9 q10 q11 q12 q13
            refine hK.out _ _ trivial (fun hHeld => ?_)
            clear hK K hHeld
            try simp only [List.getElem_toArray, List.getElem_cons_zero, List.getElem_cons_succ, Act.put, List.setIfInBounds_toArray, List.set_cons_zero, List.set_cons_succ]
            refine wpAnyH_ready (rs := [5]) (by kernel_rfl) (by simp) ?_
            refine AllReadyH.cons rfl (fun K hK => ?_) (AllReadyH.nil)
            refine step_append_u rfl (.tmp 31) (.tmp 34) rfl (g + 1) (.slice a5 l5 c5) D f ⟨w2.heap.size, 0, none⟩ 1 rfl rfl HO.out HV.out HLD.out HZ4.out ?_
            intro v5 w5 ho5 hst
            obtain ⟨a6, c6, hv5, -, -⟩ := OU.shape ho5
            obtain ⟨l6, hl6⟩ : ∃ x, (D ++ [f]).length = x := ⟨_, rfl⟩
            rw [hl6] at hv5
            subst hv5
            have B5 := hst.below (Below.refl (g + 1) _)
            have HX' := Lib.hid (HX.out.under B5)
            have HO' := Lib.hid ho5
            clear B5 ho5 hst hl6 HV HZ4
            clear HX HO
            have HX := HX'
            have HO := HO'
            clear HX' HO'
            refine hK.out _ _ trivial (fun hHeld => ?_)
            clear hK K hHeld
            try simp only [List.getElem_toArray, List.getElem_cons_zero, List.getElem_cons_succ, Act.put, List.setIfInBounds_toArray, List.set_cons_zero, List.set_cons_succ]
            refine wpAnyH_take (i := 6) (v := ?_) rfl (by kernel_rfl) (by kernel_rfl) (by kernel_rfl) (fun _ _ _ h => h) (Or.inl ⟨by rfl, ?_⟩) trivial ?_
            case refine_2 => (intro w1 hS1; (try dsimp only at hS1); go_simp; try with_reducible rfl)
            try simp only [List.getElem_toArray, List.getElem_cons_zero, List.getElem_cons_succ, Act.put, List.setIfInBounds_toArray, List.set_cons_zero, List.set_cons_succ]
            refine wpAnyH_ready (rs := [7]) (by kernel_rfl) (by simp) ?_
            refine AllReadyH.cons rfl (fun K hK => ?_) AllReadyH.nil
            obtain ⟨q0, q1, q2, q3, q4, q5, q6, q7, q8, q9, q10, q11, q12, q13⟩ := rep_at HX.out.box
            have qf := rep_fr HX.out.box
            have hX := HX.out.set 11 (.slice a6 l6 c6) rfl
            simp only [List.setIfInBounds_toArray, List.set_cons_zero, List.set_cons_succ] at hX
            have HX' := Lib.hid hX
            have HO' := Lib.hid (HO.out.set (p := ⟨g, 11, none⟩) (Nat.lt_succ_self g) (.slice a6 l6 c6))
            clear hX
            clear HX HO
            have HX := HX'
            have HO := HO'
            clear HX' HO'
            go_simp
            clear q0 q1 q2 q3 q4 q5 q6 q7 q8 q9 q10 q11 q12 q13 qf
            refine hK.out _ _ trivial (fun hHeld => ?_)
            clear hK K hHeld
            try simp only [List.getElem_toArray, List.getElem_cons_zero, List.getElem_cons_succ, Act.put, List.setIfInBounds_toArray, List.set_cons_zero, List.set_cons_succ]
            refine wpAnyH_done (by kernel_rfl) ?_ _
            go_wp2_with fail
            go_roundg (n - (k + 1))
            case measure => omega
            case rel => exact ⟨k + 1, D ++ [f], es1, bd1, _, by have hw := wrap_upU k (by have := HN64L.out; omega); first | (rw [hw.1]; rfl) | (rw [hw.2]; rfl) | go_num, by omega, by omega, HDD, HX, HO⟩
      · have hltz : ¬ (k : Int) < (n : Int) := by omega
        obtain rfl : k = n := by omega
        have hd := HDL.out
        rw [Nat.sub_self, qL, qR, List.append_nil] at hd
        obtain ⟨hd1, hd2, hd3⟩ := hd
        subst hd3
        have HDX := Lib.hid hd2
        have HL5 := Lib.hid hl5
        clear hd1 hd2 HDL hl5 hk hkx hltz hlt
        go_wp2_with fail
        refine (HN3.out _ _ HX.out.rr).mono ?_
        rintro e W12 ⟨rfl, hx, ht⟩
        have HX' := Lib.hid (HX.out.call hx ht)
        have HO' := Lib.hid (HO.out.rd ht (by have := HX.out.lt; have := HX.out.hb; omega))
        clear hx ht
        clear HX HO
        have HX := HX'
        have HO := HO'
        clear HX' HO'
        obtain ⟨q0, q1, q2, q3, q4, q5, q6, q7, q8, q9, q10, q11, q12, q13⟩ := rep_at HX.out.box
        have qf := rep_fr HX.out.box
        have hX := HX.out.set 12 (.int .u64 (nt : Int)) rfl
        simp only [List.setIfInBounds_toArray, List.set_cons_zero, List.set_cons_succ] at hX
        have HX' := Lib.hid hX
        have HO' := Lib.hid (HO.out.set (p := ⟨g, 12, none⟩) (Nat.lt_succ_self g) (.int .u64 (nt : Int)))
        clear hX
        clear HX HO
        have HX := HX'
        have HO := HO'
        clear HX' HO'
        go_wp2_with fail
        clear q0 q1 q2 q3 q4 q5 q6 q7 q8 q9 q10 q11 q12 q13 qf
        generalize W12.setCell ⟨g, 12, none⟩ (.int .u64 (nt : Int)) = W13 at HX HO ⊢
        refine (HN4.out _ _ HX.out.rr).mono ?_
        rintro e W14 ⟨rfl, hx, ht⟩
        have HX' := Lib.hid (HX.out.call hx ht)
        have HO' := Lib.hid (HO.out.rd ht (by have := HX.out.lt; have := HX.out.hb; omega))
        clear hx ht
        clear HX HO
        have HX := HX'
        have HO := HO'
        clear HX' HO'
        obtain ⟨bd, ebd⟩ : ∃ x, nB 128 (y7 ds) = x := ⟨_, rfl⟩
        obtain ⟨sd, esd⟩ : ∃ x, yS ds = x := ⟨_, rfl⟩
        have HY1 : Hid ((∀ a ca, yV ds a ca = repV (c : Int) tm x1 x2 x3 x4 x5 x6 x7 x8 x9 a l5 ca (nt : Int) (de : Int)) ∧ yS ds = repS (c : Int) tm x1 x2 x3 x4 x5 x6 x7 x8 x9 l5 (de : Int)) := Lib.hid (by
          have h := HY.out
          rw [← HDX.out, HL5.out] at h
          exact h)
        have HSN : Hid (∀ W a, ∀ ca : Nat, Calls Try.prog 15 #[repV (c : Int) tm x1 x2 x3 x4 x5 x6 x7 x8 x9 a l5 ca (nt : Int) (de : Int)] W fun e w' => e = .returned (.bool (yS ds)) ∧ Below W.heap.size W w') := Lib.hid (fun W a ca => by rw [HY1.out.2]; exact rrsound19 (c : Int) tm x1 x2 x3 x4 x5 x6 x7 x8 x9 a l5 ca (nt : Int) (de : Int) W)
        rw [ebd] at HX HOK
        rw [esd] at HSN HOK
        have HEB := Lib.hid ebd
        clear esd ebd
        unfold repV at HSN
        obtain ⟨q0, q1, q2, q3, q4, q5, q6, q7, q8, q9, q10, q11, q12, q13⟩ := rep_at HX.out.box
        have qf := rep_fr HX.out.box
        have hX := HX.out.set 13 (.int .i64 (de : Int)) rfl
        simp only [List.setIfInBounds_toArray, List.set_cons_zero, List.set_cons_succ] at hX
        have HX' := Lib.hid hX
        have HO' := Lib.hid (HO.out.set (p := ⟨g, 13, none⟩) (Nat.lt_succ_self g) (.int .i64 (de : Int)))
        clear hX
        clear HX HO
        have HX := HX'
        have HO := HO'
        clear HX' HO'
        have fb := HX.out.rr.bad_at
        cases bd
        case true =>
          go_wp2_with fail
          clear q0 q1 q2 q3 q4 q5 q6 q7 q8 q9 q10 q11 q12 q13 qf fb
          generalize W14.setCell ⟨g, 13, none⟩ (.int .i64 (de : Int)) = W15 at HX HO ⊢
          refine (fail_rf b _ _ _ HX.out.rr).mono ?_
          rintro e W18 ⟨rfl, hx, ht⟩
          have HX' := Lib.hid (HX.out.call hx ht)
          clear hx ht
          clear HX
          have HX := HX'
          clear HX'
          obtain ⟨r0, r1, r2, r3, r4, r5, r6, r7, r8, r9, r10, r11, r12, r13⟩ := rep_at HX.out.res
          have rf := rep_fr HX.out.res
          go_wp2_with fail
          clear r0 r1 r2 r3 r4 r5 r6 r7 r8 r9 r10 r11 r12 r13 rf
          have hp := put14_at HX.out.res (.int .i64 0) (.int .i64 0) (.int .u64 0) (.int .i64 0) (.int .i64 0) (.int .i64 0) (.int .u64 0) (.int .i64 0) (.int .i64 0) (.int .i64 0) (.int .i64 0) (.slice none 0 0) (.int .u64 0) (.int .i64 0)
          have hb := put14_below (B := w.heap.size) W18 (Nat.le_refl w.heap.size) (.int .i64 0) (.int .i64 0) (.int .u64 0) (.int .i64 0) (.int .i64 0) (.int .i64 0) (.int .u64 0) (.int .i64 0) (.int .i64 0) (.int .i64 0) (.int .i64 0) (.slice none 0 0) (.int .u64 0) (.int .i64 0)
          have hrr := HX.out.rr.under hb HX.out.hb
          have hrd := HX.out.rd.under hb (Nat.le_refl _)
          have hfin : ReadF b ds w (.returned (.tuple #[.agg #[.int .i64 0, .int .i64 0, .int .u64 0, .int .i64 0, .int .i64 0, .int .i64 0, .int .u64 0, .int .i64 0, .int .i64 0, .int .i64 0, .int .i64 0, .slice none 0 0, .int .u64 0, .int .i64 0], .bool false])) (put14 W18 w.heap.size (.int .i64 0) (.int .i64 0) (.int .u64 0) (.int .i64 0) (.int .i64 0) (.int .i64 0) (.int .u64 0) (.int .i64 0) (.int .i64 0) (.int .i64 0) (.int .i64 0) (.slice none 0 0) (.int .u64 0) (.int .i64 0)) := ⟨fun h => by rw [HOK.out] at h; simp at h, fun _ => ⟨rfl, hrr, hrd⟩⟩
          unfold put14 at hp hfin
          clear hrr hrd hb
          obtain ⟨p0, p1, p2, p3, p4, p5, p6, p7, p8, p9, p10, p11, p12, p13⟩ := rep_at hp
          exact bodyPost_ret (v := .tuple #[.agg #[.int .i64 0, .int .i64 0, .int .u64 0, .int .i64 0, .int .i64 0, .int .i64 0, .int .u64 0, .int .i64 0, .int .i64 0, .int .i64 0, .int .i64 0, .slice none 0 0, .int .u64 0, .int .i64 0], .bool false]) (by simp [results, Try.results25, go_sem, p0, p1, p2, p3, p4, p5, p6, p7, p8, p9, p10, p11, p12, p13]) rfl hfin
        case false =>
          have hok3 : ok3 = true := by
            cases h : ok3
            · have := HB3.out h
              rw [HEB.out] at this
              cases this
            · rfl
          subst hok3
          obtain ⟨r0, r1, r2, r3, r4, r5, r6, r7, r8, r9, r10, r11, r12, r13⟩ := rep_at HX.out.box
          go_wp2_with fail
          clear q0 q1 q2 q3 q4 q5 q6 q7 q8 q9 q10 q11 q12 q13 r0 r1 r2 r3 r4 r5 r6 r7 r8 r9 r10 r11 r12 r13 qf fb
          generalize W14.setCell ⟨g, 13, none⟩ (.int .i64 (de : Int)) = W15 at HX HO ⊢
          refine (HSN.out W15 a5 c5).mono ?_
          rintro e W16 ⟨rfl, hb⟩
          have HX' := Lib.hid (HX.out.kept hb)
          have HO' := Lib.hid (HO.out.kept hb)
          clear hb
          clear HX HO
          have HX := HX'
          have HO := HO'
          clear HX' HO'
          cases sd
          case false =>
            go_wp2_with fail
            refine (fail_rf b _ _ _ HX.out.rr).mono ?_
            rintro e W18 ⟨rfl, hx, ht⟩
            have HX' := Lib.hid (HX.out.call hx ht)
            clear hx ht
            clear HX
            have HX := HX'
            clear HX'
            obtain ⟨r0, r1, r2, r3, r4, r5, r6, r7, r8, r9, r10, r11, r12, r13⟩ := rep_at HX.out.res
            have rf := rep_fr HX.out.res
            go_wp2_with fail
            clear r0 r1 r2 r3 r4 r5 r6 r7 r8 r9 r10 r11 r12 r13 rf
            have hp := put14_at HX.out.res (.int .i64 0) (.int .i64 0) (.int .u64 0) (.int .i64 0) (.int .i64 0) (.int .i64 0) (.int .u64 0) (.int .i64 0) (.int .i64 0) (.int .i64 0) (.int .i64 0) (.slice none 0 0) (.int .u64 0) (.int .i64 0)
            have hb := put14_below (B := w.heap.size) W18 (Nat.le_refl w.heap.size) (.int .i64 0) (.int .i64 0) (.int .u64 0) (.int .i64 0) (.int .i64 0) (.int .i64 0) (.int .u64 0) (.int .i64 0) (.int .i64 0) (.int .i64 0) (.int .i64 0) (.slice none 0 0) (.int .u64 0) (.int .i64 0)
            have hrr := HX.out.rr.under hb HX.out.hb
            have hrd := HX.out.rd.under hb (Nat.le_refl _)
            have hfin : ReadF b ds w (.returned (.tuple #[.agg #[.int .i64 0, .int .i64 0, .int .u64 0, .int .i64 0, .int .i64 0, .int .i64 0, .int .u64 0, .int .i64 0, .int .i64 0, .int .i64 0, .int .i64 0, .slice none 0 0, .int .u64 0, .int .i64 0], .bool false])) (put14 W18 w.heap.size (.int .i64 0) (.int .i64 0) (.int .u64 0) (.int .i64 0) (.int .i64 0) (.int .i64 0) (.int .u64 0) (.int .i64 0) (.int .i64 0) (.int .i64 0) (.int .i64 0) (.slice none 0 0) (.int .u64 0) (.int .i64 0)) := ⟨fun h => by rw [HOK.out] at h; simp at h, fun _ => ⟨rfl, hrr, hrd⟩⟩
            unfold put14 at hp hfin
            clear hrr hrd hb
            obtain ⟨p0, p1, p2, p3, p4, p5, p6, p7, p8, p9, p10, p11, p12, p13⟩ := rep_at hp
            exact bodyPost_ret (v := .tuple #[.agg #[.int .i64 0, .int .i64 0, .int .u64 0, .int .i64 0, .int .i64 0, .int .i64 0, .int .u64 0, .int .i64 0, .int .i64 0, .int .i64 0, .int .i64 0, .slice none 0 0, .int .u64 0, .int .i64 0], .bool false]) (by simp [results, Try.results25, go_sem, p0, p1, p2, p3, p4, p5, p6, p7, p8, p9, p10, p11, p12, p13]) rfl hfin
          obtain ⟨q0, q1, q2, q3, q4, q5, q6, q7, q8, q9, q10, q11, q12, q13⟩ := rep_at HX.out.box
          obtain ⟨r0, r1, r2, r3, r4, r5, r6, r7, r8, r9, r10, r11, r12, r13⟩ := rep_at HX.out.res
          have rf := rep_fr HX.out.res
          go_wp2_with fail
          clear q0 q1 q2 q3 q4 q5 q6 q7 q8 q9 q10 q11 q12 q13 r0 r1 r2 r3 r4 r5 r6 r7 r8 r9 r10 r11 r12 r13 rf
          have hp := put14_at HX.out.res (.int .i64 (c : Int)) (.int .i64 tm) (.int .u64 x1) (.int .i64 x2) (.int .i64 x3) (.int .i64 x4) (.int .u64 x5) (.int .i64 x6) (.int .i64 x7) (.int .i64 x8) (.int .i64 x9) (.slice a5 l5 c5) (.int .u64 (nt : Int)) (.int .i64 (de : Int))
          have hb := put14_below (B := w.heap.size) W16 (Nat.le_refl w.heap.size) (.int .i64 (c : Int)) (.int .i64 tm) (.int .u64 x1) (.int .i64 x2) (.int .i64 x3) (.int .i64 x4) (.int .u64 x5) (.int .i64 x6) (.int .i64 x7) (.int .i64 x8) (.int .i64 x9) (.slice a5 l5 c5) (.int .u64 (nt : Int)) (.int .i64 (de : Int))
          have hrr := HX.out.rr.under hb HX.out.hb
          have hrd := HX.out.rd.under hb (Nat.le_refl _)
          have hlt := HX.out.lt
          have ho : OU (put14 W16 w.heap.size (.int .i64 (c : Int)) (.int .i64 tm) (.int .u64 x1) (.int .i64 x2) (.int .i64 x3) (.int .i64 x4) (.int .u64 x5) (.int .i64 x6) (.int .i64 x7) (.int .i64 x8) (.int .i64 x9) (.slice a5 l5 c5) (.int .u64 (nt : Int)) (.int .i64 (de : Int))) (g + 1) (.slice a5 l5 c5) D := by
            unfold put14
            have hl : w.heap.size < g + 1 := by omega
            exact (((((((((((((HO.out.set (p := ⟨_, 0, none⟩) hl _).set (p := ⟨_, 1, none⟩) hl _).set (p := ⟨_, 2, none⟩) hl _).set (p := ⟨_, 3, none⟩) hl _).set (p := ⟨_, 4, none⟩) hl _).set (p := ⟨_, 5, none⟩) hl _).set (p := ⟨_, 6, none⟩) hl _).set (p := ⟨_, 7, none⟩) hl _).set (p := ⟨_, 8, none⟩) hl _).set (p := ⟨_, 9, none⟩) hl _).set (p := ⟨_, 10, none⟩) hl _).set (p := ⟨_, 11, none⟩) hl _).set (p := ⟨_, 12, none⟩) hl _).set (p := ⟨_, 13, none⟩) hl _
          have hfin : ReadF b ds w (.returned (.tuple #[.agg #[.int .i64 (c : Int), .int .i64 tm, .int .u64 x1, .int .i64 x2, .int .i64 x3, .int .i64 x4, .int .u64 x5, .int .i64 x6, .int .i64 x7, .int .i64 x8, .int .i64 x9, .slice a5 l5 c5, .int .u64 (nt : Int), .int .i64 (de : Int)], .bool true])) (put14 W16 w.heap.size (.int .i64 (c : Int)) (.int .i64 tm) (.int .u64 x1) (.int .i64 x2) (.int .i64 x3) (.int .i64 x4) (.int .u64 x5) (.int .i64 x6) (.int .i64 x7) (.int .i64 x8) (.int .i64 x9) (.slice a5 l5 c5) (.int .u64 (nt : Int)) (.int .i64 (de : Int))) :=
            ⟨fun _ => ⟨a5, c5, by rw [HY1.out.1]; rfl, by rw [← HDX.out, HL5.out]; exact ho.mono (by omega), hrr, hrd⟩, fun h => by rw [HOK.out] at h; simp at h⟩
          unfold put14 at hp hfin
          clear hrr hrd hb ho
          obtain ⟨p0, p1, p2, p3, p4, p5, p6, p7, p8, p9, p10, p11, p12, p13⟩ := rep_at hp
          exact bodyPost_ret (v := .tuple #[.agg #[.int .i64 (c : Int), .int .i64 tm, .int .u64 x1, .int .i64 x2, .int .i64 x3, .int .i64 x4, .int .u64 x5, .int .i64 x6, .int .i64 x7, .int .i64 x8, .int .i64 x9, .slice a5 l5 c5, .int .u64 (nt : Int), .int .i64 (de : Int)], .bool true]) (by simp [results, Try.results25, go_sem, p0, p1, p2, p3, p4, p5, p6, p7, p8, p9, p10, p11, p12, p13]) rfl hfin
end Go.Proofs.Ytnhaakdjijjinaa

/- Both: two rows merged by a goto loop. -/
import Derived.Test.YthlmeppahcjlgaaBtA
import Derived.IntWalk
import Derived.BigQuiet
namespace Go.Proofs.Ythlmeppahcjlgaa
open Go.RowKit

def lenOf : Value → Nat | .slice _ n _ => n | _ => 0
/-- At the label: i and j spans are done, out is what they have in common. -/
structure MergeAt (w : World) (n m : Nat) (F T G U : Nat → Int) (i j p q : Nat) (aa : Option Addr) (ca' : Nat) (ab : Option Addr) (cb' : Nat) (oa : Option Addr) (oc : Nat) (out : List (Int × Int)) (wr : World) : Prop where
  hi : i + p = n
  hj : j + q = m
  hca : p ≤ ca'
  hcb : q ≤ cb'
  A : Sps w aa p (sh F i) (sh T i)
  B : Sps w ab q (sh G j) (sh U j)
  own : OS wr w.heap.size (.slice oa out.length oc) out
  eq : out ++ meets ((pairs F T n).drop i) ((pairs G U m).drop j) = meets (pairs F T n) (pairs G U m)
  len : out.length ≤ i + j
  below : Below w.heap.size w wr
def BothJ (w : World) (n m : Nat) (F T G U : Nat → Int) (a' : Act) (wr : World) : Prop :=
  ∃ (i j p q : Nat) (aa : Option Addr) (ca' : Nat) (ab : Option Addr) (cb' : Nat) (oa : Option Addr) (oc : Nat) (out : List (Int × Int)) (u2 u3 u4 u6 u7 u8 u9 u10 u11 u12 u13 u14 u15 u16 u17 u18 u19 u20 u21 u22 u23 u24 u25 u26 u27 u28 u29 u30 u31 u32 u33 u34 u35 u36 u37 u38 u39 u40 u41 u42 u43 u44 u45 u46 u47 : Value),
    a' = { tmps := #[.slice aa p ca', .slice ab q cb', u2, u3, u4, .slice oa out.length oc, u6, u7, u8, u9, u10, u11, u12, u13, u14, u15, u16, u17, u18, u19, u20, u21, u22, u23, u24, u25, u26, u27, u28, u29, u30, u31, u32, u33, u34, u35, u36, u37, u38, u39, u40, u41, u42, u43, u44, u45, u46, u47], defers := [] } ∧ MergeAt w n m F T G U i j p q aa ca' ab cb' oa oc out wr
theorem MergeAt.left {w wr w' : World} {n m p q i j ca' cb' oc oc' qa pa : Nat} {F T G U : Nat → Int} {ab oa oa' : Option Addr} {out : List (Int × Int)} (M : MergeAt w n m F T G U i j (p + 1) (q + 1) (some ⟨pa, qa, none⟩) ca' ab cb' oa oc out wr)
    (hm : rowed (pairs G U m)) (ht : T i ≤ U j) (aa : Option Addr) (c : Nat) (hc : p ≤ c) (haa : p = 0 ∨ aa = some ⟨pa, qa + 2, none⟩)
    (o : List (Int × Int)) (ho : out ++ cutOne (F i) (T i) (G j) (U j) = o) (hO : OS w' w.heap.size (.slice oa' o.length oc') o) (hb : Below w.heap.size w w') :
    MergeAt w n m F T G U (i + 1) j p (q + 1) aa c ab cb' oa' oc' o w' := by
  subst ho
  have hi := M.hi
  have hj := M.hj
  have hA := M.A
  have hil : i < (pairs F T n).length := by rw [pairs_len]; omega
  have hjl : j < (pairs G U m).length := by rw [pairs_len]; omega
  refine ⟨by omega, M.hj, hc, M.hcb, ?_, M.B, hO, ?_, ?_, hb⟩
  · rcases haa with rfl | rfl
    · exact Sps.none0
    · exact hA.tail
  · have h := M.eq
    rw [meets_step_left hil hjl hm (by rw [pairs_get, pairs_get]; exact ht), pairs_get, pairs_get, ← List.append_assoc] at h
    exact h
  · have h1 := M.len
    have h2 := cutOne_len (F i) (T i) (G j) (U j)
    rw [List.length_append]; omega
theorem MergeAt.right {w wr w' : World} {n m p q i j ca' cb' oc oc' qb pb : Nat} {F T G U : Nat → Int} {aa oa oa' : Option Addr} {out : List (Int × Int)} (M : MergeAt w n m F T G U i j (p + 1) (q + 1) aa ca' (some ⟨pb, qb, none⟩) cb' oa oc out wr)
    (hm : rowed (pairs F T n)) (ht : U j < T i) (ab : Option Addr) (c : Nat) (hc : q ≤ c) (hab : q = 0 ∨ ab = some ⟨pb, qb + 2, none⟩)
    (o : List (Int × Int)) (ho : out ++ cutOne (F i) (T i) (G j) (U j) = o) (hO : OS w' w.heap.size (.slice oa' o.length oc') o) (hb : Below w.heap.size w w') :
    MergeAt w n m F T G U i (j + 1) (p + 1) q aa ca' ab c oa' oc' o w' := by
  subst ho
  have hi := M.hi
  have hj := M.hj
  have hB := M.B
  have hil : i < (pairs F T n).length := by rw [pairs_len]; omega
  have hjl : j < (pairs G U m).length := by rw [pairs_len]; omega
  refine ⟨M.hi, by omega, M.hca, hc, M.A, ?_, hO, ?_, ?_, hb⟩
  · rcases hab with rfl | rfl
    · exact Sps.none0
    · exact hB.tail
  · have h := M.eq
    rw [meets_step_right hil hjl hm (by rw [pairs_get, pairs_get]; exact ht), pairs_get, pairs_get, ← List.append_assoc] at h
    exact h
  · have h1 := M.len
    have h2 := cutOne_len (F i) (T i) (G j) (U j)
    rw [List.length_append]; omega

set_option maxRecDepth 100000 in
set_option maxHeartbeats 8000000 in
theorem both_ok (a b : Option Addr) (n m ca cb : Nat) (F T G U : Nat → Int) (w : World) (hA : Sps w a n F T) (hB : Sps w b m G U) (hca : n ≤ ca) (hcb : m ≤ cb) (hn : n ≤ 32) (hm : m ≤ 32) (hg : good F T n = true) (hh : good G U m = true) :
    Calls Try.prog 21 #[.slice a n ca, .slice b m cb] w (BothOwn (meets (pairs F T n) (pairs G U m)) w) := by
  have hra := row_any a n ca F T w hA
  rw [rowE_ok hn hg] at hra
  have hrb : ∀ w1, Below w.heap.size w w1 → Calls Try.prog 17 #[.slice b m cb] w1 fun e w' => e = .returned (.int .i64 0) ∧ Below w1.heap.size w1 w' := fun w1 h1 => by
    have := row_any b m cb G U w1 (hB.kept h1)
    rw [rowE_ok hm hh] at this
    exact this
  have HRB := Lib.hid hrb
  have HN := Lib.hid hn
  have HM := Lib.hid hm
  have HST : Hid (MergeAt w n m F T G U 0 0 n m a ca b cb none 0 [] w) := Lib.hid ⟨Nat.zero_add _, Nat.zero_add _, hca, hcb, by rw [sh_zero, sh_zero]; exact hA, by rw [sh_zero, sh_zero]; exact hB, OS.nil _ _, rfl, Nat.zero_le _, Below.refl _ _⟩
  have HRF := Lib.hid (rowed_pairs hg)
  have HRG := Lib.hid (rowed_pairs hh)
  clear hA hB hca hcb hn hm hg hh hrb
  go_enter Try.func21, Try.ntmps21
  go_wp2_with fail
  refine wp_scope_once 0 (BothJ w n m F T G U) (fun a' _ => lenOf (a'.tmps.getD 0 undef) + lenOf (a'.tmps.getD 1 undef)) rfl ?_ ?_
  · rintro a' wr ⟨i, j, p, q, aa, ca', ab, cb', oa, oc, out, u2, u3, u4, u6, u7, u8, u9, u10, u11, u12, u13, u14, u15, u16, u17, u18, u19, u20, u21, u22, u23, u24, u25, u26, u27, u28, u29, u30, u31, u32, u33, u34, u35, u36, u37, u38, u39, u40, u41, u42, u43, u44, u45, u46, u47, rfl, M⟩
    clear hra
    have HMG := Lib.hid M
    have hlL : out.length ≤ 64 := by have := M.len; have := M.hi; have := M.hj; have := HN.out; have := HM.out; omega
    clear M
    by_cases hpq : 0 < p ∧ 0 < q
    · obtain ⟨p, rfl⟩ : ∃ p', p = p' + 1 := ⟨p - 1, by omega⟩
      obtain ⟨q, rfl⟩ : ∃ q', q = q' + 1 := ⟨q - 1, by omega⟩
      have hA := HMG.out.A
      have hB := HMG.out.B
      have hca := HMG.out.hca
      have hcb := HMG.out.hcb
      obtain ⟨pa, qa, rfl, _⟩ := hA.2 (by omega)
      obtain ⟨pb, qb, rfl, _⟩ := hB.2 (by omega)
      have hSA : ∀ w1, Below w.heap.size w w1 → w1.cell? ⟨pa, qa, none⟩ = some (.int .i64 (F i)) ∧ w1.cell? ⟨pa, qa + 1, none⟩ = some (.int .i64 (T i)) ∧ w1.cell? ⟨pb, qb, none⟩ = some (.int .i64 (G j)) ∧ w1.cell? ⟨pb, qb + 1, none⟩ = some (.int .i64 (U j)) ∧ Below w.heap.size w w1 := fun w1 h1 => by
        obtain ⟨x, y, e, _, c0, c1, _⟩ := hA.at h1 0 (by omega)
        injection e with e; injection e with e1 e2; subst e1 e2
        obtain ⟨x, y, e, _, d0, d1, _⟩ := hB.at h1 0 (by omega)
        injection e with e; injection e with e1 e2; subst e1 e2
        exact ⟨c0, c1, d0, d1, h1⟩
      obtain ⟨f, e0⟩ : ∃ x, F i = x := ⟨_, rfl⟩
      obtain ⟨t, e1⟩ : ∃ x, T i = x := ⟨_, rfl⟩
      obtain ⟨f', e2⟩ : ∃ x, G j = x := ⟨_, rfl⟩
      obtain ⟨t', e3⟩ : ∃ x, U j = x := ⟨_, rfl⟩
      rw [e0, e1, e2, e3] at hSA
      have HSC := Lib.hid hSA
      have HBL := Lib.hid HMG.out.below
      have HO := Lib.hid HMG.out.own
      have HLN := Lib.hid (show out.length ≤ 100000 by omega)
      have HC : Hid (∀ W, Calls Try.prog 45 #[.agg #[.int .i64 f, .int .i64 t], .agg #[.int .i64 f', .int .i64 t']] W (GotSpan (comF f t f' t') (comT f t f' t') W)) := Lib.hid (common_any f t f' t')
      have h0 := hSA wr.drew HBL.out.drew
      have HE := Lib.hid (And.intro e0 (And.intro e1 (And.intro e2 e3)))
      have HX := Lib.hid (And.intro hca hcb)
      have hca1 : 1 ≤ ca' := by omega
      have hcb1 : 1 ≤ cb' := by omega
      have p1 : (0 : Int) < (p : Int) + 1 := by omega
      have q1 : (0 : Int) < (q : Int) + 1 := by omega
      have p1' : decide ((0 : Int) < (p : Int) + 1) = true := decide_eq_true p1
      have q1' : decide ((0 : Int) < (q : Int) + 1) = true := decide_eq_true q1
      clear hA hB hSA e0 e1 e2 e3 hca hcb hlL hpq
      go_wp2_with fail
      refine wp_region_held_drew (S := (fun w' => w'.cell? ⟨pa, qa, none⟩ = some (.int .i64 f) ∧ w'.cell? ⟨pa, qa + 1, none⟩ = some (.int .i64 t) ∧ w'.cell? ⟨pb, qb, none⟩ = some (.int .i64 f') ∧ w'.cell? ⟨pb, qb + 1, none⟩ = some (.int .i64 t') ∧ Below w.heap.size w w')) (by kernel_rfl) h0 (fun hHeld => ?_)
      refine wpAnyH_take (i := 0) (v := ?_) rfl (by kernel_rfl) (by kernel_rfl) (by kernel_rfl) (fun _ _ _ h => h) (Or.inl ⟨by rfl, ?_⟩) (by assumption) ?_
      case refine_2 => (intro w1 hS1; (try dsimp only at hS1); go_simp; try with_reducible rfl)
      try simp only [List.getElem_toArray, List.getElem_cons_zero, List.getElem_cons_succ, Act.put, List.setIfInBounds_toArray, List.set_cons_zero, List.set_cons_succ]
      refine wpAnyH_take (i := 1) (v := ?_) rfl (by kernel_rfl) (by kernel_rfl) (by kernel_rfl) (fun _ _ _ h => h) (Or.inl ⟨by rfl, ?_⟩) (by assumption) ?_
      case refine_2 => (intro w1 hS1; (try dsimp only at hS1); go_simp; try with_reducible rfl)
      try simp only [List.getElem_toArray, List.getElem_cons_zero, List.getElem_cons_succ, Act.put, List.setIfInBounds_toArray, List.set_cons_zero, List.set_cons_succ]
      refine wpAnyH_take (i := 2) (v := ?_) rfl (by kernel_rfl) (by kernel_rfl) (by kernel_rfl) (fun _ _ _ h => h) (Or.inl ⟨by rfl, ?_⟩) (by assumption) ?_
      case refine_2 => (intro w1 hS1; (try dsimp only at hS1); go_simp; try with_reducible rfl)
      try simp only [List.getElem_toArray, List.getElem_cons_zero, List.getElem_cons_succ, Act.put, List.setIfInBounds_toArray, List.set_cons_zero, List.set_cons_succ]
      refine wpAnyH_take (i := 3) (v := ?_) rfl (by kernel_rfl) (by kernel_rfl) (by kernel_rfl) (fun _ _ _ h => h) (Or.inl ⟨by rfl, ?_⟩) (by assumption) ?_
      case refine_2 => (intro w1 hS1; (try dsimp only at hS1); go_simp; try with_reducible rfl)
      try simp only [List.getElem_toArray, List.getElem_cons_zero, List.getElem_cons_succ, Act.put, List.setIfInBounds_toArray, List.set_cons_zero, List.set_cons_succ]
      refine wpAnyH_take (i := 4) (v := ?_) rfl (by kernel_rfl) (by kernel_rfl) (by kernel_rfl) (fun _ _ _ h => h) (Or.inl ⟨by rfl, ?_⟩) (by assumption) ?_
      case refine_2 => (intro w1 hS1; (try dsimp only at hS1); go_simp; try with_reducible rfl)
      try simp only [List.getElem_toArray, List.getElem_cons_zero, List.getElem_cons_succ, Act.put, List.setIfInBounds_toArray, List.set_cons_zero, List.set_cons_succ]
      refine wpAnyH_take (i := 5) (v := ?_) rfl (by kernel_rfl) (by kernel_rfl) (by kernel_rfl) (fun _ _ _ h => h) (Or.inl ⟨by rfl, ?_⟩) (by assumption) ?_
      case refine_2 => (intro w1 hS1; (try dsimp only at hS1); go_simp; try with_reducible rfl)
      try simp only [List.getElem_toArray, List.getElem_cons_zero, List.getElem_cons_succ, Act.put, List.setIfInBounds_toArray, List.set_cons_zero, List.set_cons_succ]
      refine wpAnyH_take (i := 6) (v := ?_) rfl (by kernel_rfl) (by kernel_rfl) (by kernel_rfl) (fun _ _ _ h => h) (Or.inl ⟨by rfl, ?_⟩) (by assumption) ?_
      case refine_2 => (intro w1 hS1; (try dsimp only at hS1); go_simp; try with_reducible rfl)
      try simp only [List.getElem_toArray, List.getElem_cons_zero, List.getElem_cons_succ, Act.put, List.setIfInBounds_toArray, List.set_cons_zero, List.set_cons_succ]
      refine wpAnyH_ready (rs := [7]) (by kernel_rfl) (by simp) ?_
      refine AllReadyH.cons rfl (fun K hK => ?_) AllReadyH.nil
      go_simp
      refine (HC.out _).mono ?_; rintro e w8 ⟨x8, y8, rfl, rfl, rfl, hb8⟩; have hB8 : Below w.heap.size w w8 := HBL.out.drew.trans (hb8.mono HBL.out.size); have hO8 : OS w8 w.heap.size (.slice oa out.length oc) out := OS.kept HO.out ((Below.refl _ _).drew.trans hb8); have HB8 := Lib.hid hB8; have HO8 := Lib.hid hO8; clear hb8 hB8 hO8
      refine hK.out _ _ (HSC.out _ HB8.out) (fun hHeld => ?_)
      clear hK K
      try simp only [List.getElem_toArray, List.getElem_cons_zero, List.getElem_cons_succ, Act.put, List.setIfInBounds_toArray, List.set_cons_zero, List.set_cons_succ]
      refine wpAnyH_ready (rs := [8]) (by kernel_rfl) (by simp) ?_
      refine AllReadyH.cons rfl (fun K hK => ?_) AllReadyH.nil
      go_simp
      refine (add_common w.heap.size _ out f t f' t' w8 HO8.out HB8.out.size HLN.out).mono ?_; rintro e w9 ⟨v9, rfl, hO9, hst9⟩; have HO9 := Lib.hid hO9; have HB9 := Lib.hid (hst9.2 _ HB8.out); clear hO9 hst9
      refine hK.out _ _ (HSC.out _ HB9.out) (fun hHeld => ?_)
      clear hK K
      try simp only [List.getElem_toArray, List.getElem_cons_zero, List.getElem_cons_succ, Act.put, List.setIfInBounds_toArray, List.set_cons_zero, List.set_cons_succ]
      refine wpAnyH_take (i := 9) (v := ?_) rfl (by kernel_rfl) (by kernel_rfl) (by kernel_rfl) (fun _ _ _ h => h) (Or.inl ⟨by rfl, ?_⟩) (by assumption) ?_
      case refine_2 => (intro w1 hS1; (try dsimp only at hS1); go_simp; try with_reducible rfl)
      try simp only [List.getElem_toArray, List.getElem_cons_zero, List.getElem_cons_succ, Act.put, List.setIfInBounds_toArray, List.set_cons_zero, List.set_cons_succ]
      refine wpAnyH_done (by kernel_rfl) ?_ _
      obtain ⟨o9, ho9⟩ : ∃ o, out ++ cutOne f t f' t' = o := ⟨_, rfl⟩
      rw [ho9] at HO9
      have HE9 := Lib.hid ho9
      obtain ⟨oa', oc', rfl, _, _⟩ := HO9.out.shape
      clear ho9
      obtain ⟨c0, c1, d0, d1, _⟩ := HSC.out w9 HB9.out
      by_cases ht : t ≤ t'
      · have dt : decide (t ≤ t') = true := decide_eq_true ht
        go_wp2_with fail
        go_quiet (fail)
        go_wp2_with fail
        all_goals
          go_step3
          obtain ⟨e0, e1, e2, e3⟩ := HE.out
          obtain ⟨hca, hcb⟩ := HX.out
          refine ⟨rfl, ⟨i + 1, j, _, _, _, _, _, _, _, _, _, _, _, _, _, _, _, _, _, _, _, _, _, _, _, _, _, _, _, _, _, _, _, _, _, _, _, _, _, _, _, _, _, _, _, _, _, _, _, _, _, _, _, _, _, _, rfl, ?_⟩, ?_⟩
          · exact HMG.out.left HRG.out (by rw [e1, e3]; exact ht) _ _ (by omega) (by first | exact .inr rfl | exact .inl (by omega)) o9 (by rw [e0, e1, e2, e3]; exact HE9.out) (OS.kept HO9.out (below_drewN' (Below.refl _ _) _)) (below_drewN' HB9.out _)
          · show lenOf _ + lenOf _ < lenOf _ + lenOf _
            simp [lenOf] <;> omega
      · have dt : decide (t ≤ t') = false := decide_eq_false ht
        go_wp2_with fail
        go_quiet (fail)
        go_wp2_with fail
        all_goals
          go_step3
          obtain ⟨e0, e1, e2, e3⟩ := HE.out
          obtain ⟨hca, hcb⟩ := HX.out
          refine ⟨rfl, ⟨i, j + 1, _, _, _, _, _, _, _, _, _, _, _, _, _, _, _, _, _, _, _, _, _, _, _, _, _, _, _, _, _, _, _, _, _, _, _, _, _, _, _, _, _, _, _, _, _, _, _, _, _, _, _, _, _, _, rfl, ?_⟩, ?_⟩
          · exact HMG.out.right HRF.out (by rw [e1, e3]; omega) _ _ (by omega) (by first | exact .inr rfl | exact .inl (by omega)) o9 (by rw [e0, e1, e2, e3]; exact HE9.out) (OS.kept HO9.out (below_drewN' (Below.refl _ _) _)) (below_drewN' HB9.out _)
          · show lenOf _ + lenOf _ < lenOf _ + lenOf _
            simp [lenOf] <;> omega
    · have hfin : out = meets (pairs F T n) (pairs G U m) := by
        rw [← HMG.out.eq]
        have hi := HMG.out.hi
        have hj := HMG.out.hj
        rcases Nat.lt_or_ge 0 p with h | h
        · rw [show (pairs G U m).drop j = [] from List.drop_eq_nil_of_le (by rw [pairs_len]; omega), meets_nil_right, List.append_nil]
        · rw [show (pairs F T n).drop i = [] from List.drop_eq_nil_of_le (by rw [pairs_len]; omega), meets_nil_left, List.append_nil]
      have HFI := Lib.hid hfin
      clear hfin
      have hz : p = 0 ∨ ∃ p', p = p' + 1 ∧ q = 0 := by
        rcases Nat.lt_or_ge 0 p with h | h
        · exact .inr ⟨p - 1, by omega, by omega⟩
        · exact .inl (by omega)
      have HWN := Lib.hid HMG.out.own
      have HBW := Lib.hid HMG.out.below
      clear hpq
      by_cases hL : 32 < out.length
      · have d9 : decide (32 < (out.length : Int)) = true := decide_eq_true (by omega)
        rcases hz with rfl | ⟨p, rfl, rfl⟩
        · clear HMG
          go_wp2_with fail
          simp only [Exit.jump]
          go_ret
          exact ⟨_, rfl, by rw [← HFI.out, if_pos hL]; exact OS.nil _ _, HBW.out⟩
        · clear HMG
          have p1' : decide ((0 : Int) < (p : Int) + 1) = true := decide_eq_true (by omega)
          go_wp2_with fail
          simp only [Exit.jump]
          go_ret
          exact ⟨_, rfl, by rw [← HFI.out, if_pos hL]; exact OS.nil _ _, HBW.out⟩
      · have d9 : decide (32 < (out.length : Int)) = false := decide_eq_false (by omega)
        rcases hz with rfl | ⟨p, rfl, rfl⟩
        · clear HMG
          go_wp2_with fail
          simp only [Exit.jump]
          go_ret
          exact ⟨_, rfl, by rw [← HFI.out, if_neg hL]; exact HWN.out, HBW.out⟩
        · clear HMG
          have p1' : decide ((0 : Int) < (p : Int) + 1) = true := decide_eq_true (by omega)
          go_wp2_with fail
          simp only [Exit.jump]
          go_ret
          exact ⟨_, rfl, by rw [← HFI.out, if_neg hL]; exact HWN.out, HBW.out⟩
  · intro hrest
    go_wp2_with fail
    refine hra.mono ?_
    rintro e w1 ⟨rfl, hb1⟩
    have HB1 := Lib.hid hb1
    clear hra hb1
    go_wp2_with fail
    refine (HRB.out _ HB1.out).mono ?_
    rintro e w2 ⟨rfl, hb2⟩
    have HB2 := Lib.hid (HB1.out.trans (hb2.mono HB1.out.size))
    clear hb2
    go_wp2_with fail
    go_step3
    rename_i hK
    refine hK _ _ ?_
    refine hrest.out _ _ ?_
    exact ⟨0, 0, n, m, a, ca, b, cb, none, 0, [], _, _, _, _, _, _, _, _, _, _, _, _, _, _, _, _, _, _, _, _, _, _, _, _, _, _, _, _, _, _, _, _, _, _, _, _, _, _, _, _, _, _, _, _, _, rfl, { HST.out with own := OS.nil _ _, below := HB2.out }⟩
end Go.Proofs.Ythlmeppahcjlgaa

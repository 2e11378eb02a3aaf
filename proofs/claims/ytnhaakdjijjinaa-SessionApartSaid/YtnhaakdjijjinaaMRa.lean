import Derived.Test.YtnhaakdjijjinaaLaws
import Derived.Deep.RegionLaw
import Derived.Test.YtnhaakdjijjinaaRyG
import Derived.Test.YtnhaakdjijjinaaTbG
import Derived.Deep.RegionHeld
import Derived.Deep.LoopGhost
namespace Go.Proofs.Ytnhaakdjijjinaa
open Go.RowKit
/- An append of bytes as one step of a region that draws its order. -/
open Go.RowKit
theorem wp_append_rb {w : World} {o : Oper} {a : Act} {K : Act → World → Prop} {Q : Exit → Act → World → Prop} (s x : Operand)
    (ho : o.op = .call { callee := .builtin .append, args := #[s, x], argTypes := #[35, 35] })
    (base : Nat) (v u : Value) (bs cs : List Nat) (hs : a.eval s = v) (hx : a.eval x = u) (hown : OB w base v bs) (hrb : RB w u cs)
    (hlen : bs.length + cs.length ≤ 140737488351232) (hbase : base ≤ w.heap.size)
    (h : ∀ v' w', OB w' base v' (bs ++ cs) → w.grownBy w' v.ownBlock → K (a.put o.dst v') w') : o.wp Try.prog a w K Q := by
  obtain ⟨i0, hi, hz0, hz1, hz2⟩ := info_parts info5
  rcases hrb.2.2 with ⟨rfl, rfl⟩ | ⟨ad, cap, rfl, hc, hm, hcell⟩
  · have hrun := run_append_owned_none (P := Try.prog) (w := w) base 35 o.type 5 i0 1 Try.underlying35 hi v bs.length (cb bs) hown
    have hk := h v w (by simpa using hown) (World.grownBy.refl _ _)
    unfold Oper.wp
    simp [execOp, ho, resolve, invoke, builtin, hs, hx, hrun, Result.andThen]
    exact hk
  · refine wp_append_own w s x 35 ho base 5 i0 (.int .u8 0) 1 1 Try.underlying35 hi hz0 hz1 hz2 rfl (by decide) v bs.length (cb bs) hs hown ad cs.length cap (cb cs) hx (by simp [cb]) ?_ (cb_one cs) (by unfold maxLen; omega) (by omega) hbase ?_
    · intro j y hj
      have hlt : j < cs.length := by have := (List.getElem?_eq_some_iff.mp hj).1; rwa [cb_length] at this
      rw [cb_get cs j hlt] at hj
      simp only [Option.some.injEq] at hj
      subst hj
      exact hcell j hlt
    · intro v' w' h1 h2 _
      exact h v' w' (by unfold OB; rw [List.length_append, cb_append]; exact h1) h2
theorem step_append_rb {ops : Array Oper} {o : Oper} {a : Act} {w : World} {K : Act → World → Prop} {Q : Exit → Act → World → Prop} {E : Prop} (hgd : o.guard = none) (s x : Operand)
    (ho : o.op = .call { callee := .builtin .append, args := #[s, x], argTypes := #[35, 35] })
    (base : Nat) (v u : Value) (bs cs : List Nat) (hs : a.eval s = v) (hx : a.eval x = u) (hown : OB w base v bs) (hrb : RB w u cs)
    (hlen : bs.length + cs.length ≤ 140737488351232) (hbase : base ≤ w.heap.size)
    (h : ∀ v' w', OB w' base v' (bs ++ cs) → w.grownBy w' v.ownBlock → K (a.put o.dst v') w') :
    if Region.wanted o (yielded ops a.tmps) = true then Oper.wp Try.prog o a w K Q else E := by
  have hw : Region.wanted o (yielded ops a.tmps) = true := by simp [Region.wanted, hgd]
  rw [if_pos hw]
  exact wp_append_rb s x ho base v u bs cs hs hx hown hrb hlen hbase h
/- Replies: the reference's Put. -/
open Go.RowKit
theorem wrap_upN (k : Nat) (h : k ≤ 1000000) : IntKind.i64.wrap ((k : Int) + 1) = (k : Int) + 1 ∧ wrap64 ((k : Int) + 1) = (k : Int) + 1 := ⟨IntWalk.i64_in _ ⟨by omega, by omega⟩, IntWalk.wrap64_in _ ⟨by omega, by omega⟩⟩
theorem nums_snoc (l : List Nat) (k : Nat) (h : k < l.length) : nums (l.take (k + 1)) = nums (l.take k) ++ num 0 (l.getD k 0) := by
  unfold nums
  exact flat_snoc (num 0) l k 0 h
set_option maxRecDepth 100000 in
set_option maxHeartbeats 16000000 in
theorem rput19 (c : Nat) (tm : Int) (n1 n2 n3 n4 n5 n6 n7 n8 n9 : Nat) (b1 : n1 < 18446744073709551616) (b2 : n2 < 9223372036854775808) (b3 : n3 < 9223372036854775808) (b4 : n4 < 9223372036854775808) (b5 : n5 < 18446744073709551616) (b6 : n6 < 9223372036854775808) (b7 : n7 < 9223372036854775808) (b8 : n8 < 9223372036854775808) (b9 : n9 < 9223372036854775808) (a : Option Addr) (n ca : Nat) (xs : List Nat) (nt de : Nat) (hc : c < 9223372036854775808) (ht0 : -9223372036854775808 ≤ tm) (ht1 : tm ≤ 9223372036854775807) (hnt : nt < 18446744073709551616) (hde : de < 9223372036854775808) (hn : n ≤ 100000) (w : World) (hS : Us w a n xs) :
    Calls Try.prog 22 #[repV c tm n1 n2 n3 n4 n5 n6 n7 n8 n9 a n ca nt de] w (Owned w (repW c tm (noT n1 n2 n3 n4 n5 n6 n7 n8 n9) [n1, n2, n3, n4, n5, n6, n7, n8, n9] xs nt de)) := by
  obtain ⟨B1, s0, sz⟩ := box1 w #[.int .i64 (c : Int), .int .i64 tm, .int .u64 (n1 : Int), .int .i64 (n2 : Int), .int .i64 (n3 : Int), .int .i64 (n4 : Int), .int .u64 (n5 : Int), .int .i64 (n6 : Int), .int .i64 (n7 : Int), .int .i64 (n8 : Int), .int .i64 (n9 : Int), .slice a n ca, .int .u64 (nt : Int), .int .i64 (de : Int)] 28
  have HL := Lib.hid hS.1
  have HX : Hid (∀ x ∈ xs, x < 18446744073709551616) := Lib.hid hS.2.2.1
  have HXL : Hid (∀ k, (nums (xs.take k)).length ≤ 900000 ∧ ∀ x ∈ nums (xs.take k), x < 256) := Lib.hid (fun k => ⟨by
    have h1 := flat_len (num 0) 9 (xs.take k) (fun x hx => num_len9 0 x (HX.out x (List.mem_of_mem_take hx)))
    have h2 : (xs.take k).length ≤ xs.length := by simp; omega
    have h3 := HL.out
    unfold nums
    omega, flat_lt (num 0) (xs.take k) (fun x hx => num_lt' 0 x (by omega) (HX.out x (List.mem_of_mem_take hx)))⟩)
  have HPT : Hid (∀ W, Calls Try.prog 63 #[tkV n1 n2 n3 n4 n5 n6 n7 n8 n9] W (Owned W (nums [n1, n2, n3, n4, n5, n6, n7, n8, n9]))) := Lib.hid (fun W => rput_any n1 n2 n3 n4 n5 n6 n7 n8 n9 b1 b2 b3 b4 b5 b6 b7 b8 b9 W)
  have HNS : Hid ((nums [n1, n2, n3, n4, n5, n6, n7, n8, n9]).length ≤ 81 ∧ ∀ x ∈ nums [n1, n2, n3, n4, n5, n6, n7, n8, n9], x < 256) := Lib.hid ⟨flat_len (num 0) 9 _ (fun x hx => num_len9 0 x (nine_nums n1 n2 n3 n4 n5 n6 n7 n8 n9 b1 b2 b3 b4 b5 b6 b7 b8 b9 x hx)), flat_lt (num 0) _ (fun x hx => num_lt' 0 x (by omega) (nine_nums n1 n2 n3 n4 n5 n6 n7 n8 n9 b1 b2 b3 b4 b5 b6 b7 b8 b9 x hx))⟩
  have HNC := Lib.hid (fun W => refnum_any c W (by omega))
  have HNI := Lib.hid (fun W => refint_any tm W ht0 ht1)
  have HNL := Lib.hid (fun W => refnum_any n W (by omega))
  have HNT := Lib.hid (fun W => refnum_any nt W hnt)
  have HND := Lib.hid (fun W => refnum_any de W (by omega))
  have HN1 : Hid (∀ k, k < n → ∀ W, Calls Try.prog 60 #[.int .u64 ((xs.getD k 0 : Nat) : Int)] W (Owned W (num 0 (xs.getD k 0)))) := Lib.hid (fun k hk W => refnum_any _ W (HX.out _ (by have := HL.out; rw [List.getD_eq_getElem?_getD, List.getElem?_eq_getElem (by omega)]; exact List.getElem_mem (by omega))))
  have HQ : Hid (((num 0 c).length ≤ 9 ∧ (intB tm).length ≤ 9 ∧ (num 0 n).length ≤ 9 ∧ (num 0 nt).length ≤ 9 ∧ (num 0 de).length ≤ 9) ∧ (∀ x ∈ intB tm, x < 256) ∧ (∀ x ∈ num 0 n, x < 256) ∧ (∀ x ∈ num 0 nt, x < 256) ∧ (∀ x ∈ num 0 de, x < 256)) := Lib.hid ⟨⟨num_len9 0 c (by omega), intB_len9 tm ht0 ht1, num_len9 0 n (by omega), num_len9 0 nt hnt, num_len9 0 de (by omega)⟩, intB_lt tm ht0 ht1, num_lt' 0 n (by omega) (by omega), num_lt' 0 nt (by omega) hnt, num_lt' 0 de (by omega) (by omega)⟩
  have HQF : Hid (∀ z, (flagB z).length ≤ 9 ∧ ∀ x ∈ flagB z, x < 256) := Lib.hid (fun z => ⟨flagB_len9 z, flagB_lt z⟩)
  have HNF := Lib.hid (fun z W => refflag_any z W)
  have h3 := eql_tz (n1 : Int) (n2 : Int) (n3 : Int) (n4 : Int) (n5 : Int) (n6 : Int) (n7 : Int) (n8 : Int) (n9 : Int)
  have hg := guard_tk
  have HN := Lib.hid hn
  obtain ⟨z, hz⟩ : ∃ z, noT n1 n2 n3 n4 n5 n6 n7 n8 n9 = z := ⟨_, rfl⟩
  rw [hz] at h3 ⊢
  have e1 : IntKind.u64.wrap (c : Int) = (c : Int) := IntWalk.u64_in _ ⟨by omega, by omega⟩
  have e2 : IntKind.u64.wrap (n : Int) = (n : Int) := IntWalk.u64_in _ ⟨by omega, by omega⟩
  have e3 : IntKind.u64.wrap (de : Int) = (de : Int) := IntWalk.u64_in _ ⟨by omega, by omega⟩
  obtain ⟨ns, hns⟩ : ∃ ns : List Nat, [n1, n2, n3, n4, n5, n6, n7, n8, n9] = ns := ⟨_, rfl⟩
  rw [hns] at HPT HNS ⊢
  have HS := Lib.hid (hS.kept B1)
  have HT0 := Lib.hid s0
  have HB := Lib.hid B1
  have h0 := And.intro (rep_at s0).1 (rep_at s0).2.1
  have HLT : Hid (w.heap.size < (w.alloc (.cells #[.int .i64 (c : Int), .int .i64 tm, .int .u64 (n1 : Int), .int .i64 (n2 : Int), .int .i64 (n3 : Int), .int .i64 (n4 : Int), .int .u64 (n5 : Int), .int .i64 (n6 : Int), .int .i64 (n7 : Int), .int .i64 (n8 : Int), .int .i64 (n9 : Int), .slice a n ca, .int .u64 (nt : Int), .int .i64 (de : Int)] 28)).heap.size) := Lib.hid (by rw [sz]; omega)
  clear b1 b2 b3 b4 b5 b6 b7 b8 b9 hc ht0 ht1 hnt hde hn hS B1 s0 sz hz hns
  unfold repV
  unfold tkV at HPT
  go_enter Try.func22, Try.ntmps22
  go_wp2_with fail
  generalize w.alloc (.cells #[.int .i64 (c : Int), .int .i64 tm, .int .u64 (n1 : Int), .int .i64 (n2 : Int), .int .i64 (n3 : Int), .int .i64 (n4 : Int), .int .u64 (n5 : Int), .int .i64 (n6 : Int), .int .i64 (n7 : Int), .int .i64 (n8 : Int), .int .i64 (n9 : Int), .slice a n ca, .int .u64 (nt : Int), .int .i64 (de : Int)] 28) = W0 at h0 HS HB HT0 HLT ⊢
  refine wp_region_held_drew (S := fun W => W.cell? ⟨w.heap.size, 0, none⟩ = some (.int .i64 (c : Int)) ∧ W.cell? ⟨w.heap.size, 1, none⟩ = some (.int .i64 tm)) (by kernel_rfl) h0 (fun hHeld => ?_)
  clear h0
  refine wpAnyH_take (i := 0) (v := ?_) rfl (by kernel_rfl) (by kernel_rfl) (by kernel_rfl) (fun _ _ _ h => h) (Or.inl ⟨by rfl, ?_⟩) (by assumption) ?_
  case refine_2 => (intro w1 hS1; (try dsimp only at hS1); go_simp; try with_reducible rfl)
  try simp only [List.getElem_toArray, List.getElem_cons_zero, List.getElem_cons_succ, Act.put, List.setIfInBounds_toArray, List.set_cons_zero, List.set_cons_succ]
  refine wpAnyH_take (i := 1) (v := ?_) rfl (by kernel_rfl) (by kernel_rfl) (by kernel_rfl) (fun _ _ _ h => h) (Or.inl ⟨by rfl, ?_⟩) (by assumption) ?_
  case refine_2 => (intro w1 hS1; (try dsimp only at hS1); go_simp; try with_reducible rfl)
  try simp only [List.getElem_toArray, List.getElem_cons_zero, List.getElem_cons_succ, Act.put, List.setIfInBounds_toArray, List.set_cons_zero, List.set_cons_succ]
  refine wpAnyH_take (i := 2) (v := ?_) rfl (by kernel_rfl) (by kernel_rfl) (by kernel_rfl) (fun _ _ _ h => h) (Or.inl ⟨by rfl, ?_⟩) (by assumption) ?_
  case refine_2 => (intro w1 hS1; (try dsimp only at hS1); go_simp; try with_reducible rfl)
  try simp only [List.getElem_toArray, List.getElem_cons_zero, List.getElem_cons_succ, Act.put, List.setIfInBounds_toArray, List.set_cons_zero, List.set_cons_succ]
  refine wpAnyH_take (i := 4) (v := ?_) rfl (by kernel_rfl) (by kernel_rfl) (by kernel_rfl) (fun _ _ _ h => h) (Or.inl ⟨by rfl, ?_⟩) (by assumption) ?_
  case refine_2 => (intro w1 hS1; (try dsimp only at hS1); go_simp; try with_reducible rfl)
  try simp only [List.getElem_toArray, List.getElem_cons_zero, List.getElem_cons_succ, Act.put, List.setIfInBounds_toArray, List.set_cons_zero, List.set_cons_succ]
  refine wpAnyH_take (i := 5) (v := ?_) rfl (by kernel_rfl) (by kernel_rfl) (by kernel_rfl) (fun _ _ _ h => h) (Or.inl ⟨by rfl, ?_⟩) (by assumption) ?_
  case refine_2 => (intro w1 hS1; (try dsimp only at hS1); go_simp; try with_reducible rfl)
  try simp only [List.getElem_toArray, List.getElem_cons_zero, List.getElem_cons_succ, Act.put, List.setIfInBounds_toArray, List.set_cons_zero, List.set_cons_succ]
  refine wpAnyH_ready (rs := [3]) (by kernel_rfl) (by simp) ?_
  refine AllReadyH.cons rfl (fun K hK => ?_) AllReadyH.nil
  go_simp
  refine (HNC.out _).mono ?_
  rintro e w1 ⟨v1, rfl, ho1, hb1⟩
  have HB1 : Hid (Below W0.heap.size W0 w1) := Lib.hid (((Below.refl W0.heap.size W0).drew).trans hb1)
  have HO1 : Hid (OB w1 W0.heap.size v1 (num 0 c)) := Lib.hid ho1
  have hS1 : w1.cell? ⟨w.heap.size, 0, none⟩ = some (.int .i64 (c : Int)) ∧ w1.cell? ⟨w.heap.size, 1, none⟩ = some (.int .i64 tm) := by
    have h := rep_at (ex_below HT0.out HB1.out)
    exact ⟨h.1, h.2.1⟩
  clear hHeld ho1 hb1
  refine hK.out _ _ (hS1) (fun hHeld => ?_)
  clear hK K hS1
  try simp only [List.getElem_toArray, List.getElem_cons_zero, List.getElem_cons_succ, Act.put, List.setIfInBounds_toArray, List.set_cons_zero, List.set_cons_succ]
  refine wpAnyH_ready (rs := [6]) (by kernel_rfl) (by simp) ?_
  refine AllReadyH.cons rfl (fun K hK => ?_) AllReadyH.nil
  go_simp
  refine (HNI.out _).mono ?_
  rintro e w2 ⟨v2, rfl, ho2, hb2⟩
  have HB2 := Lib.hid (HB1.out.trans (hb2.mono HB1.out.size))
  have HO2 := Lib.hid (HO1.out.kept hb2)
  have HR2 := Lib.hid (ho2.rb HQ.out.2.1 (by have := HQ.out; omega))
  have hS2 : w2.cell? ⟨w.heap.size, 0, none⟩ = some (.int .i64 (c : Int)) ∧ w2.cell? ⟨w.heap.size, 1, none⟩ = some (.int .i64 tm) := by
    have h := rep_at (ex_below HT0.out HB2.out)
    exact ⟨h.1, h.2.1⟩
  clear hHeld ho2 hb2 HO1
  refine hK.out _ _ (hS2) (fun hHeld => ?_)
  clear hK K hS2
  try simp only [List.getElem_toArray, List.getElem_cons_zero, List.getElem_cons_succ, Act.put, List.setIfInBounds_toArray, List.set_cons_zero, List.set_cons_succ]
  refine wpAnyH_ready (rs := [7]) (by kernel_rfl) (by simp) ?_
  refine AllReadyH.cons rfl (fun K hK => ?_) AllReadyH.nil
  refine step_append_rb rfl (.tmp 9) (.tmp 12) rfl W0.heap.size _ _ (num 0 c) (intB tm) rfl rfl HO2.out HR2.out (by have := HQ.out; omega) HB2.out.size ?_
  intro v3 w3 ho3 hg3
  have HB3 := Lib.hid (HO2.out.below hg3 HB2.out HB2.out.size)
  have HO3 := Lib.hid ho3
  have hS3 : w3.cell? ⟨w.heap.size, 0, none⟩ = some (.int .i64 (c : Int)) ∧ w3.cell? ⟨w.heap.size, 1, none⟩ = some (.int .i64 tm) := by
    have h := rep_at (ex_below HT0.out HB3.out)
    exact ⟨h.1, h.2.1⟩
  clear hHeld ho3 hg3 HO2 HR2 HB2 HB1
  refine hK.out _ _ hS3 (fun hHeld => ?_)
  clear hK K hS3 hHeld
  try simp only [List.getElem_toArray, List.getElem_cons_zero, List.getElem_cons_succ, Act.put, List.setIfInBounds_toArray, List.set_cons_zero, List.set_cons_succ]
  refine wpAnyH_take (i := 8) (v := ?_) rfl (by kernel_rfl) (by kernel_rfl) (by kernel_rfl) (fun _ _ _ h => h) (Or.inl ⟨by rfl, ?_⟩) (by have h := rep_at (ex_below HT0.out HB3.out); exact ⟨h.1, h.2.1⟩) ?_
  case refine_2 => (intro w1 hS1; (try dsimp only at hS1); go_simp; try with_reducible rfl)
  try simp only [List.getElem_toArray, List.getElem_cons_zero, List.getElem_cons_succ, Act.put, List.setIfInBounds_toArray, List.set_cons_zero, List.set_cons_succ]
  refine wpAnyH_done (by kernel_rfl) ?_ _
  obtain ⟨q0, q1, q2, q3, q4, q5, q6, q7, q8, q9, q10, q11, q12, q13⟩ := rep_at (ex_below HT0.out HB3.out)
  go_wp2_with fail
  refine (HNF.out _ _).mono ?_
  rintro e w4 ⟨v4, rfl, ho, hb⟩
  have HB4 := Lib.hid (HB3.out.trans (hb.mono HB3.out.size))
  have HR4 := Lib.hid (ho.rb (HQF.out _).2 (by have := (HQF.out (!z)).1; omega))
  have HO4 := Lib.hid (HO3.out.kept hb)
  clear ho hb q0 q1 q2 q3 q4 q5 q6 q7 q8 q9 q10 q11 q12 q13
  cases z
  case false =>
    go_wp2_with (at_builtin; go_must (refine append_rb rfl (.tmp 18) (.tmp 21) rfl W0.heap.size _ _ (num 0 c ++ intB tm) (flagB (!false)) rfl rfl HO4.out HR4.out (by have := HQ.out; have := (HQF.out (!false)).1; rw [List.length_append]; omega) HB4.out.size ?_); intro v5 w5 ho hg'; have HB5 := Lib.hid (HO4.out.below hg' HB4.out HB4.out.size); have HO5 := Lib.hid ho; clear ho hg'; obtain ⟨q0, q1, q2, q3, q4, q5, q6, q7, q8, q9, q10, q11, q12, q13⟩ := rep_at (ex_below HT0.out HB5.out))
    have HA5 : Hid ((num 0 c ++ intB tm ++ flagB (!false)).length ≤ 27) := Lib.hid (by have := HQ.out; have := (HQF.out (!false)).1; simp only [List.length_append]; omega)
    clear HO4 HR4 HB4 HO3 HB3
    go_wp2_with fail
    refine (HPT.out _).mono ?_
    rintro e w6 ⟨v6, rfl, ho, hb⟩
    have HB6 := Lib.hid (HB5.out.trans (hb.mono HB5.out.size))
    have HR6 := Lib.hid (ho.rb HNS.out.2 (by have := HNS.out.1; omega))
    have HO6 := Lib.hid (HO5.out.kept hb)
    clear ho hb q0 q1 q2 q3 q4 q5 q6 q7 q8 q9 q10 q11 q12 q13
    go_wp2_with (at_builtin; go_must (refine append_rb rfl (.tmp 25) (.tmp 28) rfl W0.heap.size _ _ (num 0 c ++ intB tm ++ flagB (!false)) (nums ns) rfl rfl HO6.out HR6.out (by have := HNS.out.1; have := HA5.out; omega) HB6.out.size ?_); intro v7 w7 ho hg'; have HB7 := Lib.hid (HO6.out.below hg' HB6.out HB6.out.size); have HO7 := Lib.hid ho; clear ho hg'; obtain ⟨q0, q1, q2, q3, q4, q5, q6, q7, q8, q9, q10, q11, q12, q13⟩ := rep_at (ex_below HT0.out HB7.out))
    have HA7 : Hid ((num 0 c ++ intB tm ++ flagB (!false) ++ nums ns).length ≤ 150) := Lib.hid (by have := HA5.out; have := HNS.out.1; rw [List.length_append]; omega)
    clear HO6 HR6 HB6 HO5 HB5
    go_wp2_with fail
    refine (HNL.out _).mono ?_
    rintro e w20 ⟨v20, rfl, ho, hb⟩
    have HB20 := Lib.hid (HB7.out.trans (hb.mono HB7.out.size))
    have HR20 := Lib.hid (ho.rb HQ.out.2.2.1 (by have := HQ.out; omega))
    have HO20 := Lib.hid (HO7.out.kept hb)
    clear ho hb q0 q1 q2 q3 q4 q5 q6 q7 q8 q9 q10 q11 q12 q13
    go_wp2_with (at_builtin; go_must (refine append_rb rfl (.tmp 30) (.tmp 35) rfl W0.heap.size _ _ (num 0 c ++ intB tm ++ flagB (!false) ++ nums ns) (num 0 n) rfl rfl HO20.out HR20.out (by have := HQ.out; have := HA7.out; omega) HB20.out.size ?_); intro v21 w21 ho hg'; have HB21 := Lib.hid (HO20.out.below hg' HB20.out HB20.out.size); have HO21 := Lib.hid ho; clear ho hg'; obtain ⟨q0, q1, q2, q3, q4, q5, q6, q7, q8, q9, q10, q11, q12, q13⟩ := rep_at (ex_below HT0.out HB21.out))
    obtain ⟨ac, hac⟩ : ∃ x, num 0 c ++ intB tm ++ flagB (!false) ++ nums ns ++ num 0 n = x := ⟨_, rfl⟩
    have HAL : Hid (ac.length ≤ 200) := Lib.hid (by rw [← hac]; have := HQ.out; have := HA7.out; rw [List.length_append]; omega)
    rw [hac] at HO21
    have HCC := Lib.hid hac
    have HO21' : Hid (OB w21 W0.heap.size v21 (ac ++ nums (xs.take 0))) := Lib.hid (by have := HO21.out; simpa [nums] using this)
    clear hac HO20 HR20 HB20 HO21 q0 q1 q2 q3 q4 q5 q6 q7 q8 q9 q10 q11 q12 q13
    go_loopg [3, 5] n (fun kx s3 s5 wr => ∃ (k : Nat), s5 = .int .i64 k ∧ k ≤ n ∧ n - k ≤ kx ∧ Hid (OB wr W0.heap.size s3 (ac ++ nums (xs.take k))) ∧ Hid (Below W0.heap.size W0 wr))
    case atStart => exact ⟨0, rfl, by omega, by omega, HO21', HB21⟩
    case round =>
      obtain ⟨k, rfl, hk, hkx, HO, HBr⟩ := hrel
      obtain ⟨q0, q1, q2, q3, q4, q5, q6, q7, q8, q9, q10, q11, q12, q13⟩ := rep_at (ex_below HT0.out HBr.out)
      by_cases hlt : k < n
      · have hltz : (k : Int) < (n : Int) := by omega
        have hk0 : (0 : Int) ≤ (k : Int) := by omega
        obtain ⟨ab, ao, rfl, hab, c0⟩ := (HS.out.kept HBr.out).2.2.2 k hlt
        have hn1 := HN1.out k hlt wr
        have HSN := Lib.hid (nums_snoc xs k (by have := HL.out; omega))
        have HF := Lib.hid (And.intro (num_len9 0 (xs.getD k 0) (HX.out _ (by have := HL.out; rw [List.getD_eq_getElem?_getD, List.getElem?_eq_getElem (by omega)]; exact List.getElem_mem (by omega)))) (num_lt' 0 (xs.getD k 0) (by omega) (HX.out _ (by have := HL.out; rw [List.getD_eq_getElem?_getD, List.getElem?_eq_getElem (by omega)]; exact List.getElem_mem (by omega)))))
        generalize xs.getD k 0 = f at c0 hn1 HSN HF
        go_wp2_with fail
        refine hn1.mono ?_
        rintro e w25 ⟨v25, rfl, ho, hb⟩
        have HB25 := Lib.hid (HBr.out.trans (hb.mono HBr.out.size))
        have HR25 := Lib.hid (ho.rb HF.out.2 (by have := HF.out; omega))
        have HO25 := Lib.hid (HO.out.kept hb)
        clear hn1 ho hb c0 hab q0 q1 q2 q3 q4 q5 q6 q7 q8 q9 q10 q11 q12 q13
        go_wp2_with (at_builtin; go_must (refine append_rb rfl (.tmp 44) (.tmp 50) rfl W0.heap.size _ _ (ac ++ nums (xs.take k)) (num 0 f) rfl rfl HO25.out HR25.out (by have := HAL.out; have := HF.out; have := (HXL.out k).1; rw [List.length_append]; omega) HB25.out.size ?_); intro v26 w26 ho hg'; have HB26 := Lib.hid (HO25.out.below hg' HB25.out HB25.out.size); have HO26 := Lib.hid ho; clear ho hg'; obtain ⟨q0, q1, q2, q3, q4, q5, q6, q7, q8, q9, q10, q11, q12, q13⟩ := rep_at (ex_below HT0.out HB26.out))
        have HO26' : Hid (OB w26 W0.heap.size v26 (ac ++ nums (xs.take (k + 1)))) := Lib.hid (by rw [HSN.out, ← List.append_assoc]; exact HO26.out)
        clear HO25 HR25 HB25 HO26
        go_roundg (n - (k + 1))
        case measure => omega
        case rel =>
          clear e1 e2 e3
          have g1 : k + 1 ≤ n := by omega
          have g2 : n - (k + 1) ≤ n - (k + 1) := Nat.le_refl _
          have hw := wrap_upN k (by have := HN.out; omega)
          exact ⟨k + 1, by first | (rw [hw.1]; rfl) | (rw [hw.2]; rfl), g1, g2, HO26', HB26⟩
      · have hltz : ¬ (k : Int) < (n : Int) := by omega
        obtain rfl : k = n := by omega
        have HLK := Lib.hid (HXL.out k)
        have HXE : Hid (nums (xs.take k) = nums xs) := Lib.hid (by rw [List.take_of_length_le (by rw [HL.out]; exact Nat.le_refl _)])
        obtain ⟨y, hy⟩ : ∃ x, ac ++ nums (xs.take k) = x := ⟨_, rfl⟩
        have HYL : Hid (y.length ≤ 900200) := Lib.hid (by rw [← hy, List.length_append]; have := HAL.out; have := HLK.out.1; omega)
        rw [hy] at HO
        have HY := Lib.hid hy
        clear hy
        go_wp2_with fail
        refine (HNT.out _).mono ?_
        rintro e w30 ⟨v30, rfl, ho, hb⟩
        have HB30 := Lib.hid (HBr.out.trans (hb.mono HBr.out.size))
        have HR30 := Lib.hid (ho.rb HQ.out.2.2.2.1 (by have := HQ.out; omega))
        have HO30 := Lib.hid (HO.out.kept hb)
        clear ho hb q0 q1 q2 q3 q4 q5 q6 q7 q8 q9 q10 q11 q12 q13
        go_wp2_with (at_builtin; go_must (refine append_rb rfl (.tmp 52) (.tmp 55) rfl W0.heap.size _ _ (y) (num 0 nt) rfl rfl HO30.out HR30.out (by have := HYL.out; have := HQ.out; omega) HB30.out.size ?_); intro v31 w31 ho hg'; have HB31 := Lib.hid (HO30.out.below hg' HB30.out HB30.out.size); have HO31 := Lib.hid ho; clear ho hg'; obtain ⟨q0, q1, q2, q3, q4, q5, q6, q7, q8, q9, q10, q11, q12, q13⟩ := rep_at (ex_below HT0.out HB31.out))
        clear HO30 HR30 HB30
        go_wp2_with fail
        refine (HND.out _).mono ?_
        rintro e w32 ⟨v32, rfl, ho, hb⟩
        have HB32 := Lib.hid (HB31.out.trans (hb.mono HB31.out.size))
        have HR32 := Lib.hid (ho.rb HQ.out.2.2.2.2 (by have := HQ.out; omega))
        have HO32 := Lib.hid (HO31.out.kept hb)
        clear ho hb q0 q1 q2 q3 q4 q5 q6 q7 q8 q9 q10 q11 q12 q13
        go_wp2_with (at_builtin; go_must (refine append_rb rfl (.tmp 57) (.tmp 61) rfl W0.heap.size _ _ (y ++ num 0 nt) (num 0 de) rfl rfl HO32.out HR32.out (by have := HYL.out; have := HQ.out; rw [List.length_append]; omega) HB32.out.size ?_); intro v33 w33 ho hg'; have HB33 := Lib.hid (HO32.out.below hg' HB32.out HB32.out.size); have HO33 := Lib.hid ho; clear ho hg'; obtain ⟨q0, q1, q2, q3, q4, q5, q6, q7, q8, q9, q10, q11, q12, q13⟩ := rep_at (ex_below HT0.out HB33.out))
        go_ret
        refine ⟨_, rfl, ?_, HB.out.trans (HB33.out.mono HB.out.size)⟩
        have e : repW c tm false ns xs nt de = (y ++ num 0 nt) ++ num 0 de := by
          rw [← HY.out, HXE.out, ← HCC.out]
          simp [repW, tkW, HL.out, List.append_assoc]
        rw [e]
        exact HO33.out.mono HB.out.size
  case true =>
    go_wp2_with (at_builtin; go_must (refine append_rb rfl (.tmp 18) (.tmp 21) rfl W0.heap.size _ _ (num 0 c ++ intB tm) (flagB (!true)) rfl rfl HO4.out HR4.out (by have := HQ.out; have := (HQF.out (!true)).1; rw [List.length_append]; omega) HB4.out.size ?_); intro v5 w5 ho hg'; have HB5 := Lib.hid (HO4.out.below hg' HB4.out HB4.out.size); have HO5 := Lib.hid ho; clear ho hg'; obtain ⟨q0, q1, q2, q3, q4, q5, q6, q7, q8, q9, q10, q11, q12, q13⟩ := rep_at (ex_below HT0.out HB5.out))
    have HA5 : Hid ((num 0 c ++ intB tm ++ flagB (!true)).length ≤ 27) := Lib.hid (by have := HQ.out; have := (HQF.out (!true)).1; simp only [List.length_append]; omega)
    clear HO4 HR4 HB4 HO3 HB3
    go_wp2_with fail
    refine (HNL.out _).mono ?_
    rintro e w20 ⟨v20, rfl, ho, hb⟩
    have HB20 := Lib.hid (HB5.out.trans (hb.mono HB5.out.size))
    have HR20 := Lib.hid (ho.rb HQ.out.2.2.1 (by have := HQ.out; omega))
    have HO20 := Lib.hid (HO5.out.kept hb)
    clear ho hb q0 q1 q2 q3 q4 q5 q6 q7 q8 q9 q10 q11 q12 q13
    go_wp2_with (at_builtin; go_must (refine append_rb rfl (.tmp 30) (.tmp 35) rfl W0.heap.size _ _ (num 0 c ++ intB tm ++ flagB (!true)) (num 0 n) rfl rfl HO20.out HR20.out (by have := HQ.out; have := HA5.out; omega) HB20.out.size ?_); intro v21 w21 ho hg'; have HB21 := Lib.hid (HO20.out.below hg' HB20.out HB20.out.size); have HO21 := Lib.hid ho; clear ho hg'; obtain ⟨q0, q1, q2, q3, q4, q5, q6, q7, q8, q9, q10, q11, q12, q13⟩ := rep_at (ex_below HT0.out HB21.out))
    obtain ⟨ac, hac⟩ : ∃ x, num 0 c ++ intB tm ++ flagB (!true) ++ num 0 n = x := ⟨_, rfl⟩
    have HAL : Hid (ac.length ≤ 200) := Lib.hid (by rw [← hac]; have := HQ.out; have := HA5.out; rw [List.length_append]; omega)
    rw [hac] at HO21
    have HCC := Lib.hid hac
    have HO21' : Hid (OB w21 W0.heap.size v21 (ac ++ nums (xs.take 0))) := Lib.hid (by have := HO21.out; simpa [nums] using this)
    clear hac HO20 HR20 HB20 HO21 q0 q1 q2 q3 q4 q5 q6 q7 q8 q9 q10 q11 q12 q13
    go_loopg [3, 5] n (fun kx s3 s5 wr => ∃ (k : Nat), s5 = .int .i64 k ∧ k ≤ n ∧ n - k ≤ kx ∧ Hid (OB wr W0.heap.size s3 (ac ++ nums (xs.take k))) ∧ Hid (Below W0.heap.size W0 wr))
    case atStart => exact ⟨0, rfl, by omega, by omega, HO21', HB21⟩
    case round =>
      obtain ⟨k, rfl, hk, hkx, HO, HBr⟩ := hrel
      obtain ⟨q0, q1, q2, q3, q4, q5, q6, q7, q8, q9, q10, q11, q12, q13⟩ := rep_at (ex_below HT0.out HBr.out)
      by_cases hlt : k < n
      · have hltz : (k : Int) < (n : Int) := by omega
        have hk0 : (0 : Int) ≤ (k : Int) := by omega
        obtain ⟨ab, ao, rfl, hab, c0⟩ := (HS.out.kept HBr.out).2.2.2 k hlt
        have hn1 := HN1.out k hlt wr
        have HSN := Lib.hid (nums_snoc xs k (by have := HL.out; omega))
        have HF := Lib.hid (And.intro (num_len9 0 (xs.getD k 0) (HX.out _ (by have := HL.out; rw [List.getD_eq_getElem?_getD, List.getElem?_eq_getElem (by omega)]; exact List.getElem_mem (by omega)))) (num_lt' 0 (xs.getD k 0) (by omega) (HX.out _ (by have := HL.out; rw [List.getD_eq_getElem?_getD, List.getElem?_eq_getElem (by omega)]; exact List.getElem_mem (by omega)))))
        generalize xs.getD k 0 = f at c0 hn1 HSN HF
        go_wp2_with fail
        refine hn1.mono ?_
        rintro e w25 ⟨v25, rfl, ho, hb⟩
        have HB25 := Lib.hid (HBr.out.trans (hb.mono HBr.out.size))
        have HR25 := Lib.hid (ho.rb HF.out.2 (by have := HF.out; omega))
        have HO25 := Lib.hid (HO.out.kept hb)
        clear hn1 ho hb c0 hab q0 q1 q2 q3 q4 q5 q6 q7 q8 q9 q10 q11 q12 q13
        go_wp2_with (at_builtin; go_must (refine append_rb rfl (.tmp 44) (.tmp 50) rfl W0.heap.size _ _ (ac ++ nums (xs.take k)) (num 0 f) rfl rfl HO25.out HR25.out (by have := HAL.out; have := HF.out; have := (HXL.out k).1; rw [List.length_append]; omega) HB25.out.size ?_); intro v26 w26 ho hg'; have HB26 := Lib.hid (HO25.out.below hg' HB25.out HB25.out.size); have HO26 := Lib.hid ho; clear ho hg'; obtain ⟨q0, q1, q2, q3, q4, q5, q6, q7, q8, q9, q10, q11, q12, q13⟩ := rep_at (ex_below HT0.out HB26.out))
        have HO26' : Hid (OB w26 W0.heap.size v26 (ac ++ nums (xs.take (k + 1)))) := Lib.hid (by rw [HSN.out, ← List.append_assoc]; exact HO26.out)
        clear HO25 HR25 HB25 HO26
        go_roundg (n - (k + 1))
        case measure => omega
        case rel =>
          clear e1 e2 e3
          have g1 : k + 1 ≤ n := by omega
          have g2 : n - (k + 1) ≤ n - (k + 1) := Nat.le_refl _
          have hw := wrap_upN k (by have := HN.out; omega)
          exact ⟨k + 1, by first | (rw [hw.1]; rfl) | (rw [hw.2]; rfl), g1, g2, HO26', HB26⟩
      · have hltz : ¬ (k : Int) < (n : Int) := by omega
        obtain rfl : k = n := by omega
        have HLK := Lib.hid (HXL.out k)
        have HXE : Hid (nums (xs.take k) = nums xs) := Lib.hid (by rw [List.take_of_length_le (by rw [HL.out]; exact Nat.le_refl _)])
        obtain ⟨y, hy⟩ : ∃ x, ac ++ nums (xs.take k) = x := ⟨_, rfl⟩
        have HYL : Hid (y.length ≤ 900200) := Lib.hid (by rw [← hy, List.length_append]; have := HAL.out; have := HLK.out.1; omega)
        rw [hy] at HO
        have HY := Lib.hid hy
        clear hy
        go_wp2_with fail
        refine (HNT.out _).mono ?_
        rintro e w30 ⟨v30, rfl, ho, hb⟩
        have HB30 := Lib.hid (HBr.out.trans (hb.mono HBr.out.size))
        have HR30 := Lib.hid (ho.rb HQ.out.2.2.2.1 (by have := HQ.out; omega))
        have HO30 := Lib.hid (HO.out.kept hb)
        clear ho hb q0 q1 q2 q3 q4 q5 q6 q7 q8 q9 q10 q11 q12 q13
        go_wp2_with (at_builtin; go_must (refine append_rb rfl (.tmp 52) (.tmp 55) rfl W0.heap.size _ _ (y) (num 0 nt) rfl rfl HO30.out HR30.out (by have := HYL.out; have := HQ.out; omega) HB30.out.size ?_); intro v31 w31 ho hg'; have HB31 := Lib.hid (HO30.out.below hg' HB30.out HB30.out.size); have HO31 := Lib.hid ho; clear ho hg'; obtain ⟨q0, q1, q2, q3, q4, q5, q6, q7, q8, q9, q10, q11, q12, q13⟩ := rep_at (ex_below HT0.out HB31.out))
        clear HO30 HR30 HB30
        go_wp2_with fail
        refine (HND.out _).mono ?_
        rintro e w32 ⟨v32, rfl, ho, hb⟩
        have HB32 := Lib.hid (HB31.out.trans (hb.mono HB31.out.size))
        have HR32 := Lib.hid (ho.rb HQ.out.2.2.2.2 (by have := HQ.out; omega))
        have HO32 := Lib.hid (HO31.out.kept hb)
        clear ho hb q0 q1 q2 q3 q4 q5 q6 q7 q8 q9 q10 q11 q12 q13
        go_wp2_with (at_builtin; go_must (refine append_rb rfl (.tmp 57) (.tmp 61) rfl W0.heap.size _ _ (y ++ num 0 nt) (num 0 de) rfl rfl HO32.out HR32.out (by have := HYL.out; have := HQ.out; rw [List.length_append]; omega) HB32.out.size ?_); intro v33 w33 ho hg'; have HB33 := Lib.hid (HO32.out.below hg' HB32.out HB32.out.size); have HO33 := Lib.hid ho; clear ho hg'; obtain ⟨q0, q1, q2, q3, q4, q5, q6, q7, q8, q9, q10, q11, q12, q13⟩ := rep_at (ex_below HT0.out HB33.out))
        go_ret
        refine ⟨_, rfl, ?_, HB.out.trans (HB33.out.mono HB.out.size)⟩
        have e : repW c tm true ns xs nt de = (y ++ num 0 nt) ++ num 0 de := by
          rw [← HY.out, HXE.out, ← HCC.out]
          simp [repW, tkW, HL.out, List.append_assoc]
        rw [e]
        exact HO33.out.mono HB.out.size
end Go.Proofs.Ytnhaakdjijjinaa

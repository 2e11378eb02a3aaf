/- The reference's Both: each span of the one with each of the other. -/
import Derived.Test.YthlmeppahcjlgaaBtA
import Derived.BigQuiet
namespace Go.Proofs.Ythlmeppahcjlgaa
open Go.RowKit

theorem meets_snoc (A B : List (Int × Int)) (x : Int × Int) : meets (A ++ [x]) B = meets A B ++ one x B := by simp [meets]
theorem one_snoc (x y : Int × Int) (B : List (Int × Int)) : one x (B ++ [y]) = one x B ++ cutOne x.1 x.2 y.1 y.2 := by simp [one]
/-- What the reference has when it has done k spans of the one, and q of the other with the next. -/
def bothL (F T G U : Nat → Int) (m k q : Nat) : List (Int × Int) := meets (pairs F T k) (pairs G U m) ++ one (F k, T k) (pairs G U q)
theorem bothL_zero (F T G U : Nat → Int) (m k : Nat) : bothL F T G U m k 0 = meets (pairs F T k) (pairs G U m) := by simp [bothL, pairs, one]
theorem bothL_next (F T G U : Nat → Int) (m k q : Nat) : bothL F T G U m k (q + 1) = bothL F T G U m k q ++ cutOne (F k) (T k) (G q) (U q) := by
  unfold bothL
  rw [pairs_succ, one_snoc, List.append_assoc]
theorem bothL_end (F T G U : Nat → Int) (m k : Nat) : bothL F T G U m k m = meets (pairs F T (k + 1)) (pairs G U m) := by
  unfold bothL
  rw [pairs_succ F T k, meets_snoc]
theorem bothL_len (F T G U : Nat → Int) (m k q : Nat) : (bothL F T G U m k q).length ≤ k * m + q := by
  unfold bothL
  have h1 := meets_len (pairs F T k) (pairs G U m)
  have h2 := one_len (F k, T k) (pairs G U q)
  rw [pairs_len, pairs_len] at h1
  rw [pairs_len] at h2
  rw [List.length_append]; omega

set_option maxRecDepth 100000 in
set_option maxHeartbeats 8000000 in
theorem rboth_ok (a b : Option Addr) (n m ca cb : Nat) (F T G U : Nat → Int) (w : World) (hA : Sps w a n F T) (hB : Sps w b m G U) (hn : n ≤ 32) (hm : m ≤ 32) (hg : good F T n = true) (hh : good G U m = true) :
    Calls Try.prog 22 #[.slice a n ca, .slice b m cb] w (BothOwn (meets (pairs F T n) (pairs G U m)) w) := by
  have hra := rrow_any a n ca F T w hA
  rw [rowE_ok hn hg] at hra
  have hrb : ∀ w1, Below w.heap.size w w1 → Calls Try.prog 18 #[.slice b m cb] w1 fun e w' => e = .returned (.int .i64 0) ∧ Below w1.heap.size w1 w' := fun w1 h1 => by
    have := rrow_any b m cb G U w1 (hB.kept h1)
    rw [rowE_ok hm hh] at this
    exact this
  have HRB := Lib.hid hrb
  have HN := Lib.hid hn
  have HM := Lib.hid hm
  have HCA := Lib.hid hA
  have HCB := Lib.hid hB
  clear hA hB hg hh hrb
  go_enter Try.func22, Try.ntmps22
  go_wp2_with fail
  refine hra.mono ?_
  rintro e w1 ⟨rfl, hb1⟩
  have HB1 := Lib.hid hb1
  clear hra hb1
  go_wp2_with fail
  refine (HRB.out _ HB1.out).mono ?_
  rintro e w2 ⟨rfl, hb2⟩
  have HB2 := Lib.hid (HB1.out.trans (hb2.mono HB1.out.size))
  clear hb2
  go_wp2_with fail
  go_loopw [5, 6] (fun v i wr => ∃ k : Nat, k ≤ n ∧ i = .int .i64 k ∧ OS wr w.heap.size v (meets (pairs F T k) (pairs G U m)) ∧ Below w.heap.size w wr) (fun _ i _ => n - (intOf i).toNat)
  case atStart => exact ⟨0, Nat.zero_le _, rfl, OS.nil _ _, HB2.out⟩
  case round =>
    obtain ⟨k, hk, rfl, hO, hB⟩ := hrel
    by_cases hlt : k < n
    · have HO : Hid (OS wr w.heap.size u5 (bothL F T G U m k 0)) := Lib.hid (by rw [bothL_zero]; exact hO)
      have HB := Lib.hid hB
      have d4 : decide ((k : Int) < (n : Int)) = true := by simp [hlt]
      have k0 : (0 : Int) ≤ (k : Int) := by omega
      have kl : (k : Int) < (n : Int) := by omega
      clear hO hB
      obtain ⟨wo, rfl⟩ : ∃ wo : World, wo = wr := ⟨_, rfl⟩
      go_wp2_with fail
      go_loopw [5, 7] (fun v i wx => ∃ q : Nat, q ≤ m ∧ i = .int .i64 q ∧ OS wx w.heap.size v (bothL F T G U m k q) ∧ Below w.heap.size w wx) (fun _ i _ => m - (intOf i).toNat)
      case atStart => exact ⟨0, Nat.zero_le _, rfl, HO.out, HB.out⟩
      case round =>
        clear HO HB
        obtain ⟨q, hq, rfl, hO, hB⟩ := hrel
        by_cases hlq : q < m
        · obtain ⟨va, vc, rfl, _, _⟩ := hO.shape
          have hlen := bothL_len F T G U m k q
          have hkm : k * m ≤ 32 * 32 := Nat.mul_le_mul (by omega) hm
          obtain ⟨pa, qa, rfl, hab, c0, c1, b0, b1, b2, b3⟩ := HCA.out.at hB k hlt
          obtain ⟨pb, qb, rfl, hbb, c2, c3, b4, b5, b6, b7⟩ := HCB.out.at hB q hlq
          have HK := Lib.hid (bothL_next F T G U m k q)
          have HB := Lib.hid hB
          have HO := Lib.hid hO
          have hll : (bothL F T G U m k q).length ≤ 100000 := by omega
          have HLL := Lib.hid hll
          have hbase : w.heap.size ≤ wr.heap.size := hB.size
          obtain ⟨f, e0⟩ : ∃ x, F k = x := ⟨_, rfl⟩
          obtain ⟨t, e1⟩ : ∃ x, T k = x := ⟨_, rfl⟩
          obtain ⟨f', e2⟩ : ∃ x, G q = x := ⟨_, rfl⟩
          obtain ⟨t', e3⟩ : ∃ x, U q = x := ⟨_, rfl⟩
          rw [e0] at c0 HK
          rw [e1] at c1 HK
          rw [e2] at c2 HK
          rw [e3] at c3 HK
          obtain ⟨l, hl⟩ : ∃ l, bothL F T G U m k q = l := ⟨_, rfl⟩
          rw [hl] at HK HO HLL ⊢
          have q0 : (0 : Int) ≤ (q : Int) := by omega
          have ql : (q : Int) < (m : Int) := by omega
          have d5 : decide ((q : Int) < (m : Int)) = true := by simp [hlq]
          have hS : ∀ w1, Below wr.heap.size wr w1 → w1.cell? ⟨pa, qa + k * 2, none⟩ = some (.int .i64 f) ∧ w1.cell? ⟨pa, qa + k * 2 + 1, none⟩ = some (.int .i64 t) ∧ w1.cell? ⟨pb, qb + q * 2, none⟩ = some (.int .i64 f') ∧ w1.cell? ⟨pb, qb + q * 2 + 1, none⟩ = some (.int .i64 t') ∧ Below wr.heap.size wr w1 := fun w1 h1 =>
            ⟨(h1.cell (p := ⟨pa, qa + k * 2, none⟩) hab).trans c0, (h1.cell (p := ⟨pa, qa + k * 2 + 1, none⟩) hab).trans c1, (h1.cell (p := ⟨pb, qb + q * 2, none⟩) hbb).trans c2, (h1.cell (p := ⟨pb, qb + q * 2 + 1, none⟩) hbb).trans c3, h1⟩
          have h0 := hS wr.drew (Below.refl _ _).drew
          have HSC := Lib.hid hS
          have HP : Hid (∀ W, Calls Try.prog 46 #[.agg #[.int .i64 f, .int .i64 t], .int .i64 f', .int .i64 t'] W (GotPart (mx f f') (mn t t') W)) := Lib.hid (part_any f t f' t')
          have HON : Hid (cutOne f t f' t' = if mx f f' < mn t t' then [(mx f f', mn t t')] else []) := Lib.hid rfl
          clear hO hB e0 e1 e2 e3 hl hll hlen hkm c0 c1 c2 c3 hS b0 b1 b2 b3 b4 b5 b6 b7
          go_wp2_with fail
          refine wp_region_held_drew (S := (fun w' => w'.cell? ⟨pa, qa + k * 2, none⟩ = some (.int .i64 f) ∧ w'.cell? ⟨pa, qa + k * 2 + 1, none⟩ = some (.int .i64 t) ∧ w'.cell? ⟨pb, qb + q * 2, none⟩ = some (.int .i64 f') ∧ w'.cell? ⟨pb, qb + q * 2 + 1, none⟩ = some (.int .i64 t') ∧ Below wr.heap.size wr w')) (by kernel_rfl) h0 (fun hHeld => ?_)
          refine wpAnyH_take (i := 0) (v := ?_) rfl (by kernel_rfl) (by kernel_rfl) (by kernel_rfl) (fun _ _ _ h => h) (Or.inl ⟨by rfl, ?_⟩) (by assumption) ?_
          case refine_2 => (intro w1 hS1; (try dsimp only at hS1); go_simp; try with_reducible rfl)
          try simp only [List.getElem_toArray, List.getElem_cons_zero, List.getElem_cons_succ, Act.put, List.setIfInBounds_toArray, List.set_cons_zero, List.set_cons_succ]
          refine wpAnyH_take (i := 1) (v := ?_) rfl (by kernel_rfl) (by kernel_rfl) (by kernel_rfl) (fun _ _ _ h => h) (Or.inl ⟨by rfl, ?_⟩) (by assumption) ?_
          case refine_2 => (intro w1 hS1; (try dsimp only at hS1); go_simp; try with_reducible rfl)
          try simp only [List.getElem_toArray, List.getElem_cons_zero, List.getElem_cons_succ, Act.put, List.setIfInBounds_toArray, List.set_cons_zero, List.set_cons_succ]
          refine wpAnyH_take (i := 2) (v := ?_) rfl (by kernel_rfl) (by kernel_rfl) (by kernel_rfl) (fun _ _ _ h => h) (Or.inl ⟨by rfl, ?_⟩) (by assumption) ?_
          case refine_2 => (intro w1 hS1; (try dsimp only at hS1); go_simp; try with_reducible rfl)
          try simp only [List.getElem_toArray, List.getElem_cons_zero, List.getElem_cons_succ, Act.put, List.setIfInBounds_toArray, List.set_cons_zero, List.set_cons_succ]
          refine wpAnyH_take (i := 3) (v := ?_) rfl (by kernel_rfl) (by kernel_rfl) (by kernel_rfl) (fun _ _ _ h => h) (Or.inl ⟨by rfl, ?_⟩) (by assumption) ?_
          case refine_2 => (intro w1 hS1; (try dsimp only at hS1); go_simp; try with_reducible rfl)
          try simp only [List.getElem_toArray, List.getElem_cons_zero, List.getElem_cons_succ, Act.put, List.setIfInBounds_toArray, List.set_cons_zero, List.set_cons_succ]
          refine wpAnyH_take (i := 4) (v := ?_) rfl (by kernel_rfl) (by kernel_rfl) (by kernel_rfl) (fun _ _ _ h => h) (Or.inl ⟨by rfl, ?_⟩) (by assumption) ?_
          case refine_2 => (intro w1 hS1; (try dsimp only at hS1); go_simp; try with_reducible rfl)
          try simp only [List.getElem_toArray, List.getElem_cons_zero, List.getElem_cons_succ, Act.put, List.setIfInBounds_toArray, List.set_cons_zero, List.set_cons_succ]
          refine wpAnyH_take (i := 5) (v := ?_) rfl (by kernel_rfl) (by kernel_rfl) (by kernel_rfl) (fun _ _ _ h => h) (Or.inl ⟨by rfl, ?_⟩) (by assumption) ?_
          case refine_2 => (intro w1 hS1; (try dsimp only at hS1); go_simp; try with_reducible rfl)
          try simp only [List.getElem_toArray, List.getElem_cons_zero, List.getElem_cons_succ, Act.put, List.setIfInBounds_toArray, List.set_cons_zero, List.set_cons_succ]
          refine wpAnyH_take (i := 6) (v := ?_) rfl (by kernel_rfl) (by kernel_rfl) (by kernel_rfl) (fun _ _ _ h => h) (Or.inl ⟨by rfl, ?_⟩) (by assumption) ?_
          case refine_2 => (intro w1 hS1; (try dsimp only at hS1); go_simp; try with_reducible rfl)
          try simp only [List.getElem_toArray, List.getElem_cons_zero, List.getElem_cons_succ, Act.put, List.setIfInBounds_toArray, List.set_cons_zero, List.set_cons_succ]
          refine wpAnyH_take (i := 7) (v := ?_) rfl (by kernel_rfl) (by kernel_rfl) (by kernel_rfl) (fun _ _ _ h => h) (Or.inl ⟨by rfl, ?_⟩) (by assumption) ?_
          case refine_2 => (intro w1 hS1; (try dsimp only at hS1); go_simp; try with_reducible rfl)
          try simp only [List.getElem_toArray, List.getElem_cons_zero, List.getElem_cons_succ, Act.put, List.setIfInBounds_toArray, List.set_cons_zero, List.set_cons_succ]
          refine wpAnyH_take (i := 8) (v := ?_) rfl (by kernel_rfl) (by kernel_rfl) (by kernel_rfl) (fun _ _ _ h => h) (Or.inl ⟨by rfl, ?_⟩) (by assumption) ?_
          case refine_2 => (intro w1 hS1; (try dsimp only at hS1); go_simp; try with_reducible rfl)
          try simp only [List.getElem_toArray, List.getElem_cons_zero, List.getElem_cons_succ, Act.put, List.setIfInBounds_toArray, List.set_cons_zero, List.set_cons_succ]
          refine wpAnyH_take (i := 9) (v := ?_) rfl (by kernel_rfl) (by kernel_rfl) (by kernel_rfl) (fun _ _ _ h => h) (Or.inl ⟨by rfl, ?_⟩) (by assumption) ?_
          case refine_2 => (intro w1 hS1; (try dsimp only at hS1); go_simp; try with_reducible rfl)
          try simp only [List.getElem_toArray, List.getElem_cons_zero, List.getElem_cons_succ, Act.put, List.setIfInBounds_toArray, List.set_cons_zero, List.set_cons_succ]
          refine wpAnyH_take (i := 10) (v := ?_) rfl (by kernel_rfl) (by kernel_rfl) (by kernel_rfl) (fun _ _ _ h => h) (Or.inl ⟨by rfl, ?_⟩) (by assumption) ?_
          case refine_2 => (intro w1 hS1; (try dsimp only at hS1); go_simp; try with_reducible rfl)
          try simp only [List.getElem_toArray, List.getElem_cons_zero, List.getElem_cons_succ, Act.put, List.setIfInBounds_toArray, List.set_cons_zero, List.set_cons_succ]
          refine wpAnyH_take (i := 11) (v := ?_) rfl (by kernel_rfl) (by kernel_rfl) (by kernel_rfl) (fun _ _ _ h => h) (Or.inl ⟨by rfl, ?_⟩) (by assumption) ?_
          case refine_2 => (intro w1 hS1; (try dsimp only at hS1); go_simp; try with_reducible rfl)
          try simp only [List.getElem_toArray, List.getElem_cons_zero, List.getElem_cons_succ, Act.put, List.setIfInBounds_toArray, List.set_cons_zero, List.set_cons_succ]
          refine wpAnyH_take (i := 12) (v := ?_) rfl (by kernel_rfl) (by kernel_rfl) (by kernel_rfl) (fun _ _ _ h => h) (Or.inl ⟨by rfl, ?_⟩) (by assumption) ?_
          case refine_2 => (intro w1 hS1; (try dsimp only at hS1); go_simp; try with_reducible rfl)
          try simp only [List.getElem_toArray, List.getElem_cons_zero, List.getElem_cons_succ, Act.put, List.setIfInBounds_toArray, List.set_cons_zero, List.set_cons_succ]
          refine wpAnyH_take (i := 13) (v := ?_) rfl (by kernel_rfl) (by kernel_rfl) (by kernel_rfl) (fun _ _ _ h => h) (Or.inl ⟨by rfl, ?_⟩) (by assumption) ?_
          case refine_2 => (intro w1 hS1; (try dsimp only at hS1); go_simp; try with_reducible rfl)
          try simp only [List.getElem_toArray, List.getElem_cons_zero, List.getElem_cons_succ, Act.put, List.setIfInBounds_toArray, List.set_cons_zero, List.set_cons_succ]
          refine wpAnyH_ready (rs := [14, 18]) (by kernel_rfl) (by simp) ?_
          refine AllReadyH.cons rfl (fun K hK => ?_) (AllReadyH.cons rfl (fun K hK => ?_) AllReadyH.nil)
          · go_simp
            refine (HP.out _).mono ?_; rintro e w8 ⟨u, v, bb, rfl, hu, hv, hbb, hb8⟩; have HU := Lib.hid (And.intro hu (And.intro hv hbb)); have hB8 : Below wr.heap.size wr w8 := (Below.refl _ _).drew.trans hb8; have HB8 := Lib.hid hB8; clear hB8; clear hu hv hbb hb8
            refine hK.out _ _ (HSC.out _ HB8.out) (fun hHeld => ?_)
            clear hK K
            try simp only [List.getElem_toArray, List.getElem_cons_zero, List.getElem_cons_succ, Act.put, List.setIfInBounds_toArray, List.set_cons_zero, List.set_cons_succ]
            refine wpAnyH_take (i := 15) (v := ?_) rfl (by kernel_rfl) (by kernel_rfl) (by kernel_rfl) (fun _ _ _ h => h) (Or.inl ⟨by rfl, ?_⟩) (by assumption) ?_
            case refine_2 => (intro w1 hS1; (try dsimp only at hS1); go_simp; try with_reducible rfl)
            try simp only [List.getElem_toArray, List.getElem_cons_zero, List.getElem_cons_succ, Act.put, List.setIfInBounds_toArray, List.set_cons_zero, List.set_cons_succ]
            refine wpAnyH_take (i := 16) (v := ?_) rfl (by kernel_rfl) (by kernel_rfl) (by kernel_rfl) (fun _ _ _ h => h) (Or.inl ⟨by rfl, ?_⟩) (by assumption) ?_
            case refine_2 => (intro w1 hS1; (try dsimp only at hS1); go_simp; try with_reducible rfl)
            try simp only [List.getElem_toArray, List.getElem_cons_zero, List.getElem_cons_succ, Act.put, List.setIfInBounds_toArray, List.set_cons_zero, List.set_cons_succ]
            refine wpAnyH_take (i := 17) (v := ?_) rfl (by kernel_rfl) (by kernel_rfl) (by kernel_rfl) (fun _ _ _ h => h) (Or.inl ⟨by rfl, ?_⟩) (by assumption) ?_
            case refine_2 => (intro w1 hS1; (try dsimp only at hS1); go_simp; try with_reducible rfl)
            try simp only [List.getElem_toArray, List.getElem_cons_zero, List.getElem_cons_succ, Act.put, List.setIfInBounds_toArray, List.set_cons_zero, List.set_cons_succ]
            refine wpAnyH_ready (rs := [18]) (by kernel_rfl) (by simp) ?_
            refine AllReadyH.cons rfl (fun K hK => ?_) AllReadyH.nil
            go_simp
            refine hK.out _ _ (HSC.out _ (HB8.out.alloc HB8.out.size _)) (fun hHeld => ?_)
            clear hK K
            try simp only [List.getElem_toArray, List.getElem_cons_zero, List.getElem_cons_succ, Act.put, List.setIfInBounds_toArray, List.set_cons_zero, List.set_cons_succ]
            refine wpAnyH_ready (rs := [19]) (by kernel_rfl) (by simp) ?_
            refine AllReadyH.cons rfl (fun K hK => ?_) AllReadyH.nil
            go_simp
            refine hK.out _ _ (HSC.out _ (HB8.out.alloc HB8.out.size _)) (fun hHeld => ?_)
            clear hK K
            try simp only [List.getElem_toArray, List.getElem_cons_zero, List.getElem_cons_succ, Act.put, List.setIfInBounds_toArray, List.set_cons_zero, List.set_cons_succ]
            refine wpAnyH_take (i := 20) (v := ?_) rfl (by kernel_rfl) (by kernel_rfl) (by kernel_rfl) (fun _ _ _ h => h) (Or.inl ⟨by rfl, ?_⟩) (by assumption) ?_
            case refine_2 => (intro w1 hS1; (try dsimp only at hS1); go_simp; try with_reducible rfl)
            try simp only [List.getElem_toArray, List.getElem_cons_zero, List.getElem_cons_succ, Act.put, List.setIfInBounds_toArray, List.set_cons_zero, List.set_cons_succ]
            refine wpAnyH_done (by kernel_rfl) ?_ _
            have c8 : (w8.alloc (.cells #[.int .i64 u, .int .i64 v] 25)).cell? ⟨w8.heap.size, 0, none⟩ = some (.int .i64 u) := by simp
            have c9 : (w8.alloc (.cells #[.int .i64 u, .int .i64 v] 25)).cell? ⟨w8.heap.size, 1, none⟩ = some (.int .i64 v) := by simp
            have HB10 : Hid (Below wr.heap.size wr (w8.alloc (.cells #[.int .i64 u, .int .i64 v] 25))) := Lib.hid (HB8.out.alloc HB8.out.size _)
            clear HB8 hHeld
            generalize w8.alloc (.cells #[.int .i64 u, .int .i64 v] 25) = W10 at c8 c9 HB10 ⊢
            obtain ⟨hu, hv, hbb⟩ := HU.out
            subst hbb
            have HO1 := Lib.hid (HO.out.kept HB10.out)
            have HB1 := Lib.hid (HB.out.trans (HB10.out.mono hbase))
            have HUV : Hid (u = mx f f' ∧ v = mn t t') := Lib.hid ⟨hu, hv⟩
            clear hu hv HU
            obtain ⟨c, hc⟩ : ∃ c, decide (mx f f' < mn t t') = c := ⟨_, rfl⟩
            rw [hc]
            have HCD := Lib.hid hc
            clear hc
            cases c
            · go_wp2_with fail
              go_roundw
              case rel => exact ⟨q + 1, hlq, by go_num, by rw [HK.out, HON.out, if_neg (of_decide_eq_false HCD.out), List.append_nil]; exact HO1.out, HB1.out⟩
              case measure => simp [intOf]; omega
            · have hBn : Below W10.heap.size W10 (W10.alloc (.cells #[.int .i64 u, .int .i64 v] 25)) := (Below.refl _ _).alloc (Nat.le_refl _) _
              have HO2 := Lib.hid (HO1.out.kept hBn)
              have HB2 := Lib.hid (HB1.out.trans (hBn.mono HB1.out.size))
              have HNS := Lib.hid (new_span W10 (.int .i64 u) (.int .i64 v) 25)
              clear hBn
              go_wp2_with (at_builtin; refine append_span rfl (.tmp 49) (.tmp 51) rfl w.heap.size (.slice va l.length vc) l u v ⟨W10.heap.size, 0, none⟩ 1 rfl rfl HO2.out HNS.out HLL.out HB2.out.size ?_; intro v' w' hO' hst; have HO' := Lib.hid hO'; have HST := Lib.hid hst; clear hO' hst)
              go_roundw
              case rel => exact ⟨q + 1, hlq, by go_num, by rw [HK.out, HON.out, if_pos (of_decide_eq_true HCD.out), ← HUV.out.1, ← HUV.out.2]; exact HO'.out, HST.out.2 _ HB2.out⟩
              case measure => simp [intOf]; omega
          · go_simp
            refine hK.out _ _ (HSC.out _ ((Below.refl _ _).drew.alloc (Nat.le_refl _) _)) (fun hHeld => ?_)
            clear hK K
            try simp only [List.getElem_toArray, List.getElem_cons_zero, List.getElem_cons_succ, Act.put, List.setIfInBounds_toArray, List.set_cons_zero, List.set_cons_succ]
            refine wpAnyH_ready (rs := [14]) (by kernel_rfl) (by simp) ?_
            refine AllReadyH.cons rfl (fun K hK => ?_) AllReadyH.nil
            go_simp
            refine (HP.out _).mono ?_; rintro e w8 ⟨u, v, bb, rfl, hu, hv, hbb, hb8⟩; have HU := Lib.hid (And.intro hu (And.intro hv hbb)); have hB8 : Below wr.heap.size wr w8 := ((Below.refl _ _).drew.alloc (Nat.le_refl _) _).trans (hb8.mono (by simp)); have HB8 := Lib.hid hB8; clear hB8; have HB9 := Lib.hid hb8; clear hu hv hbb hb8
            refine hK.out _ _ (HSC.out _ HB8.out) (fun hHeld => ?_)
            clear hK K
            try simp only [List.getElem_toArray, List.getElem_cons_zero, List.getElem_cons_succ, Act.put, List.setIfInBounds_toArray, List.set_cons_zero, List.set_cons_succ]
            refine wpAnyH_take (i := 15) (v := ?_) rfl (by kernel_rfl) (by kernel_rfl) (by kernel_rfl) (fun _ _ _ h => h) (Or.inl ⟨by rfl, ?_⟩) (by assumption) ?_
            case refine_2 => (intro w1 hS1; (try dsimp only at hS1); go_simp; try with_reducible rfl)
            try simp only [List.getElem_toArray, List.getElem_cons_zero, List.getElem_cons_succ, Act.put, List.setIfInBounds_toArray, List.set_cons_zero, List.set_cons_succ]
            refine wpAnyH_take (i := 16) (v := ?_) rfl (by kernel_rfl) (by kernel_rfl) (by kernel_rfl) (fun _ _ _ h => h) (Or.inl ⟨by rfl, ?_⟩) (by assumption) ?_
            case refine_2 => (intro w1 hS1; (try dsimp only at hS1); go_simp; try with_reducible rfl)
            try simp only [List.getElem_toArray, List.getElem_cons_zero, List.getElem_cons_succ, Act.put, List.setIfInBounds_toArray, List.set_cons_zero, List.set_cons_succ]
            refine wpAnyH_take (i := 17) (v := ?_) rfl (by kernel_rfl) (by kernel_rfl) (by kernel_rfl) (fun _ _ _ h => h) (Or.inl ⟨by rfl, ?_⟩) (by assumption) ?_
            case refine_2 => (intro w1 hS1; (try dsimp only at hS1); go_simp; try with_reducible rfl)
            try simp only [List.getElem_toArray, List.getElem_cons_zero, List.getElem_cons_succ, Act.put, List.setIfInBounds_toArray, List.set_cons_zero, List.set_cons_succ]
            have z0 := (HB9.out.cell (p := ⟨wr.heap.size, 0, none⟩) (by simp)).trans (show _ = some (.int .i64 0) by simp)
            have z1 := (HB9.out.cell (p := ⟨wr.heap.size, 1, none⟩) (by simp)).trans (show _ = some (.int .i64 0) by simp)
            have z2 := (HB9.out.frozen (p := ⟨wr.heap.size, 0, none⟩) (by simp)).trans (show _ = false by simp)
            have z3 := (HB9.out.frozen (p := ⟨wr.heap.size, 1, none⟩) (by simp)).trans (show _ = false by simp)
            refine wpAnyH_ready (rs := [19]) (by kernel_rfl) (by simp) ?_
            refine AllReadyH.cons rfl (fun K hK => ?_) AllReadyH.nil
            go_simp
            refine hK.out _ _ (HSC.out _ ((HB8.out.setCell (Nat.le_refl _) _).setCell (Nat.le_refl _) _)) (fun hHeld => ?_)
            clear hK K
            try simp only [List.getElem_toArray, List.getElem_cons_zero, List.getElem_cons_succ, Act.put, List.setIfInBounds_toArray, List.set_cons_zero, List.set_cons_succ]
            refine wpAnyH_take (i := 20) (v := ?_) rfl (by kernel_rfl) (by kernel_rfl) (by kernel_rfl) (fun _ _ _ h => h) (Or.inl ⟨by rfl, ?_⟩) (by assumption) ?_
            case refine_2 => (intro w1 hS1; (try dsimp only at hS1); go_simp; try with_reducible rfl)
            try simp only [List.getElem_toArray, List.getElem_cons_zero, List.getElem_cons_succ, Act.put, List.setIfInBounds_toArray, List.set_cons_zero, List.set_cons_succ]
            refine wpAnyH_done (by kernel_rfl) ?_ _
            have c8 : ((w8.setCell ⟨wr.heap.size, 0, none⟩ (.int .i64 u)).setCell ⟨wr.heap.size, 1, none⟩ (.int .i64 v)).cell? ⟨wr.heap.size, 0, none⟩ = some (.int .i64 u) := by rw [World.cell?_setCell_other _ _ _ _ (by simp), World.cell?_setCell_same _ _ _ z0]
            have c9 : ((w8.setCell ⟨wr.heap.size, 0, none⟩ (.int .i64 u)).setCell ⟨wr.heap.size, 1, none⟩ (.int .i64 v)).cell? ⟨wr.heap.size, 1, none⟩ = some (.int .i64 v) := by rw [World.cell?_setCell_same _ _ _ ((World.cell?_setCell_other _ _ _ _ (by simp)).trans z1)]
            have HB10 : Hid (Below wr.heap.size wr ((w8.setCell ⟨wr.heap.size, 0, none⟩ (.int .i64 u)).setCell ⟨wr.heap.size, 1, none⟩ (.int .i64 v))) := Lib.hid ((HB8.out.setCell (Nat.le_refl _) _).setCell (Nat.le_refl _) _)
            clear HB8 hHeld
            generalize (w8.setCell ⟨wr.heap.size, 0, none⟩ (.int .i64 u)).setCell ⟨wr.heap.size, 1, none⟩ (.int .i64 v) = W10 at c8 c9 HB10 ⊢
            obtain ⟨hu, hv, hbb⟩ := HU.out
            subst hbb
            have HO1 := Lib.hid (HO.out.kept HB10.out)
            have HB1 := Lib.hid (HB.out.trans (HB10.out.mono hbase))
            have HUV : Hid (u = mx f f' ∧ v = mn t t') := Lib.hid ⟨hu, hv⟩
            clear hu hv HU
            obtain ⟨c, hc⟩ : ∃ c, decide (mx f f' < mn t t') = c := ⟨_, rfl⟩
            rw [hc]
            have HCD := Lib.hid hc
            clear hc
            cases c
            · go_wp2_with fail
              go_roundw
              case rel => exact ⟨q + 1, hlq, by go_num, by rw [HK.out, HON.out, if_neg (of_decide_eq_false HCD.out), List.append_nil]; exact HO1.out, HB1.out⟩
              case measure => simp [intOf]; omega
            · have hBn : Below W10.heap.size W10 (W10.alloc (.cells #[.int .i64 u, .int .i64 v] 25)) := (Below.refl _ _).alloc (Nat.le_refl _) _
              have HO2 := Lib.hid (HO1.out.kept hBn)
              have HB2 := Lib.hid (HB1.out.trans (hBn.mono HB1.out.size))
              have HNS := Lib.hid (new_span W10 (.int .i64 u) (.int .i64 v) 25)
              clear hBn
              go_wp2_with (at_builtin; refine append_span rfl (.tmp 49) (.tmp 51) rfl w.heap.size (.slice va l.length vc) l u v ⟨W10.heap.size, 0, none⟩ 1 rfl rfl HO2.out HNS.out HLL.out HB2.out.size ?_; intro v' w' hO' hst; have HO' := Lib.hid hO'; have HST := Lib.hid hst; clear hO' hst)
              go_roundw
              case rel => exact ⟨q + 1, hlq, by go_num, by rw [HK.out, HON.out, if_pos (of_decide_eq_true HCD.out), ← HUV.out.1, ← HUV.out.2]; exact HO'.out, HST.out.2 _ HB2.out⟩
              case measure => simp [intOf]; omega
        · obtain rfl : m = q := by omega
          have HO := Lib.hid hO
          have HB := Lib.hid hB
          clear hO hB
          go_wp2_with fail
          go_roundw
          case rel => exact ⟨k + 1, hlt, by go_num, by rw [← bothL_end]; exact HO.out, HB.out⟩
          case measure => simp [intOf]; omega
    · obtain rfl : n = k := by omega
      have HO := Lib.hid hO
      have HB := Lib.hid hB
      obtain ⟨va, vc, rfl, _, _⟩ := hO.shape
      clear hO hB
      by_cases hL : 32 < (meets (pairs F T n) (pairs G U m)).length
      · have HL := Lib.hid hL
        obtain ⟨L, hLe⟩ : ∃ L, (meets (pairs F T n) (pairs G U m)).length = L := ⟨_, rfl⟩
        rw [hLe] at hL ⊢
        have d9 : decide (32 < (L : Int)) = true := decide_eq_true (by omega)
        clear hLe
        go_wp2_with fail
        go_ret
        exact ⟨_, rfl, by rw [if_pos HL.out]; exact OS.nil _ _, HB.out⟩
      · have HL := Lib.hid hL
        have HLE : Hid (OS wr w.heap.size (.slice va (meets (pairs F T n) (pairs G U m)).length vc) (meets (pairs F T n) (pairs G U m))) := HO
        obtain ⟨L, hLe⟩ : ∃ L, (meets (pairs F T n) (pairs G U m)).length = L := ⟨_, rfl⟩
        rw [hLe] at hL ⊢
        rw [hLe] at HLE
        have d9 : decide (32 < (L : Int)) = false := decide_eq_false (by omega)
        clear hLe HO
        go_wp2_with fail
        go_ret
        exact ⟨_, rfl, by rw [if_neg HL.out]; exact HLE.out, HB.out⟩
end Go.Proofs.Ythlmeppahcjlgaa

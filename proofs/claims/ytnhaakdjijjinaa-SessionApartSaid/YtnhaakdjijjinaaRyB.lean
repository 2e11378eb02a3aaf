/- Replies compared, both ways; rows of numbers that can be read. -/
import Derived.Test.YtnhaakdjijjinaaRyA
import Derived.Deep.LoopGhost
import Derived.Deep.QuietTactic
import Derived.BigQuiet
namespace Go.Proofs.Ytnhaakdjijjinaa
open Go.RowKit
/-- A row of numbers that can be read. -/
def Us (w : World) (a : Option Addr) (n : Nat) (xs : List Nat) : Prop :=
  xs.length = n ∧ n ≤ maxLen ∧ (∀ x ∈ xs, x < 18446744073709551616) ∧ ∀ i, i < n → ∃ b off, a = some ⟨b, off, none⟩ ∧ b < w.heap.size ∧ w.cell? ⟨b, off + i, none⟩ = some (.int .u64 ((xs.getD i 0 : Nat) : Int))
theorem Us.kept {w w' : World} {a : Option Addr} {n : Nat} {xs : List Nat} (h : Us w a n xs) (hb : Below w.heap.size w w') : Us w' a n xs := by
  obtain ⟨h1, h2, h3, h4⟩ := h
  refine ⟨h1, h2, h3, fun i hi => ?_⟩
  obtain ⟨b, off, ha, hlt, hc⟩ := h4 i hi
  exact ⟨b, off, ha, Nat.lt_of_lt_of_le hlt hb.size, by rw [hb.cell hlt]; exact hc⟩
theorem Us.none (w : World) : Us w none 0 [] := ⟨rfl, by unfold maxLen; omega, by simp, fun i hi => by omega⟩
theorem Us.rv {w : World} {a : Option Addr} {n ca : Nat} {xs : List Nat} (h : Us w a n xs) (hn : n ≤ 1000000) : RV w (.slice a n ca) (xs.map fun n => .int .u64 ((n : Nat) : Int)) := by
  obtain ⟨h1, h2, h3, h4⟩ := h
  refine ⟨by rw [List.length_map]; omega, a, ca, by rw [List.length_map, h1], fun i hi => ?_⟩
  rw [List.length_map, h1] at hi
  obtain ⟨b, off, ha, -, hc⟩ := h4 i hi
  refine ⟨b, off, ha, ?_⟩
  rw [hc]
  have : i < xs.length := by omega
  simp [this]
theorem take_step {xs ys : List Nat} {k : Nat} (hx : k < xs.length) (hy : k < ys.length) (h : xs.take k = ys.take k) : xs.take (k + 1) = ys.take (k + 1) ↔ xs.getD k 0 = ys.getD k 0 := by
  rw [take_succ_getD' xs k hx, take_succ_getD' ys k hy, h]
  simp
theorem take_ne {xs ys : List Nat} {k : Nat} (h : xs.take k ≠ ys.take k) : xs ≠ ys := fun e => h (by rw [e])
set_option maxRecDepth 100000 in
set_option maxHeartbeats 4000000 in
theorem equal_us (a a' : Option Addr) (n ca n' ca' : Nat) (xs ys : List Nat) (w : World) (h : Us w a n xs) (h' : Us w a' n' ys) :
    Calls Try.prog 48 #[.slice a n ca, .slice a' n' ca'] w fun e w' => e = .returned (.bool (decide (xs = ys))) ∧ ∃ q, w' = w.drewN q := by
  have hm := h.2.1
  have hm' := h'.2.1
  unfold maxLen at hm hm'
  have HL := Lib.hid (And.intro h.1 h'.1)
  by_cases hl : n = n'
  · subst hl
    have HC := Lib.hid h
    have HC' := Lib.hid h'
    clear h h'
    go_enter Try.func48, Try.ntmps48
    go_wp2
    go_loopw [13] (fun i wr => ∃ k : Nat, k ≤ n ∧ i = .int .i64 k ∧ Hid (xs.take k = ys.take k) ∧ ∃ q, wr = w.drewN q) (fun i _ => n - (intOf i).toNat)
    case atStart => exact ⟨0, Nat.zero_le _, rfl, Lib.hid rfl, 0, rfl⟩
    case round =>
      obtain ⟨k, hk, rfl, hg, q, rfl⟩ := hrel
      by_cases hlt : k < n
      · obtain ⟨ab, ao, rfl, hab, c0⟩ := HC.out.2.2.2 k hlt
        obtain ⟨ab', ao', rfl, hab', c0'⟩ := HC'.out.2.2.2 k hlt
        have HG : Hid (xs.take (k + 1) = ys.take (k + 1) ↔ xs.getD k 0 = ys.getD k 0) := Lib.hid (take_step (by rw [HL.out.1]; exact hlt) (by rw [HL.out.2]; exact hlt) hg.out)
        obtain ⟨x, e0⟩ : ∃ x : Nat, xs.getD k 0 = x := ⟨_, rfl⟩
        obtain ⟨y, e1⟩ : ∃ x : Nat, ys.getD k 0 = x := ⟨_, rfl⟩
        rw [e0, e1] at HG
        rw [e0] at c0
        rw [e1] at c0'
        clear hg e0 e1
        have k0 : (0 : Int) ≤ (k : Int) := by omega
        have kl : (k : Int) < (n : Int) := by omega
        have d4 : decide ((k : Int) < (n : Int)) = true := by simp [hlt]
        by_cases hxy : x = y
        · have HXY := Lib.hid hxy
          have hd : decide ((x : Int) = (y : Int)) = true := by simp [hxy]
          have hd2 : ((x : Int) != (y : Int)) = false := by simp [hxy]
          clear hxy
          go_wp2
          go_quiet (fail)
          go_wp2
          go_roundw
          case rel => exact ⟨k + 1, hlt, by go_num, Lib.hid (HG.out.2 HXY.out), _, rfl⟩
          case measure => simp [intOf]; omega
        · have HXY := Lib.hid hxy
          have hd : decide ((x : Int) = (y : Int)) = false := by simp; omega
          have hd2 : ((x : Int) != (y : Int)) = true := by simp; omega
          clear hxy
          go_wp2
          go_quiet (fail)
          go_wp2
          go_ret
          exact ⟨ret_bool (decide_eq_false (take_ne (fun e => HXY.out (HG.out.1 e)))).symm, _, World.drewN_drewN _ _ _⟩
      · obtain rfl : k = n := by omega
        go_wp2
        go_ret
        refine ⟨ret_bool (decide_eq_true ?_).symm, q, rfl⟩
        have := hg.out
        rwa [List.take_of_length_le (by rw [HL.out.1]; exact Nat.le_refl _), List.take_of_length_le (by rw [HL.out.2]; exact Nat.le_refl _)] at this
  · have d : ((n : Int) != (n' : Int)) = true := by simp; omega
    have hne : xs ≠ ys := fun e => hl (by rw [← HL.out.1, ← HL.out.2, e])
    have e : decide (xs = ys) = false := decide_eq_false hne
    rw [e]
    clear h h' hne e
    go_enter Try.func48, Try.ntmps48
    go_wp2
    go_ret
    exact ⟨rfl, 0, rfl⟩
/-- Are two replies the same? -/
def repEq (cd tm id cn st lv ge fr lf du tl nt de : Int) (xs : List Nat) (cd' tm' id' cn' st' lv' ge' fr' lf' du' tl' nt' de' : Int) (ys : List Nat) : Bool := decide (cd = cd') && (decide (tm = tm') && (tEq id cn st lv ge fr lf du tl id' cn' st' lv' ge' fr' lf' du' tl' && (decide (nt = nt') && (decide (de = de') && decide (xs = ys)))))
theorem repEq_refl (cd tm id cn st lv ge fr lf du tl nt de : Int) (xs : List Nat) : repEq cd tm id cn st lv ge fr lf du tl nt de xs cd tm id cn st lv ge fr lf du tl nt de xs = true := by
  have : tEq id cn st lv ge fr lf du tl id cn st lv ge fr lf du tl = true := (tEq_iff ..).2 ⟨rfl, rfl, rfl, rfl, rfl, rfl, rfl, rfl, rfl⟩
  simp [repEq, this]
theorem repEq_iff (cd tm id cn st lv ge fr lf du tl nt de : Int) (xs : List Nat) (cd' tm' id' cn' st' lv' ge' fr' lf' du' tl' nt' de' : Int) (ys : List Nat) : repEq cd tm id cn st lv ge fr lf du tl nt de xs cd' tm' id' cn' st' lv' ge' fr' lf' du' tl' nt' de' ys = true ↔ cd = cd' ∧ tm = tm' ∧ tEq id cn st lv ge fr lf du tl id' cn' st' lv' ge' fr' lf' du' tl' = true ∧ nt = nt' ∧ de = de' ∧ xs = ys := by simp [repEq]

set_option maxRecDepth 100000 in
set_option maxHeartbeats 8000000 in
theorem rep_same (cd tm id cn st lv ge fr lf du tl : Int) (a : Option Addr) (n ca : Nat) (nt de : Int) (xs : List Nat) (cd' tm' id' cn' st' lv' ge' fr' lf' du' tl' : Int) (a' : Option Addr) (n' ca' : Nat) (nt' de' : Int) (ys : List Nat) (w : World) (hS : Us w a n xs) (hS' : Us w a' n' ys) :
    Calls Try.prog 16 #[repV cd tm id cn st lv ge fr lf du tl a n ca nt de, repV cd' tm' id' cn' st' lv' ge' fr' lf' du' tl' a' n' ca' nt' de'] w fun e w' => e = .returned (.bool (repEq cd tm id cn st lv ge fr lf du tl nt de xs cd' tm' id' cn' st' lv' ge' fr' lf' du' tl' nt' de' ys)) ∧ Below w.heap.size w w' := by
  have HA := Lib.hid (fun W (hb : Below w.heap.size w W) => equal_us a a' n ca n' ca' xs ys W (hS.kept hb) (hS'.kept hb))
  have HX : Hid (repEq cd tm id cn st lv ge fr lf du tl nt de xs cd' tm' id' cn' st' lv' ge' fr' lf' du' tl' nt' de' ys = (decide (cd = cd') && (decide (tm = tm') && (tEq id cn st lv ge fr lf du tl id' cn' st' lv' ge' fr' lf' du' tl' && (decide (nt = nt') && (decide (de = de') && decide (xs = ys))))))) := Lib.hid rfl
  obtain ⟨ok, hok⟩ : ∃ x, repEq cd tm id cn st lv ge fr lf du tl nt de xs cd' tm' id' cn' st' lv' ge' fr' lf' du' tl' nt' de' ys = x := ⟨_, rfl⟩
  obtain ⟨z3, e3⟩ : ∃ x, tEq id cn st lv ge fr lf du tl id' cn' st' lv' ge' fr' lf' du' tl' = x := ⟨_, rfl⟩
  obtain ⟨z4, e4⟩ : ∃ x, decide (xs = ys) = x := ⟨_, rfl⟩
  rw [e4] at HX HA
  rw [hok]
  rw [hok, e3] at HX
  have h3 := eql_tk id cn st lv ge fr lf du tl id' cn' st' lv' ge' fr' lf' du' tl'
  have hg := guard_tk
  rw [e3] at h3
  obtain ⟨B2, s0, s1, sz⟩ := box2 w #[.int .i64 cd, .int .i64 tm, .int .u64 id, .int .i64 cn, .int .i64 st, .int .i64 lv, .int .u64 ge, .int .i64 fr, .int .i64 lf, .int .i64 du, .int .i64 tl, .slice a n ca, .int .u64 nt, .int .i64 de] #[.int .i64 cd', .int .i64 tm', .int .u64 id', .int .i64 cn', .int .i64 st', .int .i64 lv', .int .u64 ge', .int .i64 fr', .int .i64 lf', .int .i64 du', .int .i64 tl', .slice a' n' ca', .int .u64 nt', .int .i64 de'] 28 28
  obtain ⟨q0, q1, q2, q3, q4, q5, q6, q7, q8, q9, q10, q11, q12, q13⟩ := rep_at s0
  obtain ⟨r0, r1, r2, r3, r4, r5, r6, r7, r8, r9, r10, r11, r12, r13⟩ := rep_at s1
  have HB := Lib.hid B2
  have hs := HA.out _ B2
  clear hS hS' hok s0 s1 sz B2 e3 e4
  unfold repV
  by_cases h1 : cd = cd'
  case neg =>
    have d1 : decide (cd = cd') = false := decide_eq_false h1
    go_enter Try.func16, Try.ntmps16
    go_wp2_with fail
    go_ret
    exact ⟨by rw [HX.out]; simp [h1], HB.out⟩
  by_cases h2 : tm = tm'
  case neg =>
    have d1 : decide (tm = tm') = false := decide_eq_false h2
    subst h1
    go_enter Try.func16, Try.ntmps16
    go_wp2_with fail
    go_ret
    exact ⟨by rw [HX.out]; simp [h2], HB.out⟩
  subst h1 h2
  cases z3
  case false =>
    go_enter Try.func16, Try.ntmps16
    go_wp2_with fail
    go_ret
    exact ⟨by rw [HX.out]; simp, HB.out⟩
  cases z4
  case false =>
    go_enter Try.func16, Try.ntmps16
    go_wp2_with fail
    refine hs.mono ?_
    rintro e w3 ⟨rfl, q, rfl⟩
    have HB1 := Lib.hid (below_drewN' HB.out q)
    clear hs
    go_wp2_with fail
    go_ret
    exact ⟨by rw [HX.out]; simp, HB1.out⟩
  by_cases h5 : nt = nt'
  case neg =>
    have d1 : decide (nt = nt') = false := decide_eq_false h5
    go_enter Try.func16, Try.ntmps16
    go_wp2_with fail
    refine hs.mono ?_
    rintro e w3 ⟨rfl, q, rfl⟩
    have HB1 := Lib.hid (below_drewN' HB.out q)
    clear hs
    go_wp2_with fail
    go_ret
    exact ⟨by rw [HX.out]; simp [h5], HB1.out⟩
  by_cases h6 : de = de'
  case neg =>
    have d1 : decide (de = de') = false := decide_eq_false h6
    subst h5
    go_enter Try.func16, Try.ntmps16
    go_wp2_with fail
    refine hs.mono ?_
    rintro e w3 ⟨rfl, q, rfl⟩
    have HB1 := Lib.hid (below_drewN' HB.out q)
    clear hs
    go_wp2_with fail
    go_ret
    exact ⟨by rw [HX.out]; simp [h6], HB1.out⟩
  subst h5 h6
  go_enter Try.func16, Try.ntmps16
  go_wp2_with fail
  refine hs.mono ?_
  rintro e w3 ⟨rfl, q, rfl⟩
  have HB1 := Lib.hid (below_drewN' HB.out q)
  clear hs
  go_wp2_with fail
  go_ret
  exact ⟨by rw [HX.out]; simp, HB1.out⟩

set_option maxRecDepth 100000 in
set_option maxHeartbeats 8000000 in
theorem rrep_same (cd tm id cn st lv ge fr lf du tl : Int) (a : Option Addr) (n ca : Nat) (nt de : Int) (xs : List Nat) (cd' tm' id' cn' st' lv' ge' fr' lf' du' tl' : Int) (a' : Option Addr) (n' ca' : Nat) (nt' de' : Int) (ys : List Nat) (w : World) (hS : Us w a n xs) (hS' : Us w a' n' ys) :
    Calls Try.prog 13 #[repV cd tm id cn st lv ge fr lf du tl a n ca nt de, repV cd' tm' id' cn' st' lv' ge' fr' lf' du' tl' a' n' ca' nt' de'] w fun e w' => e = .returned (.bool (repEq cd tm id cn st lv ge fr lf du tl nt de xs cd' tm' id' cn' st' lv' ge' fr' lf' du' tl' nt' de' ys)) ∧ Below w.heap.size w w' := by
  have HX : Hid (repEq cd tm id cn st lv ge fr lf du tl nt de xs cd' tm' id' cn' st' lv' ge' fr' lf' du' tl' nt' de' ys = (decide (cd = cd') && (decide (tm = tm') && (tEq id cn st lv ge fr lf du tl id' cn' st' lv' ge' fr' lf' du' tl' && (decide (nt = nt') && (decide (de = de') && decide (xs = ys))))))) := Lib.hid rfl
  obtain ⟨ok, hok⟩ : ∃ x, repEq cd tm id cn st lv ge fr lf du tl nt de xs cd' tm' id' cn' st' lv' ge' fr' lf' du' tl' nt' de' ys = x := ⟨_, rfl⟩
  obtain ⟨z3, e3⟩ : ∃ x, tEq id cn st lv ge fr lf du tl id' cn' st' lv' ge' fr' lf' du' tl' = x := ⟨_, rfl⟩
  rw [hok]
  rw [hok, e3] at HX
  have h3 := neq_tk id cn st lv ge fr lf du tl id' cn' st' lv' ge' fr' lf' du' tl'
  have hg := guard_tk
  rw [e3] at h3
  obtain ⟨B2, s0, s1, sz⟩ := box2 w #[.int .i64 cd, .int .i64 tm, .int .u64 id, .int .i64 cn, .int .i64 st, .int .i64 lv, .int .u64 ge, .int .i64 fr, .int .i64 lf, .int .i64 du, .int .i64 tl, .slice a n ca, .int .u64 nt, .int .i64 de] #[.int .i64 cd', .int .i64 tm', .int .u64 id', .int .i64 cn', .int .i64 st', .int .i64 lv', .int .u64 ge', .int .i64 fr', .int .i64 lf', .int .i64 du', .int .i64 tl', .slice a' n' ca', .int .u64 nt', .int .i64 de'] 28 28
  obtain ⟨q0, q1, q2, q3, q4, q5, q6, q7, q8, q9, q10, q11, q12, q13⟩ := rep_at s0
  obtain ⟨r0, r1, r2, r3, r4, r5, r6, r7, r8, r9, r10, r11, r12, r13⟩ := rep_at s1
  have HB := Lib.hid B2
  have HS := Lib.hid (And.intro (hS.kept B2) (hS'.kept B2))
  have HNM := Lib.hid (And.intro hS.2.1 hS'.2.1)
  have HL := Lib.hid (And.intro hS.1 hS'.1)
  clear hS hS' hok s0 s1 sz B2 e3
  unfold repV
  by_cases h_cd : cd = cd'
  case neg =>
    have d1 : decide (cd = cd') = false := decide_eq_false h_cd
    go_enter Try.func13, Try.ntmps13
    go_wp2_with fail
    go_ret
    exact ⟨by rw [HX.out]; simp [h_cd], HB.out⟩
  by_cases h_tm : tm = tm'
  case neg =>
    have d1 : decide (tm = tm') = false := decide_eq_false h_tm
    subst h_cd
    go_enter Try.func13, Try.ntmps13
    go_wp2_with fail
    go_ret
    exact ⟨by rw [HX.out]; simp [h_tm], HB.out⟩
  subst h_cd h_tm
  cases z3
  case false =>
    go_enter Try.func13, Try.ntmps13
    go_wp2_with fail
    go_ret
    exact ⟨by rw [HX.out]; simp, HB.out⟩
  by_cases h_nt : nt = nt'
  case neg =>
    have d1 : decide (nt = nt') = false := decide_eq_false h_nt
    go_enter Try.func13, Try.ntmps13
    go_wp2_with fail
    go_ret
    exact ⟨by rw [HX.out]; simp [h_nt], HB.out⟩
  by_cases h_de : de = de'
  case neg =>
    have d1 : decide (de = de') = false := decide_eq_false h_de
    subst h_nt
    go_enter Try.func13, Try.ntmps13
    go_wp2_with fail
    go_ret
    exact ⟨by rw [HX.out]; simp [h_de], HB.out⟩
  subst h_nt h_de
  by_cases h4 : n = n'
  case neg =>
    have d4 : decide ((n : Int) = (n' : Int)) = false := decide_eq_false (by omega)
    have d4' : ((n : Int) == (n' : Int)) = false := by simp; omega
    have hne : xs ≠ ys := fun e => h4 (by rw [← HL.out.1, ← HL.out.2, e])
    have HNE := Lib.hid hne
    clear hne
    go_enter Try.func13, Try.ntmps13
    go_wp2_with fail
    go_ret
    exact ⟨by rw [HX.out]; simp [HNE.out], HB.out⟩
  subst h4
  go_enter Try.func13, Try.ntmps13
  go_wp2_with fail
  generalize (w.alloc (.cells #[.int .i64 cd, .int .i64 tm, .int .u64 id, .int .i64 cn, .int .i64 st, .int .i64 lv, .int .u64 ge, .int .i64 fr, .int .i64 lf, .int .i64 du, .int .i64 tl, .slice a n ca, .int .u64 nt, .int .i64 de] 28)).alloc (.cells #[.int .i64 cd, .int .i64 tm, .int .u64 id', .int .i64 cn', .int .i64 st', .int .i64 lv', .int .u64 ge', .int .i64 fr', .int .i64 lf', .int .i64 du', .int .i64 tl', .slice a' n ca', .int .u64 nt, .int .i64 de] 28) = W0 at q0 q1 q2 q3 q4 q5 q6 q7 q8 q9 q10 q11 q12 q13 r0 r1 r2 r3 r4 r5 r6 r7 r8 r9 r10 r11 r12 r13 HB HS ⊢
  go_loopg [5] n (fun kx s5 wr => ∃ (k : Nat), s5 = .int .i64 k ∧ k ≤ n ∧ n - k ≤ kx ∧ Hid (xs.take k = ys.take k) ∧ ∃ q, wr = W0.drewN q)
  case atStart => exact ⟨0, rfl, by omega, by omega, Lib.hid rfl, 0, rfl⟩
  case round =>
    obtain ⟨k, rfl, hk, hkx, hg, q, rfl⟩ := hrel
    have HBQ := Lib.hid (below_drewN' HB.out q)
    have hm := HNM.out.1
    unfold maxLen at hm
    by_cases hlt : k < n
    · have hltz : (k : Int) < (n : Int) := by omega
      have hk0 : (0 : Int) ≤ (k : Int) := by omega
      obtain ⟨ab, ao, rfl, hab, c0⟩ := HS.out.1.2.2.2 k hlt
      obtain ⟨ab', ao', rfl, hab', c0'⟩ := HS.out.2.2.2.2 k hlt
      have HG : Hid (xs.take (k + 1) = ys.take (k + 1) ↔ xs.getD k 0 = ys.getD k 0) := Lib.hid (take_step (by rw [HL.out.1]; exact hlt) (by rw [HL.out.2]; exact hlt) hg.out)
      obtain ⟨x, g0⟩ : ∃ x : Nat, xs.getD k 0 = x := ⟨_, rfl⟩
      obtain ⟨y, g1⟩ : ∃ x : Nat, ys.getD k 0 = x := ⟨_, rfl⟩
      rw [g0, g1] at HG
      rw [g0] at c0
      rw [g1] at c0'
      clear hg g0 g1
      by_cases hxy : x = y
      · have HXY := Lib.hid hxy
        have hd : decide ((x : Int) = (y : Int)) = true := by simp [hxy]
        have hd2 : ((x : Int) != (y : Int)) = false := by simp [hxy]
        clear hxy
        go_wp2_with fail
        go_quiet (fail)
        go_wp2_with fail
        go_roundg (n - (k + 1))
        case measure => omega
        case rel => exact ⟨k + 1, by go_num, by omega, by omega, Lib.hid (HG.out.2 HXY.out), _, rfl⟩
      · have HXY := Lib.hid hxy
        have hd : decide ((x : Int) = (y : Int)) = false := by simp; omega
        have hd2 : ((x : Int) != (y : Int)) = true := by simp; omega
        clear hxy
        go_wp2_with fail
        go_quiet (fail)
        go_wp2_with fail
        go_ret
        exact ⟨by rw [HX.out]; simp [take_ne (fun e => HXY.out (HG.out.1 e))], below_drewN' HBQ.out _⟩
    · have hltz : ¬ (k : Int) < (n : Int) := by omega
      obtain rfl : k = n := by omega
      have hxy : xs = ys := by
        have := hg.out
        rwa [List.take_of_length_le (by rw [HL.out.1]; exact Nat.le_refl _), List.take_of_length_le (by rw [HL.out.2]; exact Nat.le_refl _)] at this
      have HXY := Lib.hid hxy
      clear hxy
      go_wp2_with fail
      go_ret
      exact ⟨by rw [HX.out]; simp [HXY.out], HBQ.out⟩

end Go.Proofs.Ytnhaakdjijjinaa

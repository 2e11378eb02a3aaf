/- AlmanacAll, walked. -/
import Derived.Test.YtfeegohjgecjgaaAmL
namespace Go.Proofs.Ytfeegohjgecjgaa
open Go.RowKit

theorem all28_any (u v : Int) (w : World) : Calls Try.prog 28 #[.int .i64 u, .int .i64 v] w fun e w' => e = .returned (.int .i64 (valD u v)) ∧ w' = w := by
  go_enter Try.func28, Try.ntmps28
  go_wp2
  go_ret
  exact ⟨rfl, rfl⟩
theorem all28_enters : ∀ args w, (callFunc 28 args).run Try.prog w = .ok (.enter 28 args) w := enters_of Try.func28 (by kernel_rfl) rfl

set_option maxRecDepth 100000 in
set_option maxHeartbeats 4000000 in
theorem aall_skip (a : Option Addr) (n cap : Nat) (F T : Nat → Int) (x y : Int) (w : World) (hS : Sps w a n F T) (h : 100 < n ∨ (rowE F T n != 0) = true ∨ x < 0 ∨ 1125899906842624 < y ∨ y < x) :
    Calls Try.prog 5 #[.slice a n cap, .int .i64 x, .int .i64 y] w fun e w' => e = .returned (.bool true) ∧ Below w.heap.size w w' := by
  have hm := hS.1
  unfold maxLen at hm
  have hr := rrow_any a n cap F T w hS
  clear hS
  by_cases hn : 100 < n
  · have d1 : decide (100 < (n : Int)) = true := decide_eq_true (by omega)
    have hl := lives9 w
    clear hr
    go_enter Try.func5, Try.ntmps5
    go_wp2_with fail
    refine hl.mono ?_
    rintro e w1 ⟨rfl, hb⟩
    go_wp2_with fail
    go_ret
    exact ⟨rfl, hb⟩
  · have d1 : decide (100 < (n : Int)) = false := decide_eq_false (by omega)
    have h' := h.resolve_left hn
    obtain ⟨z, hze⟩ : ∃ z, rowE F T n = z := ⟨_, rfl⟩
    rw [hze] at hr h'
    clear hze h
    by_cases hz : (z != 0) = true
    · go_enter Try.func5, Try.ntmps5
      go_wp2_with fail
      refine hr.mono ?_
      rintro e w1 ⟨rfl, hb1⟩
      have HB3 := Lib.hid hb1
      have hl := lives9 w1
      clear hr hb1
      go_wp2_with fail
      refine hl.mono ?_
      rintro e w2 ⟨rfl, hb⟩
      go_wp2_with fail
      go_ret
      exact ⟨rfl, HB3.out.trans (hb.mono HB3.out.size)⟩
    · have h2 := h'.resolve_left hz
      have hz0 : z = 0 := by simpa using hz
      subst hz0
      obtain ⟨b1, e1⟩ : ∃ b, decide (x < 0) = b := ⟨_, rfl⟩
      obtain ⟨b2, e2⟩ : ∃ b, decide (1125899906842624 < y) = b := ⟨_, rfl⟩
      obtain ⟨b3, e3⟩ : ∃ b, decide (y < x) = b := ⟨_, rfl⟩
      have hor : b1 = true ∨ b2 = true ∨ b3 = true := by
        rcases h2 with h | h | h
        · exact .inl (e1 ▸ decide_eq_true h)
        · exact .inr (.inl (e2 ▸ decide_eq_true h))
        · exact .inr (.inr (e3 ▸ decide_eq_true h))
      clear h2 h' hz
      cases b1 <;> cases b2 <;> cases b3
      · rcases hor with h | h | h <;> cases h
      all_goals
        clear hor
        go_enter Try.func5, Try.ntmps5
        go_wp2_with fail
        refine hr.mono ?_
        rintro e w1 ⟨rfl, hb1⟩
        have HB3 := Lib.hid hb1
        have hl := lives9 w1
        clear hr hb1
        go_wp2_with fail
        refine hl.mono ?_
        rintro e w2 ⟨rfl, hb⟩
        go_wp2_with fail
        go_ret
        exact ⟨rfl, HB3.out.trans (hb.mono HB3.out.size)⟩

set_option maxRecDepth 100000 in
set_option maxHeartbeats 8000000 in
theorem aall_ok (a : Option Addr) (n cap : Nat) (F T : Nat → Int) (x y : Int) (w : World) (hS : Sps w a n F T) (hn : n ≤ 32) (hg : good F T n = true) (hx : 0 ≤ x) (hy : y ≤ 1125899906842624) (hxy : x ≤ y) :
    Calls Try.prog 5 #[.slice a n cap, .int .i64 x, .int .i64 y] w fun e w' => e = .returned (.bool true) ∧ Below w.heap.size w w' := by
  have d1 : decide (100 < (n : Int)) = false := decide_eq_false (by omega)
  have d2 : decide (x < 0) = false := decide_eq_false (by omega)
  have d3 : decide (1125899906842624 < y) = false := decide_eq_false (by omega)
  have d4 : decide (y < x) = false := decide_eq_false (by omega)
  have hr := rrow_any a n cap F T w hS
  rw [rowE_ok hn hg] at hr
  have HG := Lib.hid hg
  have HC := Lib.hid hS
  have hmem := freeL_mem (F := F) (T := T) (n := n) x y
  have hql := freeL_len F T n x y hn
  have HFO := Lib.hid (fun s hs => freeL_open (x := x) (y := y) hg (s := s) hs)
  have HFW := Lib.hid (fun s hs => freeL_within (x := x) (y := y) hg (s := s) hs)
  have HALL := Lib.hid (all_there x y hg hxy)
  have HLL := Lib.hid (lost_lengths x y hn hg)
  have hwb := wsum_bounds x y hg n (Nat.le_refl _)
  have emx : max x 0 = x := by omega
  have emn : min y 1125899906842624 = y := by omega
  have HMM := Lib.hid (And.intro emx emn)
  obtain ⟨l, hl⟩ : ∃ l, freeL F T n x y = l := ⟨_, rfl⟩
  obtain ⟨n0, hn0⟩ : ∃ l, wsum F T x y n = l := ⟨_, rfl⟩
  have HL := Lib.hid hl
  rw [hl] at HFO HFW HALL hmem hql
  rw [hn0] at HALL HLL hwb
  have HMEM := Lib.hid hmem
  clear hS hg hl hn0 emx emn hmem
  go_enter Try.func5, Try.ntmps5
  go_wp2_with fail
  refine hr.mono ?_
  rintro e w1 ⟨rfl, hb1⟩
  have HB1 := Lib.hid hb1
  have h1 := made_ok a n cap F T w1 (HC.out.kept hb1) hn HG.out
  clear hr hb1
  go_wp2_with fail
  refine h1.mono ?_
  rintro e w2 ⟨A, a', c', rfl, _, hA, _, hb2⟩
  have HB2 := Lib.hid (HB1.out.trans (hb2.mono HB1.out.size))
  have HA2 := Lib.hid hA
  have h2 := free_any x y hA
  rw [HMM.out.1, HMM.out.2, HL.out] at h2
  clear h1 hb2 hA
  go_wp2_with fail
  refine h2.mono ?_
  rintro e w3 ⟨v, rfl, hO, hb3⟩
  obtain ⟨va, vc, rfl, _, _⟩ := hO.shape
  have HO := Lib.hid hO
  have HB3 := Lib.hid (HB2.out.trans (hb3.mono HB2.out.size))
  have HA3 := Lib.hid (HA2.out.kept hb3)
  have h3 := lost_any x y HA3.out valD 28 #[] all28_enters (fun u v W hW => all28_any u v W)
  rw [HLL.out] at h3
  clear h2 hb3 hO
  go_wp2_with fail
  refine h3.mono ?_
  rintro e w4 ⟨rfl, hb4⟩
  have HB4 := Lib.hid (HB3.out.trans (hb4.mono HB3.out.size))
  have HA4 := Lib.hid (HA3.out.kept hb4)
  obtain ⟨L, hL⟩ : ∃ L, l.length = L := ⟨_, rfl⟩
  have HS := Lib.hid ((HO.out.kept hb4).sps (by intro s hs; have := HMEM.out s hs; omega)).2
  have HTS := Lib.hid (fun q (hq : q ≤ L) => tsum_list (l := l) (by intro s hs; have := HMEM.out s hs; omega) q (by omega))
  rw [hL] at HS hql ⊢
  have HLN := Lib.hid hL
  clear h3 hb4 hL
  go_wp2_with fail
  go_loopw [11, 56] (fun s i wr => ∃ q : Nat, q ≤ L ∧ i = .int .i64 q ∧ s = .int .i64 (n0 + tsum (fr l) (til l) q) ∧ Below w4.heap.size w4 wr) (fun _ i _ => L - (intOf i).toNat)
  case atStart => exact ⟨0, Nat.zero_le _, rfl, by show Value.int .i64 n0 = .int .i64 (n0 + 0); rw [Int.add_zero], Below.refl _ _⟩
  case round =>
    obtain ⟨q, hq, rfl, rfl, hB⟩ := hrel
    have HB := Lib.hid hB
    have ht := HTS.out q hq
    have HTN := Lib.hid (show tsum (fr l) (til l) (q + 1) = tsum (fr l) (til l) q + (til l q - fr l q) from rfl)
    by_cases hlt : q < L
    · obtain ⟨ab, ao, rfl, hab, c0, c1, b0, b1, b2, b3⟩ := HS.out.at hB q hlt
      have hmem : l.getD q (0, 0) ∈ l := by
        have : q < l.length := by rw [HLN.out]; exact hlt
        simp [this]
      have e1 : (l.getD q (0, 0)).1 = fr l q := rfl
      have e2 : (l.getD q (0, 0)).2 = til l q := rfl
      have m1 := HMEM.out _ hmem
      have o1 := HFO.out _ hmem (fr l q) (by rw [e1]; exact Int.le_refl _)
      have o2 := HFO.out _ hmem (til l q - 1)
      have o3 := HFW.out _ hmem
      rw [e1, e2] at m1 o3
      rw [e2] at o1 o2
      rw [e1] at o2
      obtain ⟨f, hf⟩ : ∃ f, fr l q = f := ⟨_, rfl⟩
      obtain ⟨u, hu⟩ : ∃ f, til l q = f := ⟨_, rfl⟩
      obtain ⟨acc, hacc⟩ : ∃ f, tsum (fr l) (til l) q = f := ⟨_, rfl⟩
      rw [hf] at c0 b0 b1 HTN m1 o1 o2 o3
      rw [hu] at c1 b2 b3 HTN m1 o1 o2 o3
      rw [hacc] at HTN ht ⊢
      have HO1 := Lib.hid (o1 (by omega))
      have HO2 := Lib.hid (o2 (by omega) (by omega))
      have HO3 := Lib.hid o3
      have q0 : (0 : Int) ≤ (q : Int) := by omega
      have ql : (q : Int) < (L : Int) := by omega
      have qd : decide ((q : Int) < (L : Int)) = true := decide_eq_true ql
      have hbA : Below wr.heap.size wr (wr.alloc (.cells #[.int .i64 f, .int .i64 u] 30)) := (Below.refl _ _).alloc (Nat.le_refl _) _
      have k0 : (wr.alloc (.cells #[.int .i64 f, .int .i64 u] 30)).cell? ⟨wr.heap.size, 0, none⟩ = some (.int .i64 f) := by simp
      have k1 : (wr.alloc (.cells #[.int .i64 f, .int .i64 u] 30)).cell? ⟨wr.heap.size, 1, none⟩ = some (.int .i64 u) := by simp
      have HK := Lib.hid (And.intro k0 k1)
      have HBA := Lib.hid (HB.out.trans (hbA.mono HB.out.size))
      have h4 := closed_at f ((HA4.out.kept HB.out).kept hbA)
      rw [closedB_iff HG.out, HO1.out] at h4
      clear hf hu hacc hmem e1 e2 o1 o2 o3 hB hbA k0 k1
      go_wp2_with fail
      obtain ⟨sz, hsz⟩ : ∃ s, wr.heap.size = s := ⟨_, rfl⟩
      rw [hsz] at HK ⊢
      generalize (wr.alloc (.cells #[.int .i64 f, .int .i64 u] 30)) = W at *
      refine h4.mono ?_
      rintro e w5 ⟨rfl, hb5⟩
      have HB5 := Lib.hid (HBA.out.trans (hb5.mono HBA.out.size))
      have k1 := (hb5.cell (p := ⟨sz, 1, none⟩) (cell_spot HK.out.2).2).trans HK.out.2
      have HK5 := Lib.hid (And.intro ((hb5.cell (p := ⟨sz, 0, none⟩) (cell_spot HK.out.1).2).trans HK.out.1) k1)
      have h5 := closed_at (u - 1) (HA4.out.kept HB5.out)
      rw [closedB_iff HG.out, HO2.out] at h5
      clear h4 hb5
      go_wp2_with fail
      refine h5.mono ?_
      rintro e w6 ⟨rfl, hb6⟩
      have HB6 := Lib.hid (HB5.out.trans (hb6.mono HB5.out.size))
      have k0 := (hb6.cell (p := ⟨sz, 0, none⟩) (cell_spot HK5.out.1).2).trans HK5.out.1
      have k1' := (hb6.cell (p := ⟨sz, 1, none⟩) (cell_spot HK5.out.2).2).trans HK5.out.2
      have HK6 := Lib.hid (And.intro k0 k1')
      have h6 := rwithin_any a n cap F T f u w6 (HC.out.kept (HB4.out.trans (HB6.out.mono HB4.out.size))) hn HG.out
      rw [HO3.out] at h6
      clear h5 hb6 k1
      go_wp2_with fail
      refine h6.mono ?_
      rintro e w7 ⟨rfl, hb7⟩
      have HB7 := Lib.hid (HB6.out.trans (hb7.mono HB6.out.size))
      have k2 := (hb7.cell (p := ⟨sz, 0, none⟩) (cell_spot HK6.out.1).2).trans HK6.out.1
      have k3 := (hb7.cell (p := ⟨sz, 1, none⟩) (cell_spot HK6.out.2).2).trans HK6.out.2
      clear h6 hb7 k0 k1'
      go_wp2_with fail
      go_roundw
      case rel => exact ⟨q + 1, hlt, by go_num, ret_i64 (by rw [HTN.out]; omega), HB7.out⟩
      case measure => simp [intOf]; omega
    · obtain rfl : q = L := by omega
      have HFIN : Hid (n0 + tsum (fr l) (til l) q = y - x) := Lib.hid (by
        have := HALL.out
        unfold sumL at this
        rw [HLN.out] at this
        exact this)
      have HBF := Lib.hid (HB4.out.trans (hB.mono HB4.out.size))
      rw [HFIN.out]
      have hl := lives9 wr
      have qd : decide ((q : Int) < (q : Int)) = false := decide_eq_false (by omega)
      clear hB ht
      go_wp2_with fail
      refine hl.mono ?_
      rintro e w9 ⟨rfl, hb9⟩
      go_wp2_with fail
      go_ret
      exact ⟨rfl, HBF.out.trans (hb9.mono HBF.out.size)⟩
end Go.Proofs.Ytfeegohjgecjgaa

/- AlmanacFree, walked: the reference's Lost, the law's function. -/
import Derived.Test.YtfeegohjgecjgaaAmG
import Derived.Test.YtfeegohjgecjgaaAmH
import Derived.Test.YtfeegohjgecjgaaAmI
import Derived.Test.YtfeegohjgecjgaaRfA
namespace Go.Proofs.Ytfeegohjgecjgaa
open Go.RowKit

def lostC (val : Int → Int → Int) (l : List (Int × Int)) (acc : Int) : Int := l.foldl (fun n s => wrap64 (n + val s.1 s.2)) acc
theorem lostG_cut (val : Int → Int → Int) (F T : Nat → Int) (x y : Int) : ∀ m i, lostG val F T x y m i (lostC val (cutL F T x y i) 0) = lostC val (cutL F T x y (i + m)) 0 := by
  intro m
  induction m with
  | zero => intro i; rfl
  | succ m ih =>
    intro i
    have h := ih (i + 1)
    rw [show i + 1 + m = i + (m + 1) by omega] at h
    rw [← h]
    simp only [lostG]
    congr 1
    show _ = lostC val (cutL F T x y i ++ cutOne (F i) (T i) x y) 0
    unfold lostC cutOne
    rw [List.foldl_append]
    have e1 : mx (F i) x = max x (F i) := by unfold mx; split <;> omega
    have e2 : mn (T i) y = min y (T i) := by unfold mn; split <;> omega
    rw [e1, e2]
    split <;> rfl
theorem cutL_none {F T : Nat → Int} {n : Nat} (x y : Int) (hg : good F T n = true) : ∀ k, k ≤ idx T x n → cutL F T x y k = [] := by
  intro k
  induction k with
  | zero => intro _; rfl
  | succ k ih =>
    intro hk
    have h1 := idx_lo hg k (show k < idx T x n by omega)
    simp only [cutL, ih (by omega), List.nil_append]
    unfold cutOne
    refine if_neg ?_
    rcases mx_cases (F k) x with ⟨h2, h3⟩ | ⟨h2, h3⟩ <;> rcases mn_cases (T k) y with ⟨h4, h5⟩ | ⟨h4, h5⟩ <;> omega
theorem lostV_cut {F T : Nat → Int} {n : Nat} (val : Int → Int → Int) (x y : Int) (hg : good F T n = true) : lostV val F T n x y = lostC val (cutL F T x y n) 0 := by
  have h1 := idx_le T x n
  have h := lostG_cut val F T x y (n - idx T x n) (idx T x n)
  rw [cutL_none x y hg _ (Nat.le_refl _), show idx T x n + (n - idx T x n) = n by omega] at h
  exact h
def valK (k c u v : Int) : Int := wrap64 (wrap64 (wrap64 (v - u) * k) + c)
theorem lostC_snoc (val : Int → Int → Int) (l : List (Int × Int)) (i : Nat) (hi : i < l.length) : lostC val (l.take (i + 1)) 0 = wrap64 (lostC val (l.take i) 0 + val (fr l i) (til l i)) := by
  have e : l.take (i + 1) = l.take i ++ [(fr l i, til l i)] := by
    have e2 : (fr l i, til l i) = l[i] := by simp [fr, til, hi]
    rw [e2, List.take_add_one, List.getElem?_eq_getElem hi]; rfl
  rw [e]
  unfold lostC
  rw [List.foldl_append]
  rfl

theorem wrap_three (acc m c : Int) : wrap64 (wrap64 (acc + m) + c) = wrap64 (acc + wrap64 (m + c)) := by unfold wrap64; omega
theorem ret_i64 {a b : Int} (h : a = b) : Value.int .i64 a = .int .i64 b := by rw [h]
set_option maxRecDepth 100000 in
set_option maxHeartbeats 4000000 in
theorem rlost_any (a : Option Addr) (n cap : Nat) (F T : Nat → Int) (x y k c : Int) (w : World) (hS : Sps w a n F T) (hn : n ≤ 32) (hg : good F T n = true) :
    Calls Try.prog 27 #[.slice a n cap, .int .i64 x, .int .i64 y, .int .i64 k, .int .i64 c] w fun e w' => e = .returned (.int .i64 (lostV (valK k c) F T n x y)) ∧ Below w.heap.size w w' := by
  have hcut := rcut_any a n cap F T x y w hS hn hg
  have hlen := cutL_len F T x y n
  have hri := cutL_right x y hg n (Nat.le_refl _)
  have HV := Lib.hid (lostV_cut (valK k c) x y hg)
  obtain ⟨l, hl⟩ : ∃ l, cutL F T x y n = l := ⟨_, rfl⟩
  rw [hl] at hcut hlen HV hri
  clear hS hg hl
  go_enter Try.func27, Try.ntmps27
  go_wp2_with fail
  refine hcut.mono ?_
  rintro e w1 ⟨v, rfl, hO, hb1⟩
  obtain ⟨va, vc, rfl, _, _⟩ := hO.shape
  obtain ⟨L, hL⟩ : ∃ L, l.length = L := ⟨_, rfl⟩
  have HS := Lib.hid (hO.sps (by intro s hs; have := hri s hs; omega)).2
  rw [hL] at HS hlen ⊢
  have HL := Lib.hid hL
  have HB1 := Lib.hid hb1
  clear hcut hO hb1 hri hL
  go_wp2_with fail
  go_loopw [11, 13] (fun s i wr => ∃ q : Nat, q ≤ L ∧ i = .int .i64 q ∧ s = .int .i64 (lostC (valK k c) (l.take q) 0) ∧ ∃ d, wr = w1.drewN d) (fun _ i _ => L - (intOf i).toNat)
  case atStart => exact ⟨0, Nat.zero_le _, rfl, rfl, 0, rfl⟩
  case round =>
    obtain ⟨q, hq, rfl, rfl, d, rfl⟩ := hrel
    by_cases hlt : q < L
    · obtain ⟨ab, ao, rfl, hab, c0, c1, b0, b1, b2, b3⟩ := HS.out.at (wr := w1.drewN d) ⟨rfl, rfl, rfl, Nat.le_refl _, fun _ _ => rfl⟩ q hlt
      have HN := Lib.hid (lostC_snoc (valK k c) l q (by rw [HL.out]; exact hlt))
      have HQ : Hid (∀ p, ∃ d', (w1.drewN d).drewN p = w1.drewN d') := Lib.hid (fun p => ⟨d + p, World.drewN_drewN _ _ _⟩)
      obtain ⟨f, hf⟩ : ∃ f, fr l q = f := ⟨_, rfl⟩
      obtain ⟨u, hu⟩ : ∃ f, til l q = f := ⟨_, rfl⟩
      obtain ⟨acc, hacc⟩ : ∃ f, lostC (valK k c) (l.take q) 0 = f := ⟨_, rfl⟩
      rw [hf] at c0 b0 b1 HN
      rw [hu] at c1 b2 b3 HN
      rw [hacc] at HN ⊢
      have q0 : (0 : Int) ≤ (q : Int) := by omega
      have ql : (q : Int) < (L : Int) := by omega
      clear hf hu hacc
      generalize w1.drewN d = wr at *
      go_wp2_with fail
      go_quiet (fail)
      go_wp2_with fail
      exact ⟨⟨q + 1, hlt, by go_num, ret_i64 (by rw [HN.out]; exact wrap_three _ _ _), HQ.out _⟩, by simp [intOf]; omega⟩
    · obtain rfl : q = L := by omega
      have e : l.take q = l := List.take_of_length_le (by rw [HL.out]; exact Nat.le_refl _)
      rw [e, ← HV.out]
      go_wp2_with fail
      go_ret
      exact ⟨rfl, below_drewN' HB1.out d⟩

theorem free25_any (kb cb : Nat) (k c u v : Int) (w : World) (hk : w.cell? ⟨kb, 0, none⟩ = some (.int .i8 k)) (hc : w.cell? ⟨cb, 0, none⟩ = some (.int .i8 c)) (k0 : -128 ≤ k) (k1 : k ≤ 127) (c0 : -128 ≤ c) (c1 : c ≤ 127) :
    Calls Try.prog 25 #[.int .i64 u, .int .i64 v, .pointer (some ⟨kb, 0, none⟩), .pointer (some ⟨cb, 0, none⟩)] w fun e w' => e = .returned (.int .i64 (valK k c u v)) ∧ w' = w := by
  go_enter Try.func25, Try.ntmps25
  go_wp2
  go_ret
  exact ⟨rfl, rfl⟩
theorem free25_enters : ∀ args w, (callFunc 25 args).run Try.prog w = .ok (.enter 25 args) w := enters_of Try.func25 (by kernel_rfl) rfl

set_option maxRecDepth 100000 in
set_option maxHeartbeats 4000000 in
theorem afree_skip (a : Option Addr) (n cap : Nat) (F T : Nat → Int) (x y k c : Int) (w : World) (hS : Sps w a n F T) (h : 100 < n ∨ (rowE F T n != 0) = true) :
    Calls Try.prog 4 #[.slice a n cap, .int .i64 x, .int .i64 y, .int .i8 k, .int .i8 c] w fun e w' => e = .returned (.bool true) ∧ Below w.heap.size w w' := by
  have hm := hS.1
  unfold maxLen at hm
  have B2 : Below w.heap.size w ((w.alloc (.cells #[.int .i8 k] 38)).alloc (.cells #[.int .i8 c] 38)) := ((Below.refl _ _).alloc (Nat.le_refl _) _).alloc (by simp) _
  have hr := rrow_any a n cap F T _ (hS.kept B2)
  have HB2 := Lib.hid B2
  clear hS B2
  by_cases hn : 100 < n
  · have d1 : decide (100 < (n : Int)) = true := decide_eq_true (by omega)
    have hl := lives9 ((w.alloc (.cells #[.int .i8 k] 38)).alloc (.cells #[.int .i8 c] 38))
    clear hr
    go_enter Try.func4, Try.ntmps4
    go_wp2_with fail
    refine hl.mono ?_
    rintro e w1 ⟨rfl, hb⟩
    go_wp2_with fail
    go_ret
    exact ⟨rfl, HB2.out.trans (hb.mono HB2.out.size)⟩
  · have d1 : decide (100 < (n : Int)) = false := decide_eq_false (by omega)
    have hz : (rowE F T n != 0) = true := h.resolve_left hn
    obtain ⟨z, hze⟩ : ∃ z, rowE F T n = z := ⟨_, rfl⟩
    rw [hze] at hr hz
    clear hze
    go_enter Try.func4, Try.ntmps4
    go_wp2_with fail
    refine hr.mono ?_
    rintro e w1 ⟨rfl, hb1⟩
    have HB3 := Lib.hid (HB2.out.trans (hb1.mono HB2.out.size))
    have hl := lives9 w1
    clear hr hb1
    go_wp2_with fail
    refine hl.mono ?_
    rintro e w2 ⟨rfl, hb⟩
    go_wp2_with fail
    go_ret
    exact ⟨rfl, HB3.out.trans (hb.mono HB3.out.size)⟩
set_option maxRecDepth 100000 in
set_option maxHeartbeats 8000000 in
theorem afree_ok (a : Option Addr) (n cap : Nat) (F T : Nat → Int) (x y k c : Int) (w : World) (hS : Sps w a n F T) (hn : n ≤ 32) (hg : good F T n = true) (k0 : -128 ≤ k) (k1 : k ≤ 127) (c0 : -128 ≤ c) (c1 : c ≤ 127) :
    Calls Try.prog 4 #[.slice a n cap, .int .i64 x, .int .i64 y, .int .i8 k, .int .i8 c] w fun e w' => e = .returned (.bool true) ∧ Below w.heap.size w w' := by
  have hmf : ∀ (fn : Fn) (first cap : Array Value) (w : World), (Instr.makeFunc fn first cap).run Try.prog w = .ok (.func fn first cap) w := fun _ _ _ _ => rfl
  have d1 : decide (100 < (n : Int)) = false := decide_eq_false (by omega)
  have B2 : Below w.heap.size w ((w.alloc (.cells #[.int .i8 k] 38)).alloc (.cells #[.int .i8 c] 38)) := ((Below.refl _ _).alloc (Nat.le_refl _) _).alloc (by simp) _
  have vk : Var ((w.alloc (.cells #[.int .i8 k] 38)).alloc (.cells #[.int .i8 c] 38)) w.heap.size (.int .i8 k) := (Var.new w _ _ rfl).kept ((Below.refl _ _).alloc (Nat.le_refl _) _)
  have vc : Var ((w.alloc (.cells #[.int .i8 k] 38)).alloc (.cells #[.int .i8 c] 38)) (w.heap.size + 1) (.int .i8 c) := by
    have := Var.new (w.alloc (.cells #[.int .i8 k] 38)) (.int .i8 c) 38 rfl
    rwa [World.size_alloc] at this
  have hr := rrow_any a n cap F T _ (hS.kept B2)
  rw [rowE_ok hn hg] at hr
  have HB := Lib.hid B2
  have HG := Lib.hid hg
  have HC := Lib.hid hS
  have HFT := Lib.hid (free_fits F T n x y)
  have HLV := Lib.hid (show lostV (valK k c) F T n x y = lostV (valK k c) F T n x y from rfl)
  obtain ⟨l, hl⟩ : ∃ l, freeL F T n (max x 0) (min y 1125899906842624) = l := ⟨_, rfl⟩
  obtain ⟨lo, hlo⟩ : ∃ l, lostV (valK k c) F T n x y = l := ⟨_, rfl⟩
  have HL := Lib.hid hl
  have HLO := Lib.hid hlo
  rw [hl] at HFT
  obtain ⟨w0, hw0⟩ : ∃ w0, (w.alloc (.cells #[.int .i8 k] 38)).alloc (.cells #[.int .i8 c] 38) = w0 := ⟨_, rfl⟩
  rw [hw0] at hr HB vk vc
  have HVK := Lib.hid vk
  have HVC := Lib.hid vc
  clear hS hg B2 hl hlo vk vc HLV
  go_enter Try.func4, Try.ntmps4
  go_wp2_with fail
  refine hr.mono ?_
  rintro e w1 ⟨rfl, hb1⟩
  clear hw0
  have HB1 := Lib.hid (HB.out.trans (hb1.mono HB.out.size))
  have HVK1 := Lib.hid (HVK.out.kept hb1)
  have HVC1 := Lib.hid (HVC.out.kept hb1)
  have h1 := made_ok a n cap F T w1 (HC.out.kept HB1.out) hn HG.out
  clear hr hb1
  go_wp2_with fail
  refine h1.mono ?_
  rintro e w2 ⟨A, a', c', rfl, _, hA, _, hb2⟩
  have HB2 := Lib.hid (HB1.out.trans (hb2.mono HB1.out.size))
  have HVK2 := Lib.hid (HVK1.out.kept hb2)
  have HVC2 := Lib.hid (HVC1.out.kept hb2)
  have HA2 := Lib.hid hA
  have h2 := free_any x y hA
  rw [HL.out] at h2
  clear h1 hb2 hA
  go_wp2_with fail
  refine h2.mono ?_
  rintro e w3 ⟨v, rfl, hO, hb3⟩
  obtain ⟨va, vc, rfl, _, _⟩ := hO.shape
  have HO := Lib.hid hO
  have HB3 := Lib.hid (HB2.out.trans (hb3.mono HB2.out.size))
  have HVK3 := Lib.hid (HVK2.out.kept hb3)
  have HVC3 := Lib.hid (HVC2.out.kept hb3)
  have HA3 := Lib.hid (HA2.out.kept hb3)
  have h3 := lost_any x y HA3.out (valK k c) 25 #[.pointer (some ⟨w.heap.size, 0, none⟩), .pointer (some ⟨w.heap.size + 1, 0, none⟩)] free25_enters (fun u v W hW => free25_any _ _ k c u v W (HVK3.out.kept hW).1 (HVC3.out.kept hW).1 k0 k1 c0 c1)
  rw [HLO.out] at h3
  clear h2 hb3 hO
  go_wp2_with fail
  refine h3.mono ?_
  rintro e w4 ⟨rfl, hb4⟩
  have HB4 := Lib.hid (HB3.out.trans (hb4.mono HB3.out.size))
  have HVK4 := Lib.hid (HVK3.out.kept hb4)
  have HVC4 := Lib.hid (HVC3.out.kept hb4)
  have HA4 := Lib.hid (HA3.out.kept hb4)
  have HO4 := Lib.hid (HO.out.kept hb4)
  have h4 := rfree_in a n cap F T x y w4 (HC.out.kept HB4.out) hn HG.out
  rw [HL.out] at h4
  clear h3 hb4
  go_wp2_with fail
  refine h4.mono ?_
  rintro e w5 ⟨v5, rfl, hO5, hb5⟩
  have HB5 := Lib.hid (HB4.out.trans (hb5.mono HB4.out.size))
  have HVK5 := Lib.hid (HVK4.out.kept hb5)
  have HVC5 := Lib.hid (HVC4.out.kept hb5)
  have HA5 := Lib.hid (HA4.out.kept hb5)
  have h5 := rsame_own (HO4.out.kept hb5) hO5 HFT.out
  obtain ⟨va5, vc5, rfl, _, _⟩ := hO5.shape
  clear h4 hb5 hO5
  go_wp2_with fail
  refine h5.mono ?_
  rintro e w6 ⟨rfl, q6, rfl⟩
  have HB6 := Lib.hid (below_drewN' HB5.out q6)
  have hd6 := below_drewN' (Below.refl w5.heap.size w5) q6
  have HVK6 := Lib.hid (HVK5.out.kept hd6)
  have HVC6 := Lib.hid (HVC5.out.kept hd6)
  have HA6 := Lib.hid (HA5.out.kept hd6)
  generalize w5.drewN q6 = w6 at *
  have e6 := HVK6.out.1
  have e7 := HVC6.out.1
  have h6 := rlost_any a n cap F T x y k c w6 (HC.out.kept HB6.out) hn HG.out
  rw [HLO.out] at h6
  clear h5 hd6
  go_wp2_with fail
  refine h6.mono ?_
  rintro e w7 ⟨rfl, hb7⟩
  have HB7 := Lib.hid (HB6.out.trans (hb7.mono HB6.out.size))
  have h7 := lost_nil (some ⟨A, 0, none⟩) w7 x y
  clear h6 hb7 e6 e7
  go_wp2_with fail
  refine h7.mono ?_
  rintro e w8 ⟨rfl, hb8⟩
  have HB8 := Lib.hid (HB7.out.trans (hb8.mono HB7.out.size))
  have hl := lives9 w8
  clear h7 hb8
  go_wp2_with fail
  refine hl.mono ?_
  rintro e w9 ⟨rfl, hb9⟩
  go_wp2_with fail
  go_ret
  exact ⟨rfl, HB8.out.trans (hb9.mono HB8.out.size)⟩
end Go.Proofs.Ytfeegohjgecjgaa

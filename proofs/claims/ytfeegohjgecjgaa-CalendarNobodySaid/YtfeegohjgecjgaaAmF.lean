/- Bounds of what is free; rows compared; the example of layer 9; the reference's Next. -/
import Derived.Test.YtfeegohjgecjgaaAmE
import Derived.Test.YtfeegohjgecjgaaSpD
namespace Go.Proofs.Ytfeegohjgecjgaa
open Go.RowKit

theorem freeG_mem (F T : Nat → Int) (x y : Int) : ∀ m i at_, x ≤ at_ → (∀ j, i ≤ j → j < i + m → x ≤ T j) → ∀ s ∈ freeG F T y m i at_, x ≤ s.1 ∧ s.1 < s.2 ∧ s.2 ≤ y := by
  intro m
  induction m with
  | zero =>
    intro i a ha _ s hs
    simp only [freeG, gap] at hs
    split at hs
    · simp only [List.mem_singleton] at hs
      subst hs
      exact ⟨ha, by assumption, Int.le_refl _⟩
    · cases hs
  | succ m ih =>
    intro i a ha hT s hs
    simp only [freeG, List.mem_append, gap] at hs
    rcases hs with hs | hs
    · split at hs
      · simp only [List.mem_singleton] at hs
        subst hs
        exact ⟨ha, by assumption, by show min y (F i) ≤ y; omega⟩
      · cases hs
    · exact ih (i + 1) (T i) (hT i (Nat.le_refl _) (by omega)) (fun j h1 h2 => hT j (by omega) (by omega)) s hs
theorem freeL_mem {F T : Nat → Int} {n : Nat} (x y : Int) : ∀ s ∈ freeL F T n x y, x ≤ s.1 ∧ s.1 < s.2 ∧ s.2 ≤ y := by
  have h1 := idx_le T x n
  exact freeG_mem F T x y _ _ x (Int.le_refl _) fun j h2 h3 => by
    have := idx_hi (t := x) n j h2 (by omega)
    omega
/-- Spans whose ends fit. -/
def Fits (l : List (Int × Int)) : Prop := ∀ s ∈ l, -9223372036854775808 ≤ s.1 ∧ s.1 ≤ 9223372036854775807 ∧ -9223372036854775808 ≤ s.2 ∧ s.2 ≤ 9223372036854775807
theorem free_fits (F T : Nat → Int) (n : Nat) (x y : Int) : Fits (freeL F T n (max x 0) (min y 1125899906842624)) := fun s hs => by
  have := freeL_mem _ _ s hs
  omega
theorem sps_fits {w : World} {a : Option Addr} {n : Nat} {F T : Nat → Int} (h : Sps w a n F T) : Fits (pairs F T n) := by
  intro s hs
  obtain ⟨k, hk, rfl⟩ := pairs_mem.1 hs
  obtain ⟨_, _, _, _, _, _, b⟩ := h.at (Below.refl _ _) k hk
  exact b
theorem sameB_refl (F T : Nat → Int) : ∀ n, sameB F T F T n = true := fun n => sameB_iff.2 fun k hk => ⟨rfl, rfl⟩
/-- A row of one's own against a row that has the same spans. -/
theorem rsame_row {w : World} {base : Nat} {v : Value} {a : Option Addr} {n cap : Nat} {F T : Nat → Int} (h : OS w base v (pairs F T n)) (hS : Sps w a n F T) :
    Calls Try.prog 21 #[v, .slice a n cap] w fun e w' => e = .returned (.bool true) ∧ ∃ q, w' = w.drewN q := by
  obtain ⟨va, vc, rfl, _, _⟩ := h.shape
  have h1 := (h.sps (sps_fits hS)).2
  rw [pairs_len] at h1 ⊢
  have h2 := rsame_any va a n vc n cap _ _ F T w h1 hS
  have e : sameL (fr (pairs F T n)) (til (pairs F T n)) F T n n = true := by
    simp only [sameL, decide_true, Bool.true_and]
    exact sameB_iff.2 fun k hk => pairs_at F T n k hk
  rw [e] at h2
  exact h2
/-- Two rows of one's own with the same spans. -/
theorem rsame_own {w : World} {base base' : Nat} {v v' : Value} {l : List (Int × Int)} (h : OS w base v l) (h' : OS w base' v' l) (hl : Fits l) :
    Calls Try.prog 21 #[v, v'] w fun e w' => e = .returned (.bool true) ∧ ∃ q, w' = w.drewN q := by
  obtain ⟨va, vc, rfl, _, _⟩ := h.shape
  obtain ⟨va', vc', rfl, _, _⟩ := h'.shape
  have h2 := rsame_any va va' l.length vc l.length vc' _ _ _ _ w (h.sps hl).2 (h'.sps hl).2
  have e : sameL (fr l) (til l) (fr l) (til l) l.length l.length = true := by
    simp only [sameL, decide_true, Bool.true_and]
    exact sameB_refl _ _ _
  rw [e] at h2
  exact h2

theorem lit_two (w : World) (a b c d : Int) (h : -9223372036854775808 ≤ a ∧ a ≤ 9223372036854775807 ∧ -9223372036854775808 ≤ b ∧ b ≤ 9223372036854775807 ∧ -9223372036854775808 ≤ c ∧ c ≤ 9223372036854775807 ∧ -9223372036854775808 ≤ d ∧ d ≤ 9223372036854775807) :
    Sps (w.alloc (.cells #[.int .i64 a, .int .i64 b, .int .i64 c, .int .i64 d] 30)) (some ⟨w.heap.size, 0, none⟩) 2 (fr [(a, b), (c, d)]) (til [(a, b), (c, d)]) := by
  refine ⟨by unfold maxLen; omega, fun _ => ⟨w.heap.size, 0, rfl, by simp, fun k hk => ?_⟩⟩
  rcases (by omega : k = 0 ∨ k = 1) with rfl | rfl
  · refine ⟨by simp [fr], by simp [til], ?_⟩
    simp only [fr, til, List.getD_eq_getElem?_getD, List.getElem?_cons_zero, Option.getD_some]
    omega
  · refine ⟨by simp [fr], by simp [til], ?_⟩
    simp only [fr, til, List.getD_eq_getElem?_getD, List.getElem?_cons_succ, List.getElem?_cons_zero, Option.getD_some]
    omega
theorem lit_one (w : World) (a b : Int) (h : -9223372036854775808 ≤ a ∧ a ≤ 9223372036854775807 ∧ -9223372036854775808 ≤ b ∧ b ≤ 9223372036854775807) :
    Sps (w.alloc (.cells #[.int .i64 a, .int .i64 b] 30)) (some ⟨w.heap.size, 0, none⟩) 1 (fr [(a, b)]) (til [(a, b)]) := by
  refine ⟨by unfold maxLen; omega, fun _ => ⟨w.heap.size, 0, rfl, by simp, fun k hk => ?_⟩⟩
  obtain rfl : k = 0 := by omega
  refine ⟨by simp [fr], by simp [til], ?_⟩
  simp only [fr, til, List.getD_eq_getElem?_getD, List.getElem?_cons_zero, Option.getD_some]
  omega
theorem pairs_lit2 (x y : Int × Int) : pairs (fr [x, y]) (til [x, y]) 2 = [x, y] := by
  simp [pairs, List.range_succ, fr, til]

set_option maxRecDepth 100000 in
set_option maxHeartbeats 4000000 in
theorem lives9 (w : World) : Calls Try.prog 14 #[] w fun e w' => e = .returned (.bool true) ∧ Below w.heap.size w w' := by
  have B0 : Below w.heap.size w (w.alloc (.cells #[.int .i64 10, .int .i64 20] 30)) := (Below.refl _ _).alloc (Nat.le_refl _) _
  have hnew := made_ok _ 1 1 _ _ _ (lit_one w 10 20 (by omega)) (by omega) (by decide)
  have HB0 := Lib.hid B0
  clear B0
  go_enter Try.func14, Try.ntmps14
  go_wp2_with fail
  refine hnew.mono ?_
  rintro e w1 ⟨A, a, c, rfl, _, hA, _, hb1⟩
  have HB1 := Lib.hid (HB0.out.trans (hb1.mono HB0.out.size))
  have HA := Lib.hid hA
  have hf := free_any 5 30 hA
  have ef : freeL (fr [(10, 20)]) (til [(10, 20)]) 1 (max 5 0) (min 30 1125899906842624) = [(5, 10), (20, 30)] := by decide
  rw [ef] at hf
  clear hnew hA hb1 ef
  go_wp2_with fail
  refine hf.mono ?_
  rintro e w2 ⟨v, rfl, hO, hb2⟩
  have HB2 := Lib.hid (HB1.out.trans (hb2.mono HB1.out.size))
  have HA2 := Lib.hid (HA.out.kept hb2)
  obtain ⟨va, vc, rfl, _, _⟩ := hO.shape
  have BL : Below w2.heap.size w2 (w2.alloc (.cells #[.int .i64 5, .int .i64 10, .int .i64 20, .int .i64 30] 30)) := (Below.refl _ _).alloc (Nat.le_refl _) _
  have hsm := rsame_row (cap := 2) (by rw [pairs_lit2]; exact hO.kept BL) (lit_two w2 5 10 20 30 (by omega))
  have HBL := Lib.hid (HB2.out.trans (BL.mono HB2.out.size))
  have HA3 := Lib.hid (HA2.out.kept BL)
  clear hf hO hb2 BL
  go_wp2_with fail
  refine hsm.mono ?_
  rintro e w3 ⟨rfl, q, rfl⟩
  have hb3 := below_drewN' HBL.out q
  have hA4 := HA3.out.kept (below_drewN' (Below.refl _ _) q)
  generalize (w2.alloc (.cells #[.int .i64 5, .int .i64 10, .int .i64 20, .int .i64 30] 30)).drewN q = w3 at *
  have HB3 := Lib.hid hb3
  have HA4 := Lib.hid hA4
  have hc := closed_at 10 hA4
  have ec : closedB (fr [(10, 20)]) (til [(10, 20)]) 1 10 = true := by decide
  rw [ec] at hc
  clear hsm hb3 hA4 ec
  go_wp2_with fail
  refine hc.mono ?_
  rintro e w4 ⟨rfl, hb4⟩
  have HB4 := Lib.hid (HB3.out.trans (hb4.mono HB3.out.size))
  have hc2 := closed_at 20 (HA4.out.kept hb4)
  have ec : closedB (fr [(10, 20)]) (til [(10, 20)]) 1 20 = false := by decide
  rw [ec] at hc2
  clear hc hb4 ec
  go_wp2_with fail
  refine hc2.mono ?_
  rintro e w5 ⟨rfl, hb5⟩
  have HB5 := Lib.hid (HB4.out.trans (hb5.mono HB4.out.size))
  clear hc2 hb5
  go_wp2_with fail
  go_ret
  exact ⟨rfl, HB5.out⟩

set_option maxRecDepth 100000 in
set_option maxHeartbeats 4000000 in
theorem rnext_any (a : Option Addr) (n cap : Nat) (F T : Nat → Int) (t : Int) (w : World) (hS : Sps w a n F T) (hg : good F T n = true) :
    Calls Try.prog 18 #[.slice a n cap, .int .i64 t] w fun e w' => e = .returned (.tuple #[.agg #[.int .i64 (nx F T n t), .int .i64 (nx T T n t)], .bool (decide (idx T t n < n))]) ∧ Below w.heap.size w w' := by
  have hm := hS.1
  unfold maxLen at hm
  have B1 : Below w.heap.size w (w.alloc (.cells #[.int .i64 0, .int .i64 0] 30)) := (Below.refl _ _).alloc (Nat.le_refl _) _
  have HC := Lib.hid (hS.kept B1)
  have HB := Lib.hid B1
  have HM := Lib.hid (good_mono hg)
  clear hS B1 hg
  go_enter Try.func18, Try.ntmps18
  go_wp2_with fail
  have y0 : (w.alloc (.cells #[.int .i64 0, .int .i64 0] 30)).cell? ⟨w.heap.size, 0, none⟩ = some (.int .i64 0) := by simp
  have y1 : (w.alloc (.cells #[.int .i64 0, .int .i64 0] 30)).cell? ⟨w.heap.size, 1, none⟩ = some (.int .i64 0) := by simp
  have y2 : (w.alloc (.cells #[.int .i64 0, .int .i64 0] 30)).frozen? ⟨w.heap.size, 0, none⟩ = false := by simp
  have y3 : (w.alloc (.cells #[.int .i64 0, .int .i64 0] 30)).frozen? ⟨w.heap.size, 1, none⟩ = false := by simp
  generalize (w.alloc (.cells #[.int .i64 0, .int .i64 0] 30)) = W at *
  go_loopw [6] (fun i wr => ∃ k : Nat, k ≤ n ∧ i = .int .i64 k ∧ (∀ j, j < k → T j ≤ t) ∧ ∃ q, wr = W.drewN q) (fun i _ => n - (intOf i).toNat)
  case atStart => exact ⟨0, Nat.zero_le _, rfl, fun j h => by omega, 0, rfl⟩
  case round =>
    obtain ⟨k, hk, rfl, hlo, q, rfl⟩ := hrel
    have z0 : (W.drewN q).cell? ⟨w.heap.size, 0, none⟩ = some (.int .i64 0) := y0
    have z1 : (W.drewN q).cell? ⟨w.heap.size, 1, none⟩ = some (.int .i64 0) := y1
    have z2 : (W.drewN q).frozen? ⟨w.heap.size, 0, none⟩ = false := y2
    have z3 : (W.drewN q).frozen? ⟨w.heap.size, 1, none⟩ = false := y3
    have HLO := Lib.hid hlo
    have HBQ := Lib.hid (below_drewN' HB.out q)
    have HQ := Lib.hid (show ∃ q', W.drewN q = W.drewN q' from ⟨_, rfl⟩)
    by_cases hlt : k < n
    · obtain ⟨ab, ao, rfl, hab, c0, c1, b0, b1, b2, b3⟩ := HC.out.at (wr := W.drewN q) ⟨rfl, rfl, rfl, Nat.le_refl _, fun _ _ => rfl⟩ k hlt
      obtain ⟨f, hf⟩ : ∃ f, F k = f := ⟨_, rfl⟩
      obtain ⟨u, hu⟩ : ∃ f, T k = f := ⟨_, rfl⟩
      rw [hf] at c0 b0 b1
      rw [hu] at c1 b2 b3
      have k0 : (0 : Int) ≤ (k : Int) := by omega
      have kl : (k : Int) < (n : Int) := by omega
      clear y0 y1 y2 y3 hlo
      generalize W.drewN q = wr at *
      by_cases hd : t < u
      · have d1 : decide (t < u) = true := decide_eq_true hd
        have hix : k = idx T t n := idx_eq hk HLO.out (fun j h1 h2 => by have := HM.out k j h1 h2; omega)
        have e1 : nx F T n t = f := by unfold nx; rw [← hix, if_pos hlt, hf]
        have e2 : nx T T n t = u := by unfold nx; rw [← hix, if_pos hlt, hu]
        have HE := Lib.hid (And.intro e1 (And.intro e2 (show decide (idx T t n < n) = true by rw [← hix]; exact decide_eq_true hlt)))
        clear hf hu hix e1 e2
        go_wp2_with fail
        have q0 : ((wr.setCell ⟨w.heap.size, 0, none⟩ (.int .i64 f)).setCell ⟨w.heap.size, 1, none⟩ (.int .i64 u)).cell? ⟨w.heap.size, 0, none⟩ = some (.int .i64 f) := by go_simp
        have q1 : ((wr.setCell ⟨w.heap.size, 0, none⟩ (.int .i64 f)).setCell ⟨w.heap.size, 1, none⟩ (.int .i64 u)).cell? ⟨w.heap.size, 1, none⟩ = some (.int .i64 u) := by go_simp
        refine bodyPost_ret (v := .tuple #[.agg #[.int .i64 f, .int .i64 u], .bool true]) (by simp [results, Try.results18, go_sem, q0, q1]) rfl ⟨by rw [HE.out.1, HE.out.2.1, HE.out.2.2], ?_⟩
        exact (HBQ.out.setCell (p := ⟨w.heap.size, 0, none⟩) (Nat.le_refl _) _).setCell (p := ⟨w.heap.size, 1, none⟩) (Nat.le_refl _) _
      · have d1 : decide (t < u) = false := decide_eq_false hd
        have HU := Lib.hid hu
        clear hf hu
        go_wp2_with fail
        go_roundw
        case rel => exact ⟨k + 1, hlt, by go_num, (fun j hj => by
          by_cases e : j = k
          · subst e; rw [HU.out]; omega
          · exact HLO.out j (by omega)), HQ.out⟩
        case measure => simp [intOf]; omega
    · obtain rfl : k = n := by omega
      have hix : k = idx T t k := idx_eq hk hlo (fun j h1 h2 => by omega)
      have e1 : nx F T k t = 0 := if_neg (by omega)
      have e2 : nx T T k t = 0 := if_neg (by omega)
      have HE := Lib.hid (And.intro e1 (And.intro e2 (show decide (idx T t k < k) = false by rw [← hix]; exact decide_eq_false (by omega))))
      clear hix e1 e2 y0 y1 y2 y3
      generalize W.drewN q = wr at *
      go_wp2_with fail
      have q0 : ((wr.setCell ⟨w.heap.size, 0, none⟩ (.int .i64 0)).setCell ⟨w.heap.size, 1, none⟩ (.int .i64 0)).cell? ⟨w.heap.size, 0, none⟩ = some (.int .i64 0) := by go_simp
      have q1 : ((wr.setCell ⟨w.heap.size, 0, none⟩ (.int .i64 0)).setCell ⟨w.heap.size, 1, none⟩ (.int .i64 0)).cell? ⟨w.heap.size, 1, none⟩ = some (.int .i64 0) := by go_simp
      refine bodyPost_ret (v := .tuple #[.agg #[.int .i64 0, .int .i64 0], .bool false]) (by simp [results, Try.results18, go_sem, q0, q1]) rfl ⟨by rw [HE.out.1, HE.out.2.1, HE.out.2.2], ?_⟩
      exact (HBQ.out.setCell (p := ⟨w.heap.size, 0, none⟩) (Nat.le_refl _) _).setCell (p := ⟨w.heap.size, 1, none⟩) (Nat.le_refl _) _
end Go.Proofs.Ytfeegohjgecjgaa

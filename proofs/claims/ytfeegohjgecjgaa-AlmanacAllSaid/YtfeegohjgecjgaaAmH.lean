/- The reference's Free. -/
import Derived.Test.YtfeegohjgecjgaaAmF
namespace Go.Proofs.Ytfeegohjgecjgaa
open Go.RowKit

/-- Where the reference's loop stands: k spans are behind it. -/
def RfAt (F T : Nat → Int) (n : Nat) (x y : Int) (k : Nat) (z : Int) (done : List (Int × Int)) : Prop :=
  (k ≤ idx T x n → z = x ∧ done = []) ∧ (idx T x n ≤ k → done ++ freeG F T y (n - k) k z = freeL F T n x y) ∧ (idx T x n < k → z = T (k - 1))
theorem rfAt_start (F T : Nat → Int) (n : Nat) (x y : Int) : RfAt F T n x y 0 x [] := by
  refine ⟨fun _ => ⟨rfl, rfl⟩, fun h => ?_, fun h => by omega⟩
  have e : idx T x n = 0 := by omega
  unfold freeL
  rw [e]
  rfl
/-- The cases of a round. -/
theorem rfAt_step {F T : Nat → Int} {n : Nat} {x y : Int} {k : Nat} {z : Int} {done : List (Int × Int)} (hg : good F T n = true) (hk : k < n) (h : RfAt F T n x y k z done) :
    (F k ≤ z ∧ T k ≤ z ∧ RfAt F T n x y (k + 1) z done) ∨
    (z < T k ∧ (F k ≤ z ∨ y ≤ z) ∧ RfAt F T n x y (k + 1) (T k) done) ∨
    (z < T k ∧ z < F k ∧ z < y ∧ RfAt F T n x y (k + 1) (T k) (done ++ [(z, min y (F k))])) := by
  obtain ⟨h1, h2, h3⟩ := h
  obtain ⟨g0, g1, g2, _⟩ := good_at hg hk
  by_cases hi : k < idx T x n
  · obtain ⟨rfl, rfl⟩ := h1 (by omega)
    have := idx_lo hg k hi
    refine .inl ⟨by omega, this, fun _ => ⟨rfl, rfl⟩, fun h => ?_, fun h => by omega⟩
    have e : idx T z n = k + 1 := by omega
    unfold freeL
    rw [e]
    rfl
  · have h4 := h2 (by omega)
    have hT : z < T k := by
      by_cases e : k = idx T x n
      · obtain ⟨rfl, _⟩ := h1 (by omega)
        exact idx_hi n k (by omega) hk
      · rw [h3 (by omega)]
        have := good_order hg k (k - 1) (by omega) hk
        omega
    rw [show n - k = (n - (k + 1)) + 1 by omega] at h4
    simp only [freeG, gap] at h4
    by_cases hc : z < min y (F k)
    · rw [if_pos hc] at h4
      refine .inr (.inr ⟨hT, by omega, by omega, fun h => by omega, fun _ => ?_, fun _ => by rw [Nat.add_sub_cancel]⟩)
      rw [← h4, List.append_assoc]
    · rw [if_neg hc, List.nil_append] at h4
      exact .inr (.inl ⟨hT, by omega, fun h => by omega, fun _ => h4, fun _ => by rw [Nat.add_sub_cancel]⟩)
theorem rfAt_end {F T : Nat → Int} {n : Nat} {x y z : Int} {done : List (Int × Int)} (h : RfAt F T n x y n z done) : done ++ gap z y = freeL F T n x y := by
  have := h.2.1 (idx_le T x n)
  rw [Nat.sub_self] at this
  exact this
theorem rfAt_len {F T : Nat → Int} {n : Nat} {x y : Int} {k : Nat} {z : Int} {done : List (Int × Int)} (hn : n ≤ 32) (h : RfAt F T n x y k z done) : done.length ≤ 33 := by
  by_cases hk : idx T x n ≤ k
  · have h1 := h.2.1 hk
    have h2 := freeL_len F T n x y hn
    rw [← h1, List.length_append] at h2
    omega
  · rw [(h.1 (by omega)).2]; simp

set_option maxRecDepth 100000 in
set_option maxHeartbeats 8000000 in
theorem rfree_in (a : Option Addr) (n cap : Nat) (F T : Nat → Int) (x0 y0 : Int) (w : World) (hS : Sps w a n F T) (hn : n ≤ 32) (hg : good F T n = true) :
    Calls Try.prog 26 #[.slice a n cap, .int .i64 x0, .int .i64 y0] w (Copied (freeL F T n (max x0 0) (min y0 1125899906842624)) w) := by
  have hm := hS.1
  unfold maxLen at hm
  have HC := Lib.hid hS
  have HG := Lib.hid hg
  obtain ⟨x, hx⟩ : ∃ x, max x0 0 = x := ⟨_, rfl⟩
  obtain ⟨y, hy⟩ : ∃ x, min y0 1125899906842624 = x := ⟨_, rfl⟩
  rw [hx, hy]
  clear hS hg
  obtain ⟨bx, hbx⟩ : ∃ b, decide (x0 < 0) = b := ⟨_, rfl⟩
  obtain ⟨by_, hby⟩ : ∃ b, decide (1125899906842624 < y0) = b := ⟨_, rfl⟩
  have ex : (if bx = true then 0 else x0) = x := by
    subst hbx
    by_cases h : x0 < 0
    · simp [h]; omega
    · simp [h]; omega
  have ey : (if by_ = true then 1125899906842624 else y0) = y := by
    subst hby
    by_cases h : 1125899906842624 < y0
    · simp [h]; omega
    · simp [h]; omega
  go_enter Try.func26, Try.ntmps26
  cases bx <;> cases by_
  all_goals
    simp only [Bool.false_eq_true, if_false, if_true] at ex ey
    have HEX := Lib.hid ex
    have HEY := Lib.hid ey
    clear ex ey hx hy
    go_wp2_with fail
    rw [HEY.out]
    clear hbx hby
    go_loopw [1, 7, 8] (fun s o i wr => ∃ (k : Nat) (z : Int) (done : List (Int × Int)), s = .int .i64 z ∧ i = .int .i64 (k : Int) ∧ k ≤ n ∧ RfAt F T n x y k z done ∧ OS wr w.heap.size o done ∧ Below w.heap.size w wr) (fun _ _ i _ => n - (intOf i).toNat)
    case atStart => exact ⟨0, _, [], rfl, rfl, Nat.zero_le _, by rw [HEX.out]; exact rfAt_start F T n x y, OS.nil _ _, Below.refl _ _⟩
    case round =>
      obtain ⟨k, z, done, rfl, rfl, hk, hR, hO, hB⟩ := hrel
      obtain ⟨oa, oc, rfl, _, _⟩ := hO.shape
      have hdl := rfAt_len hn hR
      have HB := Lib.hid hB
      have HS := Lib.hid hB.size
      have HOK := Lib.hid hO
      by_cases hlt : k < n
      · obtain ⟨ab, ao, rfl, hab, c0, c1, b0, b1, b2, b3⟩ := HC.out.at hB k hlt
        have hst := rfAt_step HG.out hlt hR
        have k0 : (0 : Int) ≤ (k : Int) := by omega
        have kl : (k : Int) < (n : Int) := by omega
        obtain ⟨f, hf⟩ : ∃ f, F k = f := ⟨_, rfl⟩
        obtain ⟨u, hu⟩ : ∃ f, T k = f := ⟨_, rfl⟩
        rw [hf] at c0 b0 b1 hst
        rw [hu] at c1 b2 b3 hst
        have HU := Lib.hid hu
        clear hf hu hR
        rcases hst with ⟨h1, h2, h3⟩ | ⟨h1, h2, h3⟩ | ⟨h1, h2, h2', h3⟩
        · have HR3 := Lib.hid h3
          have d1 : decide (z < f) = false := decide_eq_false (by omega)
          have d2 : decide (z < u) = false := decide_eq_false (by omega)
          clear h3 hO hB
          go_wp2_with fail
          go_roundw
          case rel => exact ⟨k + 1, z, done, rfl, by go_num, hlt, HR3.out, HOK.out, HB.out⟩
          case measure => simp [intOf]; omega
        · have HR3 := Lib.hid h3
          have d2 : decide (z < u) = true := decide_eq_true h1
          by_cases h4 : z < f
          · have d1 : decide (z < f) = true := decide_eq_true h4
            have d3 : decide (z < y) = false := decide_eq_false (by omega)
            clear h3 hO hB
            go_wp2_with fail
            go_roundw
            case rel => exact ⟨k + 1, u, done, rfl, by go_num, hlt, HR3.out, HOK.out, HB.out⟩
            case measure => simp [intOf]; omega
          · have d1 : decide (z < f) = false := decide_eq_false h4
            clear h3 hO hB
            go_wp2_with fail
            go_roundw
            case rel => exact ⟨k + 1, u, done, rfl, by go_num, hlt, HR3.out, HOK.out, HB.out⟩
            case measure => simp [intOf]; omega
        · have d1 : decide (z < f) = true := decide_eq_true h2
          have d2 : decide (z < u) = true := decide_eq_true h1
          have d3 : decide (z < y) = true := decide_eq_true h2'
          by_cases h4 : y < f
          · have d4 : decide (y < f) = true := decide_eq_true h4
            rw [show min y f = y by omega] at h3
            have HR3 := Lib.hid h3
            have HO := Lib.hid (hO.kept ((Below.refl _ _).alloc (Nat.le_refl _) (.cells #[.int .i64 z, .int .i64 y] 30)))
            have HN := Lib.hid (new_span wr (.int .i64 z) (.int .i64 y) 30)
            have HBA := Lib.hid (hB.alloc hB.size (.cells #[.int .i64 z, .int .i64 y] 30))
            have HLD := Lib.hid (show done.length ≤ 100000 by omega)
            clear h3 hO hB
            go_wp2_with (at_builtin; refine append_span rfl (.tmp 41) (.tmp 45) rfl w.heap.size (.slice oa done.length oc) done z y ⟨wr.heap.size, 0, none⟩ 1 rfl rfl HO.out HN.out HLD.out HBA.out.size ?_; intro v' w' hO' hst'; have HO' := Lib.hid hO'; have hB' := hst'.2 w HBA.out; have HB' := Lib.hid hB'; obtain ⟨_, _, e, hab', _, c1', _⟩ := HC.out.at hB' k hlt; injection e with e; injection e with e1 e2; subst e1 e2; rw [HU.out] at c1'; clear hO' hst' hB')
            go_roundw
            case rel => exact ⟨k + 1, u, _, rfl, by go_num, hlt, HR3.out, HO'.out, HB'.out⟩
            case measure => simp [intOf]; omega
          · have d4 : decide (y < f) = false := decide_eq_false h4
            rw [show min y f = f by omega] at h3
            have HR3 := Lib.hid h3
            have HO := Lib.hid (hO.kept ((Below.refl _ _).alloc (Nat.le_refl _) (.cells #[.int .i64 z, .int .i64 f] 30)))
            have HN := Lib.hid (new_span wr (.int .i64 z) (.int .i64 f) 30)
            have HBA := Lib.hid (hB.alloc hB.size (.cells #[.int .i64 z, .int .i64 f] 30))
            have HLD := Lib.hid (show done.length ≤ 100000 by omega)
            clear h3 hO hB
            go_wp2_with (at_builtin; refine append_span rfl (.tmp 41) (.tmp 45) rfl w.heap.size (.slice oa done.length oc) done z f ⟨wr.heap.size, 0, none⟩ 1 rfl rfl HO.out HN.out HLD.out HBA.out.size ?_; intro v' w' hO' hst'; have HO' := Lib.hid hO'; have hB' := hst'.2 w HBA.out; have HB' := Lib.hid hB'; obtain ⟨_, _, e, hab', _, c1', _⟩ := HC.out.at hB' k hlt; injection e with e; injection e with e1 e2; subst e1 e2; rw [HU.out] at c1'; clear hO' hst' hB')
            go_roundw
            case rel => exact ⟨k + 1, u, _, rfl, by go_num, hlt, HR3.out, HO'.out, HB'.out⟩
            case measure => simp [intOf]; omega
      · obtain rfl : k = n := by omega
        have HE := Lib.hid (rfAt_end hR)
        clear hR
        by_cases h4 : z < y
        · have d3 : decide (z < y) = true := decide_eq_true h4
          have HG1 : Hid (done ++ [(z, y)] = freeL F T k x y) := Lib.hid (by rw [← HE.out]; unfold gap; rw [if_pos h4])
          have HO := Lib.hid (hO.kept ((Below.refl _ _).alloc (Nat.le_refl _) (.cells #[.int .i64 z, .int .i64 y] 30)))
          have HN := Lib.hid (new_span wr (.int .i64 z) (.int .i64 y) 30)
          have HBA := Lib.hid (hB.alloc hB.size (.cells #[.int .i64 z, .int .i64 y] 30))
          have HLD := Lib.hid (show done.length ≤ 100000 by omega)
          clear hO hB
          go_wp2_with (at_builtin; refine append_span rfl (.tmp 62) (.tmp 66) rfl w.heap.size (.slice oa done.length oc) done z y ⟨wr.heap.size, 0, none⟩ 1 rfl rfl HO.out HN.out HLD.out HBA.out.size ?_; intro v' w' hO' hst'; have HO' := Lib.hid hO'; have HB' := Lib.hid (hst'.2 w HBA.out); clear hO' hst')
          go_ret
          exact ⟨v', rfl, by rw [← HG1.out]; exact HO'.out, HB'.out⟩
        · have d3 : decide (z < y) = false := decide_eq_false h4
          have HG1 : Hid (done = freeL F T k x y) := Lib.hid (by rw [← HE.out]; unfold gap; rw [if_neg h4, List.append_nil])
          clear hO hB
          go_wp2_with fail
          go_ret
          exact ⟨_, rfl, by rw [← HG1.out]; exact HOK.out, HB.out⟩
end Go.Proofs.Ytfeegohjgecjgaa

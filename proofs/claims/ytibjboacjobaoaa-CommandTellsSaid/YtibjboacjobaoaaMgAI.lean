import Derived.Test.YtibjboacjobaoaaMgAH
import Derived.Deep.RegionHeld3
import Derived.Test.YtibjboacjobaoaaMgAF
import Derived.Test.YtibjboacjobaoaaMgAC
namespace Go.Proofs.Ytibjboacjobaoaa
open Go.RowKit
/- The example of layer 8 holds in any world; WeekNobody. -/
open Go.RowKit

theorem lit_span (w : World) (a b : Int) (h : -9223372036854775808 ≤ a ∧ a ≤ 9223372036854775807 ∧ -9223372036854775808 ≤ b ∧ b ≤ 9223372036854775807) :
    Sps (w.alloc (.cells #[.int .i64 a, .int .i64 b] 193)) (some ⟨w.heap.size, 0, none⟩) 1 (fr [(a, b)]) (til [(a, b)]) := by
  refine ⟨by unfold maxLen; omega, fun _ => ⟨w.heap.size, 0, rfl, by simp, fun k hk => ?_⟩⟩
  obtain rfl : k = 0 := by omega
  refine ⟨by simp [fr], by simp [til], ?_⟩
  simp only [fr, til, List.getD_eq_getElem?_getD, List.getElem?_cons_zero, Option.getD_some]
  omega
theorem wk_ex : Wk (fr [(10, 20)]) (til [(10, 20)]) 1 := by
  refine ⟨by omega, by decide, fun k hk => ?_⟩
  have e : k = 0 := by omega
  subst e
  decide
/- WeekSteps, walked. -/
open Go.RowKit

theorem clip_step (f t r : Int) (h0 : 0 ≤ f) (h1 : f < t) (h2 : 0 ≤ r) : clip f t 0 (r + 1) = clip f t 0 r + clip f t r (r + 1) := by
  rcases clip_cases f t 0 (r + 1) with ⟨a1, a2⟩ | ⟨a1, a2⟩ <;> rcases clip_cases f t 0 r with ⟨b1, b2⟩ | ⟨b1, b2⟩ <;> rcases clip_cases f t r (r + 1) with ⟨c1, c2⟩ | ⟨c1, c2⟩ <;>
    rcases mx_cases f 0 with ⟨d1, d2⟩ | ⟨d1, d2⟩ <;> rcases mx_cases f r with ⟨e1, e2⟩ | ⟨e1, e2⟩ <;> rcases mn_cases t (r + 1) with ⟨g1, g2⟩ | ⟨g1, g2⟩ <;> rcases mn_cases t r with ⟨i1, i2⟩ | ⟨i1, i2⟩ <;> omega
theorem wsum_step {F T : Nat → Int} {n : Nat} (r : Int) (hr : 0 ≤ r) (hg : good F T n = true) : ∀ k, k ≤ n → wsum F T 0 (r + 1) k = wsum F T 0 r k + wsum F T r (r + 1) k := by
  intro k
  induction k with
  | zero => intro _; rfl
  | succ k ih =>
    intro hk
    obtain ⟨g0, g1, g2, _⟩ := good_at hg (show k < n by omega)
    simp only [wsum, ih (by omega), clip_step _ _ _ g0 g1 hr]
    omega
theorem wsum_week {F T : Nat → Int} {n : Nat} (h : Wk F T n) : ∀ k, k ≤ n → wsum F T 0 604800 k = tsum F T k := by
  intro k
  induction k with
  | zero => intro _; rfl
  | succ k ih =>
    intro hk
    obtain ⟨g0, g1, g2, _⟩ := good_at h.good (show k < n by omega)
    simp only [wsum, tsum, ih (by omega), clip_before _ _ _ g0 g1 (h.week k (by omega))]
theorem wsum_zero {F T : Nat → Int} {n : Nat} (hg : good F T n = true) : ∀ k, k ≤ n → wsum F T 0 0 k = 0 := by
  intro k
  induction k with
  | zero => intro _; rfl
  | succ k ih =>
    intro hk
    obtain ⟨g0, g1, g2, _⟩ := good_at hg (show k < n by omega)
    simp only [wsum, ih (by omega), clip_behind _ _ _ g0 g1 g0]
    rfl
theorem until_zero {F T : Nat → Int} {n : Nat} (h : Wk F T n) : untilV F T n 0 = 0 := by
  have e : cl 0 = 0 := by decide
  unfold untilV
  rw [e]
  have := wsum_zero h.good n (Nat.le_refl _)
  simp [this]
/-- One second more. -/
theorem until_step {F T : Nat → Int} {n : Nat} (h : Wk F T n) (t : Int) (h0 : 0 ≤ t) (h1 : t < 2251799813685248) : untilV F T n (t + 1) - untilV F T n t = if openB F T n t = true then 1 else 0 := by
  have e1 : cl t = t := by unfold cl; omega
  have e2 : cl (t + 1) = t + 1 := by unfold cl; omega
  have eo : openB F T n t = hasB F T (t % 604800) n := by
    unfold openB
    rw [decide_eq_true h0, decide_eq_true (show t ≤ 2251799813685248 by omega)]
    simp
  have hr0 : 0 ≤ t % 604800 := by omega
  have hs := wsum_step (t % 604800) hr0 h.good n (Nat.le_refl _)
  have ho := wsum_one h.good (t % 604800) n (Nat.le_refl _)
  rw [eo, ← ho]
  unfold untilV
  rw [e1, e2]
  by_cases hw : t % 604800 + 1 = 604800
  · have q1 : (t + 1) / 604800 = t / 604800 + 1 := by omega
    have q2 : (t + 1) % 604800 = 0 := by omega
    rw [q1, q2, wsum_zero h.good n (Nat.le_refl _), Int.add_mul]
    rw [hw, wsum_week h n (Nat.le_refl _)] at hs
    rw [hw]
    omega
  · have q1 : (t + 1) / 604800 = t / 604800 := by omega
    have q2 : (t + 1) % 604800 = t % 604800 + 1 := by omega
    rw [q1, q2]
    omega

/-- A row that Wrong lets by is a plan's. -/
theorem wk_of {F T : Nat → Int} {n : Nat} (h : (wrongE F T n != 0) = false) : Wk F T n := by
  have h0 : wrongE F T n = 0 := by simpa using h
  unfold wrongE at h0
  by_cases hz : rowE F T n = 0
  · rw [if_pos hz] at h0
    have hn : n ≤ 32 := by
      rcases Nat.lt_or_ge 32 n with h | h
      · rw [rowE_long h] at hz; cases hz
      · exact h
    have hg : good F T n = true := by
      cases h : good F T n with
      | true => rfl
      | false => rw [rowE_bad hn h] at hz; cases hz
    have hw : weekB T n = true := by
      cases h : weekB T n with
      | true => rfl
      | false => rw [h] at h0; cases h0
    exact ⟨hn, hg, (weekB_iff n).1 hw⟩
  · rw [if_neg hz] at h0
    exact absurd h0 hz
theorem wk_wrong {F T : Nat → Int} {n : Nat} (h : Wk F T n) : wrongE F T n = 0 := by
  unfold wrongE
  rw [if_pos (rowE_ok h.len h.good), if_pos ((weekB_iff n).2 h.week)]

/- WeekBack, walked. -/
open Go.RowKit

theorem clip_mono (f t x y : Int) (h0 : 0 ≤ f) (h1 : f < t) (h : x ≤ y) : clip f t 0 x ≤ clip f t 0 y := by
  rcases clip_cases f t 0 x with ⟨a1, a2⟩ | ⟨a1, a2⟩ <;> rcases clip_cases f t 0 y with ⟨b1, b2⟩ | ⟨b1, b2⟩ <;>
    rcases mx_cases f 0 with ⟨d1, d2⟩ | ⟨d1, d2⟩ <;> rcases mn_cases t x with ⟨g1, g2⟩ | ⟨g1, g2⟩ <;> rcases mn_cases t y with ⟨i1, i2⟩ | ⟨i1, i2⟩ <;> omega
theorem wsum_mono {F T : Nat → Int} {n : Nat} (x y : Int) (h : x ≤ y) (hg : good F T n = true) : ∀ k, k ≤ n → wsum F T 0 x k ≤ wsum F T 0 y k := by
  intro k
  induction k with
  | zero => intro _; exact Int.le_refl _
  | succ k ih =>
    intro hk
    obtain ⟨g0, g1, g2, _⟩ := good_at hg (show k < n by omega)
    have := ih (by omega)
    have := clip_mono (F k) (T k) x y g0 g1 h
    simp only [wsum]
    omega
theorem tsum_pos {F T : Nat → Int} {n : Nat} (hg : good F T n = true) (h : 0 < n) : 0 < tsum F T n := by
  have h1 := tsum_mono hg n 1 h (Nat.le_refl _)
  have h2 := (good_at hg h).2.1
  have h3 : tsum F T 1 = 0 + (T 0 - F 0) := rfl
  omega
/-- The second that has m open ones ahead. -/
theorem back_ok {F T : Nat → Int} {n : Nat} {m : Int} (h : Wk F T n) (he : pnE F T n m = 0) : openB F T n (pnV F T n m) = true ∧ untilV F T n (pnV F T n m) = m := by
  have h0 : 0 ≤ m := by
    rcases Int.lt_or_le m 0 with h1 | h1
    · rw [(pn_neg h1).2] at he; cases he
    · exact h1
  have ht : tsum F T n ≠ 0 := by
    intro h1
    rw [(pn_closed h0 h1).2] at he; cases he
  have hf : ¬ 3723213977 < m / tsum F T n := by
    intro h1
    rw [(pn_far h0 ht h1).2] at he; cases he
  have hp : ¬ 2251799813685248 < m / tsum F T n * 604800 + nthV F T n (m % tsum F T n) := by
    intro h1
    rw [(pn_past h0 ht hf h1).2] at he; cases he
  rw [(pn_ok h0 ht hf hp).1]
  obtain ⟨t0, t1⟩ := h.total
  have q0 : 0 ≤ m / tsum F T n := Int.ediv_nonneg h0 t0
  have r0 : 0 ≤ m % tsum F T n := Int.emod_nonneg m ht
  have r1 : m % tsum F T n < tsum F T n := Int.emod_lt_of_pos m (by omega)
  have hm : tsum F T n * (m / tsum F T n) + m % tsum F T n = m := Int.mul_ediv_add_emod m _
  obtain ⟨w1, w2⟩ := within_nth h.good r0 r1
  obtain ⟨s0, s1⟩ := nth_bounds h r0 r1
  generalize nthV F T n (m % tsum F T n) = s at *
  generalize m / tsum F T n = q at *
  have e1 : cl (q * 604800 + s) = q * 604800 + s := by unfold cl; omega
  have e2 : (q * 604800 + s) / 604800 = q := by omega
  have e3 : (q * 604800 + s) % 604800 = s := by omega
  refine ⟨?_, ?_⟩
  · unfold openB
    rw [e3, w1, decide_eq_true (show 0 ≤ q * 604800 + s by omega), decide_eq_true (show q * 604800 + s ≤ 2251799813685248 by omega)]
    rfl
  · unfold untilV
    rw [e1, e2, e3, w2, Int.mul_comm]
    exact hm
theorem back_no {F T : Nat → Int} {n : Nat} {m : Int} (h : Wk F T n) (he : pnE F T n m ≠ 0) : pnV F T n m = 0 ∧ (m < 0 ∨ n = 0 ∨ untilV F T n 2251799813685248 ≤ m) := by
  rcases Int.lt_or_le m 0 with h0 | h0
  · exact ⟨(pn_neg h0).1, .inl h0⟩
  by_cases ht : tsum F T n = 0
  · refine ⟨(pn_closed h0 ht).1, .inr (.inl ?_)⟩
    rcases Nat.eq_zero_or_pos n with h1 | h1
    · exact h1
    · have := tsum_pos h.good h1
      omega
  obtain ⟨t0, t1⟩ := h.total
  have r0 : 0 ≤ m % tsum F T n := Int.emod_nonneg m ht
  have r1 : m % tsum F T n < tsum F T n := Int.emod_lt_of_pos m (by omega)
  have hm : tsum F T n * (m / tsum F T n) + m % tsum F T n = m := Int.mul_ediv_add_emod m _
  have hu : untilV F T n 2251799813685248 = 3723213977 * tsum F T n + wsum F T 0 (2251799813685248 % 604800) n := by
    have e1 : cl 2251799813685248 = 2251799813685248 := by decide
    unfold untilV
    rw [e1]
    rfl
  obtain ⟨l0, l1⟩ := wsum_le (2251799813685248 % 604800) h.good n (Nat.le_refl _)
  by_cases hf : 3723213977 < m / tsum F T n
  · refine ⟨(pn_far h0 ht hf).1, .inr (.inr ?_)⟩
    have hq : tsum F T n * 3723213978 ≤ tsum F T n * (m / tsum F T n) := Int.mul_le_mul_of_nonneg_left (by omega) t0
    rw [hu]
    omega
  by_cases hp : 2251799813685248 < m / tsum F T n * 604800 + nthV F T n (m % tsum F T n)
  · refine ⟨(pn_past h0 ht hf hp).1, .inr (.inr ?_)⟩
    obtain ⟨w1, w2⟩ := within_nth h.good r0 r1
    obtain ⟨s0, s1⟩ := nth_bounds h r0 r1
    have hmo := wsum_mono (2251799813685248 % 604800) (nthV F T n (m % tsum F T n)) (by omega) h.good n (Nat.le_refl _)
    have hq : m / tsum F T n = 3723213977 := by omega
    rw [hq] at hm
    rw [hu]
    omega
  · exact absurd (pn_ok h0 ht hf hp).2 he

/- What a calendar counts: how many instants are open ahead of one; free spans added up; what is due. -/
open Go.RowKit

theorem rowE_zero {F T : Nat → Int} {n : Nat} (h : rowE F T n = 0) : n ≤ 32 ∧ good F T n = true := by
  unfold rowE at h
  split at h
  · cases h
  · split at h
    · exact ⟨by omega, by assumption⟩
    · cases h
theorem ret_i64 {a b : Int} (h : a = b) : Value.int .i64 a = .int .i64 b := by rw [h]
theorem free_apart {F T : Nat → Int} {n : Nat} (y : Int) (hg : good F T n = true) : ∀ m i at_, i + m = n → (∀ j, j < i → T j ≤ at_) → ∀ s ∈ freeG F T y m i at_, ∀ j, j < n → T j ≤ s.1 ∨ s.2 ≤ F j := by
  intro m
  induction m with
  | zero =>
    intro i a h hT s hs j hj
    simp only [freeG, gap] at hs
    split at hs
    · simp only [List.mem_singleton] at hs
      subst hs
      exact .inl (hT j (by omega))
    · cases hs
  | succ m ih =>
    intro i a h hT s hs j hj
    simp only [freeG, List.mem_append, gap] at hs
    rcases hs with hs | hs
    · split at hs
      · simp only [List.mem_singleton] at hs
        subst hs
        by_cases hji : j < i
        · exact .inl (hT j hji)
        · refine .inr ?_
          show min y (F i) ≤ F j
          by_cases e : j = i
          · subst e; omega
          · have := good_order hg j i (by omega) hj
            have := (good_at hg (show i < n by omega)).2.1
            omega
      · cases hs
    · refine ih (i + 1) (T i) (by omega) (fun j hj => ?_) s hs j hj
      exact good_mono hg j i (by omega) (by omega)
theorem freeL_apart {F T : Nat → Int} {n : Nat} (x y : Int) (hg : good F T n = true) : ∀ s ∈ freeL F T n x y, ∀ j, j < n → T j ≤ s.1 ∨ s.2 ≤ F j := by
  have h1 := idx_le T x n
  exact free_apart y hg _ _ x (by omega) fun j hj => idx_lo hg j hj
theorem freeL_open {F T : Nat → Int} {n : Nat} {x y : Int} (hg : good F T n = true) {s : Int × Int} (hs : s ∈ freeL F T n x y) (t : Int) (h1 : s.1 ≤ t) (h2 : t < s.2) : hasB F T t n = false := by
  cases hh : hasB F T t n with
  | false => rfl
  | true =>
    obtain ⟨k, hk, h3, h4⟩ := (hasB_iff n).1 hh
    have := freeL_apart x y hg s hs k hk
    omega
/-- A calendar's data: the plan's row, the closed row, the offset. -/
structure Cal where
  F : Nat → Int
  T : Nat → Int
  n : Nat
  G : Nat → Int
  U : Nat → Int
  m : Nat
  off : Int
structure Cal.ok (D : Cal) : Prop where
  wk : Wk D.F D.T D.n
  good : Go.Proofs.Ytibjboacjobaoaa.good D.G D.U D.m = true
  len : D.m ≤ 32
  off0 : 0 ≤ D.off
  off1 : D.off < 604800
/-- How many seconds of the plan are open ahead of an instant. -/
def Cal.V (D : Cal) (t : Int) : Int := untilV D.F D.T D.n (t - D.off + 604800)
/-- Whether an instant is open, of those that are. -/
def Cal.opB (D : Cal) (t : Int) : Bool := !hasB D.G D.U t D.m && openB D.F D.T D.n (t - D.off + 604800)
def Cal.cnt (D : Cal) : Nat → Int
  | 0 => 0
  | k + 1 => D.cnt k + if D.opB (k : Int) = true then 1 else 0
/-- How many instants are open ahead of one. -/
def Cal.g (D : Cal) (t : Int) : Int := D.cnt t.toNat
theorem Cal.g_step (D : Cal) (t : Int) (h : 0 ≤ t) : D.g (t + 1) = D.g t + if D.opB t = true then 1 else 0 := by
  unfold Cal.g
  obtain ⟨k, rfl⟩ : ∃ k : Nat, t = k := ⟨t.toNat, by omega⟩
  rw [show ((k : Int) + 1).toNat = k + 1 by omega, show ((k : Int)).toNat = k by omega]
  rfl
theorem Cal.V_step {D : Cal} (h : D.ok) (t : Int) (h0 : 0 ≤ t) (h1 : t < 1125899906842624) : D.V (t + 1) = D.V t + if openB D.F D.T D.n (t - D.off + 604800) = true then 1 else 0 := by
  have h2 := h.off0
  have h3 := h.off1
  have := until_step h.wk (t - D.off + 604800) (by omega) (by omega)
  unfold Cal.V
  rw [show t + 1 - D.off + 604800 = t - D.off + 604800 + 1 by omega]
  omega
theorem up_to {a b : Int} (h : a ≤ b) : ∃ k : Nat, b = a + k := ⟨(b - a).toNat, by omega⟩
theorem Cal.g_mono (D : Cal) {a b : Int} (h0 : 0 ≤ a) (h : a ≤ b) : D.g a ≤ D.g b := by
  obtain ⟨k, rfl⟩ := up_to h
  clear h
  induction k with
  | zero => simp
  | succ k ih =>
    have := D.g_step (a + k) (by omega)
    rw [show a + ((k + 1 : Nat) : Int) = a + k + 1 by omega]
    split at this <;> omega
theorem Cal.g_lip (D : Cal) {a b : Int} (h0 : 0 ≤ a) (h : a ≤ b) : D.g b ≤ D.g a + (b - a) := by
  obtain ⟨k, rfl⟩ := up_to h
  clear h
  induction k with
  | zero => simp
  | succ k ih =>
    have := D.g_step (a + k) (by omega)
    rw [show a + ((k + 1 : Nat) : Int) = a + k + 1 by omega]
    split at this <;> omega
theorem Cal.V_mono {D : Cal} (h : D.ok) {a b : Int} (h0 : 0 ≤ a) (hab : a ≤ b) (h1 : b ≤ 1125899906842624) : D.V a ≤ D.V b := by
  obtain ⟨k, rfl⟩ := up_to hab
  clear hab
  induction k with
  | zero => simp
  | succ k ih =>
    have h2 := ih (by omega)
    have := D.V_step h (a + k) (by omega) (by omega)
    rw [show a + ((k + 1 : Nat) : Int) = a + k + 1 by omega]
    split at this <;> omega
/-- Where nothing is closed, the plan counts. -/
theorem Cal.g_free {D : Cal} (h : D.ok) {a b : Int} (h0 : 0 ≤ a) (hab : a ≤ b) (h1 : b ≤ 1125899906842624) (hf : ∀ t, a ≤ t → t < b → hasB D.G D.U t D.m = false) : D.g b - D.g a = D.V b - D.V a := by
  obtain ⟨k, rfl⟩ := up_to hab
  clear hab
  induction k with
  | zero => simp
  | succ k ih =>
    have h2 := ih (by omega) (fun t h3 h4 => hf t h3 (by omega))
    have h3 := D.V_step h (a + k) (by omega) (by omega)
    have h4 := D.g_step (a + k) (by omega)
    have h5 := hf (a + k) (by omega) (by omega)
    have h6 : D.opB (a + k) = openB D.F D.T D.n (a + k - D.off + 604800) := by unfold Cal.opB; rw [h5]; rfl
    rw [h6] at h4
    rw [show a + ((k + 1 : Nat) : Int) = a + k + 1 by omega]
    omega
/-- Where all is closed, nothing counts. -/
theorem Cal.g_closed (D : Cal) {a b : Int} (h0 : 0 ≤ a) (hab : a ≤ b) (hf : ∀ t, a ≤ t → t < b → hasB D.G D.U t D.m = true) : D.g b = D.g a := by
  obtain ⟨k, rfl⟩ := up_to hab
  clear hab
  induction k with
  | zero => simp
  | succ k ih =>
    have h2 := ih (fun t h3 h4 => hf t h3 (by omega))
    have h4 := D.g_step (a + k) (by omega)
    have h5 := hf (a + k) (by omega) (by omega)
    have h6 : D.opB (a + k) = false := by unfold Cal.opB; rw [h5]; rfl
    rw [h6] at h4
    rw [show a + ((k + 1 : Nat) : Int) = a + k + 1 by omega, h4, h2]
    simp
theorem has_in {G U : Nat → Int} {m i : Nat} {t : Int} (hi : i < m) (h1 : G i ≤ t) (h2 : t < U i) : hasB G U t m = true := (hasB_iff m).2 ⟨i, hi, h1, h2⟩
/-- How many seconds the plan has in the spans of a list. -/
def Cal.sv (D : Cal) (l : List (Int × Int)) : Int := l.foldl (fun acc s => acc + (D.V s.2 - D.V s.1)) 0
theorem Cal.sv_from (D : Cal) : ∀ (l : List (Int × Int)) (acc : Int), l.foldl (fun acc s => acc + (D.V s.2 - D.V s.1)) acc = acc + D.sv l := by
  intro l
  induction l with
  | nil => intro acc; show acc = acc + 0; omega
  | cons s l ih =>
    intro acc
    unfold Cal.sv
    simp only [List.foldl_cons]
    rw [ih, ih]
    omega
theorem Cal.sv_cons (D : Cal) (s : Int × Int) (l : List (Int × Int)) : D.sv (s :: l) = (D.V s.2 - D.V s.1) + D.sv l := by
  show (s :: l).foldl _ 0 = _
  rw [List.foldl_cons, D.sv_from]
  omega
theorem Cal.sv_append (D : Cal) (a b : List (Int × Int)) : D.sv (a ++ b) = D.sv a + D.sv b := by
  unfold Cal.sv
  rw [List.foldl_append, D.sv_from]
  rfl
theorem Cal.sv_snoc (D : Cal) (l : List (Int × Int)) (k : Nat) (s : Int × Int) (h : l[k]? = some s) : D.sv (l.take (k + 1)) = D.sv (l.take k) + (D.V s.2 - D.V s.1) := by
  rw [List.take_add_one, h]
  show D.sv (l.take k ++ [s]) = _
  rw [D.sv_append, D.sv_cons]
  show _ + (_ + 0) = _
  omega
/-- Spans one behind the other, the count going on from one to the next. -/
def Cal.Chain (D : Cal) : Int → List (Int × Int) → Prop
  | _, [] => True
  | c, s :: l => D.g s.1 = c ∧ D.g s.2 - D.g s.1 = D.V s.2 - D.V s.1 ∧ D.Chain (D.g s.2) l
theorem Cal.chain_gap {D : Cal} {x y c : Int} {l : List (Int × Int)} (h1 : x < y → D.g x = c ∧ D.g y - D.g x = D.V y - D.V x ∧ D.Chain (D.g y) l) (h2 : ¬ x < y → D.Chain c l) : D.Chain c (gap x y ++ l) := by
  unfold gap
  split
  · exact h1 (by assumption)
  · exact h2 (by assumption)
theorem Cal.sv_gap (D : Cal) (x y : Int) (l : List (Int × Int)) : D.sv (gap x y ++ l) = (if x < y then D.V y - D.V x else 0) + D.sv l := by
  unfold gap
  split
  · exact D.sv_cons _ _
  · show D.sv l = 0 + D.sv l; omega
theorem Cal.free_from {D : Cal} (h : D.ok) (y : Int) (hy : y ≤ 1125899906842624) : ∀ k i at_, i + k = D.m → 0 ≤ at_ → at_ ≤ 1125899906842624 → (0 < k → at_ < D.U i) → (∀ j, j < i → D.U j ≤ at_) →
    D.Chain (D.g at_) (freeG D.G D.U y k i at_) ∧ D.sv (freeG D.G D.U y k i at_) = D.g (max at_ y) - D.g at_ := by
  intro k
  induction k with
  | zero =>
    intro i a hi h0 h0' _ hj
    have hnone : ∀ t, a ≤ t → hasB D.G D.U t D.m = false := fun t ht => by
      cases hh : hasB D.G D.U t D.m with
      | false => rfl
      | true =>
        obtain ⟨j, hjm, h3, h4⟩ := (hasB_iff D.m).1 hh
        have := hj j (by omega)
        omega
    simp only [freeG]
    rw [← List.append_nil (gap a y)]
    by_cases hay : a < y
    · have h5 := D.g_free h (a := a) (b := y) h0 (by omega) hy (fun t h3 _ => hnone t h3)
      refine ⟨D.chain_gap (fun _ => ⟨rfl, h5, trivial⟩) (fun h6 => absurd hay h6), ?_⟩
      rw [D.sv_gap, if_pos hay, show max a y = y by omega]
      show _ + (0 : Int) = _
      omega
    · refine ⟨D.chain_gap (fun h6 => absurd h6 hay) (fun _ => trivial), ?_⟩
      rw [D.sv_gap, if_neg hay, show max a y = a by omega]
      show (0 : Int) + 0 = _
      omega
  | succ k ih =>
    intro i a hi h0 h0' hU hj
    have hg := h.good
    obtain ⟨g0, g1, g2, _⟩ := good_at hg (show i < D.m by omega)
    have hUa := hU (by omega)
    obtain ⟨ih1, ih2⟩ := ih (i + 1) (D.U i) (by omega) (by omega) g2 (fun hk => by
      have := good_order hg (i + 1) i (by omega) (by omega)
      have := (good_at hg (show i + 1 < D.m by omega)).2.1
      omega) (fun j hj' => good_mono hg j i (by omega) (by omega))
    have hnone : ∀ t, a ≤ t → t < D.G i → hasB D.G D.U t D.m = false := fun t ht ht2 => by
      cases hh : hasB D.G D.U t D.m with
      | false => rfl
      | true =>
        obtain ⟨j, hjm, h3, h4⟩ := (hasB_iff D.m).1 hh
        by_cases hji : j < i
        · have := hj j hji; omega
        · by_cases e : j = i
          · subst e; omega
          · have := good_order hg j i (by omega) hjm; omega
    have hall : ∀ t, D.G i ≤ t → t < D.U i → hasB D.G D.U t D.m = true := fun t h3 h4 => has_in (by omega) h3 h4
    simp only [freeG]
    by_cases hc : a < min y (D.G i)
    · have h5 := D.g_free h (a := a) (b := min y (D.G i)) h0 (by omega) (by omega) (fun t h3 h4 => hnone t h3 (by omega))
      have key : D.g (D.U i) = D.g (D.G i) := D.g_closed g0 (by omega) (fun t h3 h4 => hall t h3 h4)
      by_cases h6 : y ≤ D.G i
      · have e1 : min y (D.G i) = y := by omega
        rw [e1] at h5 hc ⊢
        have hrest : freeG D.G D.U y k (i + 1) (D.U i) = [] ∨ True := .inr trivial
        have e2 : max (D.U i) y = D.U i := by omega
        rw [e2] at ih2
        -- nothing behind is within the range
        have hnil : ∀ k i' a', y ≤ a' → (∀ j, i' ≤ j → j < i' + k → y ≤ D.U j) → freeG D.G D.U y k i' a' = [] := by
          intro k
          induction k with
          | zero => intro i' a' ha _; simp only [freeG, gap]; rw [if_neg (by omega)]
          | succ k ihk =>
            intro i' a' ha hUs
            simp only [freeG, gap]
            rw [if_neg (by omega), List.nil_append]
            exact ihk (i' + 1) (D.U i') (hUs i' (Nat.le_refl _) (by omega)) (fun j h7 h8 => hUs j (by omega) (by omega))
        have hr0 := hnil k (i + 1) (D.U i) (by omega) (fun j h7 h8 => by
          have := good_mono hg i j (by omega) (by omega)
          omega)
        rw [hr0]
        refine ⟨D.chain_gap (fun _ => ⟨rfl, h5, trivial⟩) (fun h7 => absurd hc h7), ?_⟩
        rw [D.sv_gap, if_pos hc, show max a y = y by omega]
        show _ + (0 : Int) = _
        omega
      · have e1 : min y (D.G i) = D.G i := by omega
        rw [e1] at h5 hc ⊢
        rw [key] at ih1
        refine ⟨D.chain_gap (fun _ => ⟨rfl, h5, ih1⟩) (fun h7 => absurd hc h7), ?_⟩
        rw [D.sv_gap, if_pos hc, ih2, key, show max a y = y by omega]
        by_cases h7 : D.U i ≤ y
        · rw [show max (D.U i) y = y by omega]; omega
        · rw [show max (D.U i) y = D.U i by omega, key]
          have := D.g_closed (a := D.G i) (b := y) g0 (by omega) (fun t h3 h4 => hall t h3 (by omega))
          omega
    · by_cases h6 : y ≤ a
      · have hnil : ∀ k i' a', y ≤ a' → (∀ j, i' ≤ j → j < i' + k → y ≤ D.U j) → freeG D.G D.U y k i' a' = [] := by
          intro k
          induction k with
          | zero => intro i' a' ha _; simp only [freeG, gap]; rw [if_neg (by omega)]
          | succ k ihk =>
            intro i' a' ha hUs
            simp only [freeG, gap]
            rw [if_neg (by omega), List.nil_append]
            exact ihk (i' + 1) (D.U i') (hUs i' (Nat.le_refl _) (by omega)) (fun j h7 h8 => hUs j (by omega) (by omega))
        have hr0 := hnil k (i + 1) (D.U i) (by omega) (fun j h7 h8 => by
          have := good_mono hg i j (by omega) (by omega)
          omega)
        rw [hr0]
        refine ⟨D.chain_gap (fun h7 => absurd h7 hc) (fun _ => trivial), ?_⟩
        rw [D.sv_gap, if_neg hc, show max a y = a by omega]
        show (0 : Int) + 0 = _
        omega
      · have hGa : D.G i ≤ a := by omega
        have key : D.g (D.U i) = D.g a := D.g_closed h0 (by omega) (fun t h3 h4 => hall t (by omega) h4)
        rw [key] at ih1 ih2
        refine ⟨D.chain_gap (fun h7 => absurd h7 hc) (fun _ => ih1), ?_⟩
        rw [D.sv_gap, if_neg hc, ih2, show max a y = y by omega]
        by_cases h7 : D.U i ≤ y
        · rw [show max (D.U i) y = y by omega]; omega
        · rw [show max (D.U i) y = D.U i by omega, key]
          have := D.g_closed (a := a) (b := y) h0 (by omega) (fun t h3 h4 => hall t (by omega) (by omega))
          omega
theorem Cal.free_all {D : Cal} (h : D.ok) {x y : Int} (hx : 0 ≤ x) (hxy : x ≤ y) (hy : y ≤ 1125899906842624) :
    D.Chain (D.g x) (freeL D.G D.U D.m x y) ∧ D.sv (freeL D.G D.U D.m x y) = D.g y - D.g x := by
  have h1 := idx_le D.U x D.m
  have h2 := D.free_from h y hy (D.m - idx D.U x D.m) (idx D.U x D.m) x (by omega) hx (by omega) (fun hk => idx_hi D.m _ (Nat.le_refl _) (by omega)) (fun j hj => idx_lo h.good j hj)
  rw [show max x y = y by omega] at h2
  exact h2
theorem Cal.chain_at {D : Cal} : ∀ (l : List (Int × Int)) (c : Int) (k : Nat) (s : Int × Int), D.Chain c l → l[k]? = some s → D.g s.1 = c + D.sv (l.take k) ∧ D.g s.2 - D.g s.1 = D.V s.2 - D.V s.1 := by
  intro l
  induction l with
  | nil => intro c k s _ h; simp at h
  | cons r l ih =>
    intro c k s hc hk
    obtain ⟨h1, h2, h3⟩ := hc
    cases k with
    | zero =>
      simp at hk
      subst hk
      refine ⟨?_, h2⟩
      show _ = c + 0
      omega
    | succ k =>
      obtain ⟨h4, h5⟩ := ih _ k s h3 (by simpa using hk)
      refine ⟨?_, h5⟩
      rw [List.take_succ_cons, D.sv_cons]
      omega
end Go.Proofs.Ytibjboacjobaoaa

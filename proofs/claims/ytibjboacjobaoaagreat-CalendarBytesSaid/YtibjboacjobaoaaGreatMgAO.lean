import Derived.Test.YtibjboacjobaoaaGreatMgAL
namespace Go.Proofs.YtibjboacjobaoaaGreat
open Go.RowKit
/- Rows of spans: Add, both ways; Within, Len, Nth, Has. -/
open Go.RowKit

def addV (t b : Int) : Int := if t < 0 ∨ 1125899906842624 < t then 0 else if b < -t ∨ 1125899906842624 - t < b then 0 else t + b
def addE (t b : Int) : Int := if t < 0 ∨ 1125899906842624 < t then 2 else if b < -t ∨ 1125899906842624 - t < b then 10 else 0
theorem add_cases (t b : Int) : ((t < 0 ∨ 1125899906842624 < t) ∧ addV t b = 0 ∧ addE t b = 2) ∨ ((0 ≤ t ∧ t ≤ 1125899906842624) ∧ (b < -t ∨ 1125899906842624 - t < b) ∧ addV t b = 0 ∧ addE t b = 10) ∨
    ((0 ≤ t ∧ t ≤ 1125899906842624) ∧ (-t ≤ b ∧ b ≤ 1125899906842624 - t) ∧ addV t b = t + b ∧ addE t b = 0) := by
  unfold addV addE
  by_cases h1 : t < 0 ∨ 1125899906842624 < t
  · exact .inl ⟨h1, by rw [if_pos h1], by rw [if_pos h1]⟩
  · by_cases h2 : b < -t ∨ 1125899906842624 - t < b
    · exact .inr (.inl ⟨by omega, h2, by rw [if_neg h1, if_pos h2], by rw [if_neg h1, if_pos h2]⟩)
    · exact .inr (.inr ⟨by omega, by omega, by rw [if_neg h1, if_neg h2], by rw [if_neg h1, if_neg h2]⟩)
theorem ret_two {k k' : IntKind} {a b a' b' : Int} (h : a = a') (h' : b = b') : Ending.returned (.tuple #[.int k a, .int k' b]) = .returned (.tuple #[.int k a', .int k' b']) := by rw [h, h']

/- Within and Len of a row of spans. -/
open Go.RowKit

/-- How many seconds of a span are in a range. -/
def clip (f t a b : Int) : Int := comT f t a b - comF f t a b
theorem clip_cases (f t a b : Int) : (mn t b ≤ mx f a ∧ clip f t a b = 0) ∨ (mx f a < mn t b ∧ clip f t a b = mn t b - mx f a) := by
  unfold clip
  rcases com_cases f t a b with ⟨h, h1, h2⟩ | ⟨h, h1, h2⟩
  · exact .inl ⟨h, by rw [h1, h2]; rfl⟩
  · exact .inr ⟨h, by rw [h1, h2]⟩
theorem clip_bounds (f t a b : Int) (h0 : 0 ≤ f) (h1 : f < t) (h2 : t ≤ 1125899906842624) : 0 ≤ clip f t a b ∧ clip f t a b ≤ t - f := by
  rcases clip_cases f t a b with ⟨h, e⟩ | ⟨h, e⟩ <;> rcases mx_cases f a with ⟨h3, e3⟩ | ⟨h3, e3⟩ <;> rcases mn_cases t b with ⟨h4, e4⟩ | ⟨h4, e4⟩ <;> omega
def wsum (F T : Nat → Int) (a b : Int) : Nat → Int
  | 0 => 0
  | k + 1 => wsum F T a b k + clip (F k) (T k) a b
theorem wsum_bounds {F T : Nat → Int} {n : Nat} (a b : Int) (hg : good F T n = true) : ∀ k, k ≤ n → 0 ≤ wsum F T a b k ∧ wsum F T a b k ≤ k * 1125899906842624 := by
  intro k
  induction k with
  | zero => intro _; simp [wsum]
  | succ k ih =>
    intro hk
    obtain ⟨h1, h2⟩ := ih (by omega)
    obtain ⟨g0, g1, g2, _⟩ := good_at hg (show k < n by omega)
    have := clip_bounds (F k) (T k) a b g0 g1 g2
    simp only [wsum]
    omega

/- Nth of a row of spans. -/
open Go.RowKit

/-- How many seconds the first spans have. -/
def tsum (F T : Nat → Int) : Nat → Int
  | 0 => 0
  | k + 1 => tsum F T k + (T k - F k)
theorem tsum_bounds {F T : Nat → Int} {n : Nat} (hg : good F T n = true) : ∀ k, k ≤ n → 0 ≤ tsum F T k ∧ tsum F T k ≤ k * 1125899906842624 := by
  intro k
  induction k with
  | zero => intro _; simp [tsum]
  | succ k ih =>
    intro hk
    obtain ⟨h1, h2⟩ := ih (by omega)
    obtain ⟨g0, g1, g2, _⟩ := good_at hg (show k < n by omega)
    simp only [tsum]
    omega
theorem tsum_mono {F T : Nat → Int} {n : Nat} (hg : good F T n = true) : ∀ k j, j ≤ k → k ≤ n → tsum F T j ≤ tsum F T k := by
  intro k
  induction k with
  | zero => intro j h _; obtain rfl : j = 0 := by omega
            exact Int.le_refl _
  | succ k ih =>
    intro j hj hk
    by_cases e : j = k + 1
    · subst e; exact Int.le_refl _
    · have := ih j (by omega) (by omega)
      obtain ⟨g0, g1, g2, _⟩ := good_at hg (show k < n by omega)
      simp only [tsum]
      omega
/-- Which span has the second with m others ahead. -/
theorem tsum_find {F T : Nat → Int} {m : Int} : ∀ n, 0 ≤ m → m < tsum F T n → ∃ k, k < n ∧ tsum F T k ≤ m ∧ m < tsum F T (k + 1) := by
  intro n
  induction n with
  | zero => intro h0 h; simp only [tsum] at h; omega
  | succ n ih =>
    intro h0 h
    by_cases h1 : m < tsum F T n
    · obtain ⟨k, hk, h2⟩ := ih h0 h1
      exact ⟨k, by omega, h2⟩
    · exact ⟨n, by omega, by omega, h⟩
/-- Nth's answer: the second, and whether there is one. -/
def nthV (F T : Nat → Int) (n : Nat) (m : Int) : Int := match (List.range n).find? (fun k => decide (m < tsum F T (k + 1))) with
  | some k => F k + (m - tsum F T k)
  | none => 0
theorem nthV_at {F T : Nat → Int} {n k : Nat} {m : Int} (hg : good F T n = true) (hk : k < n) (h1 : tsum F T k ≤ m) (h2 : m < tsum F T (k + 1)) : nthV F T n m = F k + (m - tsum F T k) := by
  unfold nthV
  have : (List.range n).find? (fun k => decide (m < tsum F T (k + 1))) = some k := by
    rw [List.find?_range_eq_some]
    refine ⟨by simpa using h2, by simpa using hk, fun j hj => ?_⟩
    have := tsum_mono hg k (j + 1) (by omega) (by omega)
    simp; omega
  rw [this]

theorem ret_ib {k : IntKind} {a b : Int} {c : Bool} (h : a = b) : Ending.returned (.tuple #[.int k a, .bool c]) = .returned (.tuple #[.int k b, .bool c]) := by rw [h]
set_option maxRecDepth 100000 in
set_option maxHeartbeats 4000000 in
theorem nth_yes (a : Option Addr) (n cap : Nat) (F T : Nat → Int) (m : Int) (w : World) (hS : Sps w a n F T) (hn : n ≤ 32) (hg : good F T n = true) (h0 : 0 ≤ m) (h1 : m < tsum F T n) :
    Calls Tryz.prog 137 #[.slice a n cap, .int .i64 m] w fun e w' => e = .returned (.tuple #[.int .i64 (nthV F T n m), .bool true]) ∧ Below w.heap.size w w' := by
  have hm := hS.1
  unfold maxLen at hm
  have HC := Lib.hid hS
  have hr := row_any a n cap F T w hS
  rw [rowE_ok hn hg] at hr
  have hx := tsum_bounds hg n (Nat.le_refl _)
  have d0 : decide (m < 0) = false := decide_eq_false (by omega)
  have m1 : m ≤ 36028797018963968 := by omega
  have HG := Lib.hid hg
  have HN := Lib.hid hn
  have H1 := Lib.hid h1
  clear hS hg hx h1
  go_enter Tryz.func137, Tryz.ntmps137
  go_wp2_with fail
  refine hr.mono ?_
  rintro e w0 ⟨rfl, hb0⟩
  clear hr
  go_wp2_with fail
  go_loopw [1, 17] (fun s i wr => ∃ k : Nat, k ≤ n ∧ i = .int .i64 k ∧ s = .int .i64 (m - tsum F T k) ∧ tsum F T k ≤ m ∧ Below w.heap.size w wr) (fun _ i _ => n - (intOf i).toNat)
  case atStart => exact ⟨0, Nat.zero_le _, rfl, by simp [tsum], h0, hb0⟩
  case round =>
    clear hb0
    obtain ⟨k, hk, rfl, rfl, hle, hB⟩ := hrel
    have hlt : k < n := by
      have := H1.out
      rcases Nat.lt_or_ge k n with h | h
      · exact h
      · obtain rfl : k = n := by omega
        omega
    obtain ⟨ab, ao, rfl, hab, c0, c1, b0, b1, b2, b3⟩ := HC.out.at hB k hlt
    have HB := Lib.hid hB
    have HS := Lib.hid hB.size
    obtain ⟨g0, g1, g2, _⟩ := good_at HG.out hlt
    obtain ⟨p0, p1⟩ := tsum_bounds HG.out k hk
    have HW := Lib.hid (show tsum F T (k + 1) = tsum F T k + (T k - F k) from rfl)
    have HV := Lib.hid (fun h => nthV_at (m := m) HG.out hlt hle h)
    obtain ⟨f, e0⟩ : ∃ x, F k = x := ⟨_, rfl⟩
    obtain ⟨t, e1⟩ : ∃ x, T k = x := ⟨_, rfl⟩
    obtain ⟨s, e2⟩ : ∃ z, m - tsum F T k = z := ⟨_, rfl⟩
    have s0 : 0 ≤ s := by omega
    have s1 : s ≤ 36028797018963968 := by omega
    rw [e0] at c0 b0 b1 HW HV g0 g1
    rw [e1] at c1 b2 b3 HW g1 g2
    have E2 := Lib.hid e2
    rw [e2] at HV ⊢
    clear hB e0 e1 e2 p1
    have k0 : (0 : Int) ≤ (k : Int) := by omega
    have kl : (k : Int) < (n : Int) := by omega
    have d4 : decide ((k : Int) < (n : Int)) = true := by simp [hlt]
    have hz := fun W => size_any f t W (by omega) (by omega)
    by_cases hs : s < t - f
    · have d5 : decide (s < t - f) = true := decide_eq_true hs
      have hv := HV.out (by rw [HW.out]; have := E2.out; omega)
      have HV := Lib.hid hv
      clear hv
      go_wp2_with fail
      refine (hz _).mono ?_
      rintro e w1 ⟨rfl, hb1⟩
      obtain ⟨hc1, hf1⟩ := bcell hb1
      go_wp2_with fail
      go_ret2
      exact ⟨ret_ib HV.out.symm, below_call HB.out HS.out hb1⟩
    · have d5 : decide (s < t - f) = false := decide_eq_false hs
      go_wp2_with fail
      refine (hz _).mono ?_
      rintro e w1 ⟨rfl, hb1⟩
      obtain ⟨hc1, hf1⟩ := bcell hb1
      go_wp2_with fail
      refine (hz _).mono ?_
      rintro e w2 ⟨rfl, hb2⟩
      clear hc1 hf1
      go_wp2_with fail
      go_roundw
      case rel => exact ⟨k + 1, hlt, by go_num, by rw [HW.out, ← E2.out]; congr 1; omega, by rw [HW.out]; have := E2.out; omega, (below_call HB.out HS.out hb1).trans (hb2.mono (below_call HB.out HS.out hb1).size)⟩
      case measure => simp [intOf]; omega
set_option maxRecDepth 100000 in
set_option maxHeartbeats 4000000 in
theorem nth_past (a : Option Addr) (n cap : Nat) (F T : Nat → Int) (m : Int) (w : World) (hS : Sps w a n F T) (hn : n ≤ 32) (hg : good F T n = true) (h0 : 0 ≤ m) (hm1 : m ≤ 9223372036854775807) (h1 : tsum F T n ≤ m) :
    Calls Tryz.prog 137 #[.slice a n cap, .int .i64 m] w fun e w' => e = .returned (.tuple #[.int .i64 0, .bool false]) ∧ Below w.heap.size w w' := by
  have hm := hS.1
  unfold maxLen at hm
  have HC := Lib.hid hS
  have hr := row_any a n cap F T w hS
  rw [rowE_ok hn hg] at hr
  have d0 : decide (m < 0) = false := decide_eq_false (by omega)
  have HG := Lib.hid hg
  have HN := Lib.hid hn
  have H1 := Lib.hid h1
  clear hS hg h1
  go_enter Tryz.func137, Tryz.ntmps137
  go_wp2_with fail
  refine hr.mono ?_
  rintro e w0 ⟨rfl, hb0⟩
  clear hr
  go_wp2_with fail
  go_loopw [1, 17] (fun s i wr => ∃ k : Nat, k ≤ n ∧ i = .int .i64 k ∧ s = .int .i64 (m - tsum F T k) ∧ Below w.heap.size w wr) (fun _ i _ => n - (intOf i).toNat)
  case atStart => exact ⟨0, Nat.zero_le _, rfl, by simp [tsum], hb0⟩
  case round =>
    clear hb0
    obtain ⟨k, hk, rfl, rfl, hB⟩ := hrel
    by_cases hlt : k < n
    · obtain ⟨ab, ao, rfl, hab, c0, c1, b0, b1, b2, b3⟩ := HC.out.at hB k hlt
      have HB := Lib.hid hB
      have HS := Lib.hid hB.size
      obtain ⟨g0, g1, g2, _⟩ := good_at HG.out hlt
      obtain ⟨p0, p1⟩ := tsum_bounds HG.out k hk
      have p2 := tsum_mono HG.out n (k + 1) (by omega) (Nat.le_refl _)
      have HW := Lib.hid (show tsum F T (k + 1) = tsum F T k + (T k - F k) from rfl)
      have p3 := HW.out
      have p4 := H1.out
      obtain ⟨f, e0⟩ : ∃ x, F k = x := ⟨_, rfl⟩
      obtain ⟨t, e1⟩ : ∃ x, T k = x := ⟨_, rfl⟩
      obtain ⟨s, e2⟩ : ∃ z, m - tsum F T k = z := ⟨_, rfl⟩
      have s1 : s ≤ 9223372036854775807 := by omega
      rw [e0] at c0 b0 b1 HW g0 g1 p3
      rw [e1] at c1 b2 b3 HW g1 g2 p3
      have s2 : t - f ≤ s := by omega
      have E2 := Lib.hid e2
      rw [e2]
      clear hB e0 e1 e2 p1 p2 p3 p4
      have k0 : (0 : Int) ≤ (k : Int) := by omega
      have kl : (k : Int) < (n : Int) := by omega
      have d4 : decide ((k : Int) < (n : Int)) = true := by simp [hlt]
      have hz := fun W => size_any f t W (by omega) (by omega)
      have d5 : decide (s < t - f) = false := decide_eq_false (by omega)
      go_wp2_with fail
      refine (hz _).mono ?_
      rintro e w1 ⟨rfl, hb1⟩
      obtain ⟨hc1, hf1⟩ := bcell hb1
      go_wp2_with fail
      refine (hz _).mono ?_
      rintro e w2 ⟨rfl, hb2⟩
      clear hc1 hf1
      go_wp2_with fail
      go_roundw
      case rel => exact ⟨k + 1, hlt, by go_num, by rw [HW.out, ← E2.out]; congr 1; omega, (below_call HB.out HS.out hb1).trans (hb2.mono (below_call HB.out HS.out hb1).size)⟩
      case measure => simp [intOf]; omega
    · obtain rfl : k = n := by omega
      have HB := Lib.hid hB
      clear hB
      go_wp2_with fail
      go_ret2
      exact ⟨rfl, HB.out⟩
theorem nth_neg (a : Option Addr) (n cap : Nat) (m : Int) (w : World) (h0 : m < 0) :
    Calls Tryz.prog 137 #[.slice a n cap, .int .i64 m] w fun e w' => e = .returned (.tuple #[.int .i64 0, .bool false]) ∧ Below w.heap.size w w' := by
  have d0 : decide (m < 0) = true := decide_eq_true h0
  go_enter Tryz.func137, Tryz.ntmps137
  go_wp2_with fail
  go_ret2
  exact ⟨rfl, Below.refl _ _⟩
end Go.Proofs.YtibjboacjobaoaaGreat

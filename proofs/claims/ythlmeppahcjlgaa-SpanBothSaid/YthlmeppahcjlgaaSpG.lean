/- Within and Len of a row of spans. -/
import Derived.Test.YthlmeppahcjlgaaSpF
namespace Go.Proofs.Ythlmeppahcjlgaa
open Go.RowKit

/-- How many seconds of a span are in a range. -/
def clip (f t a b : Int) : Int := comT f t a b - comF f t a b
theorem clip_cases (f t a b : Int) : (mn t b ≤ mx f a ∧ clip f t a b = 0) ∨ (mx f a < mn t b ∧ clip f t a b = mn t b - mx f a) := by
  unfold clip
  rcases com_cases f t a b with ⟨h, h1, h2⟩ | ⟨h, h1, h2⟩
  · exact .inl ⟨h, by rw [h1, h2]; rfl⟩
  · exact .inr ⟨h, by rw [h1, h2]⟩
theorem clip_bounds (f t a b : Int) (h0 : 0 ≤ f) (h1 : f < t) (h2 : t ≤ 1125899906842624) : 0 ≤ clip f t a b ∧ clip f t a b ≤ t - f := by
  rcases clip_cases f t a b with ⟨h, e⟩ | ⟨h, e⟩ <;> rcases mx_cases f a with ⟨h3, e3⟩ | ⟨h3, e3⟩ <;> rcases mn_cases t b with ⟨h4, e4⟩ | ⟨h4, e4⟩ <;> omega
def wsum (F T : Nat → Int) (a b : Int) : Nat → Int
  | 0 => 0
  | k + 1 => wsum F T a b k + clip (F k) (T k) a b
theorem wsum_bounds {F T : Nat → Int} {n : Nat} (a b : Int) (hg : good F T n = true) : ∀ k, k ≤ n → 0 ≤ wsum F T a b k ∧ wsum F T a b k ≤ k * 1125899906842624 := by
  intro k
  induction k with
  | zero => intro _; simp [wsum]
  | succ k ih =>
    intro hk
    obtain ⟨h1, h2⟩ := ih (by omega)
    obtain ⟨g0, g1, g2, _⟩ := good_at hg (show k < n by omega)
    have := clip_bounds (F k) (T k) a b g0 g1 g2
    simp only [wsum]
    omega

set_option maxRecDepth 100000 in
set_option maxHeartbeats 4000000 in
theorem within_ok (a : Option Addr) (n cap : Nat) (F T : Nat → Int) (x y : Int) (w : World) (hS : Sps w a n F T) (hn : n ≤ 32) (hg : good F T n = true) :
    Calls Try.prog 25 #[.slice a n cap, .int .i64 x, .int .i64 y] w fun e w' => e = .returned (.int .i64 (wsum F T x y n)) ∧ Below w.heap.size w w' := by
  have hm := hS.1
  unfold maxLen at hm
  have HC := Lib.hid hS
  have hr := row_any a n cap F T w hS
  rw [rowE_ok hn hg] at hr
  have HG := Lib.hid hg
  have HN := Lib.hid hn
  clear hS hg
  go_enter Try.func25, Try.ntmps25
  go_wp2_with fail
  refine hr.mono ?_
  rintro e w0 ⟨rfl, hb0⟩
  clear hr
  go_wp2_with fail
  go_loopw [7, 15] (fun s i wr => ∃ k : Nat, k ≤ n ∧ i = .int .i64 k ∧ s = .int .i64 (wsum F T x y k) ∧ Below w.heap.size w wr) (fun _ i _ => n - (intOf i).toNat)
  case atStart => exact ⟨0, Nat.zero_le _, rfl, rfl, hb0⟩
  case round =>
    clear hb0
    obtain ⟨k, hk, rfl, rfl, hB⟩ := hrel
    by_cases hlt : k < n
    · obtain ⟨ab, ao, rfl, hab, c0, c1, b0, b1, b2, b3⟩ := HC.out.at hB k hlt
      have HB := Lib.hid hB
      have HS := Lib.hid hB.size
      obtain ⟨g0, g1, g2, _⟩ := good_at HG.out hlt
      obtain ⟨p0, p1⟩ := wsum_bounds x y HG.out k hk
      have p2 : wsum F T x y k ≤ 36028797018963968 := by omega
      obtain ⟨q0, q1⟩ := clip_bounds (F k) (T k) x y g0 g1 g2
      have HW := Lib.hid (show wsum F T x y (k + 1) = wsum F T x y k + clip (F k) (T k) x y from rfl)
      have HCL := Lib.hid (show clip (F k) (T k) x y = comT (F k) (T k) x y - comF (F k) (T k) x y from rfl)
      obtain ⟨f, e0⟩ : ∃ x, F k = x := ⟨_, rfl⟩
      obtain ⟨t, e1⟩ : ∃ x, T k = x := ⟨_, rfl⟩
      obtain ⟨s, e2⟩ : ∃ z, wsum F T x y k = z := ⟨_, rfl⟩
      rw [e0] at c0 b0 b1 HW HCL g0 g1 q0 q1
      rw [e1] at c1 b2 b3 HW HCL g1 g2 q0 q1
      rw [e2] at HW p0 p2 ⊢
      clear hB e0 e1 e2 p1
      have hc := fun W => common_any f t x y W
      obtain ⟨cl, e3⟩ : ∃ z, clip f t x y = z := ⟨_, rfl⟩
      rw [e3] at HW HCL q0 q1
      clear e3
      have k0 : (0 : Int) ≤ (k : Int) := by omega
      have kl : (k : Int) < (n : Int) := by omega
      have d4 : decide ((k : Int) < (n : Int)) = true := by simp [hlt]
      go_wp2_with fail
      refine (hc _).mono ?_
      rintro e w1 ⟨u, v, rfl, hu, hv, hb1⟩
      have huv : v - u = cl := by rw [HCL.out, hu, hv]
      obtain ⟨hc1, hf1⟩ := bcell hb1
      have HUV := Lib.hid huv
      clear hu hv huv
      go_wp2_with fail
      refine (size_any u v w1 (by have := HUV.out; omega) (by have := HUV.out; omega)).mono ?_
      rintro e w2 ⟨rfl, hb2⟩
      rw [HUV.out]
      clear hc1 hf1
      go_wp2_with fail
      go_roundw
      case rel => exact ⟨k + 1, hlt, by go_num, by rw [HW.out], (below_call HB.out HS.out hb1).trans (hb2.mono (below_call HB.out HS.out hb1).size)⟩
      case measure => simp [intOf]; omega
    · obtain rfl : k = n := by omega
      have HB := Lib.hid hB
      clear hB
      go_wp2_with fail
      go_ret
      exact ⟨rfl, HB.out⟩
theorem within_bad (a : Option Addr) (n cap : Nat) (F T : Nat → Int) (x y : Int) (w : World) (hS : Sps w a n F T) (hn : (rowE F T n != 0) = true) :
    Calls Try.prog 25 #[.slice a n cap, .int .i64 x, .int .i64 y] w fun e w' => e = .returned (.int .i64 0) ∧ Below w.heap.size w w' := by
  have hr := row_any a n cap F T w hS
  clear hS
  generalize rowE F T n = z at hr hn
  go_enter Try.func25, Try.ntmps25
  go_wp2_with fail
  refine hr.mono ?_
  rintro e w0 ⟨rfl, hb0⟩
  clear hr
  go_wp2_with fail
  go_ret
  exact ⟨rfl, hb0⟩
theorem len_ok (a : Option Addr) (n cap : Nat) (F T : Nat → Int) (w : World) (hS : Sps w a n F T) (hn : n ≤ 32) (hg : good F T n = true) :
    Calls Try.prog 26 #[.slice a n cap] w fun e w' => e = .returned (.int .i64 (wsum F T 0 1125899906842624 n)) ∧ Below w.heap.size w w' := by
  have hr := within_ok a n cap F T 0 1125899906842624 w hS hn hg
  generalize wsum F T 0 1125899906842624 n = z at hr ⊢
  clear hS hg
  go_enter Try.func26, Try.ntmps26
  go_wp2_with fail
  refine hr.mono ?_
  rintro e w0 ⟨rfl, hb0⟩
  clear hr
  go_wp2_with fail
  go_ret
  exact ⟨rfl, hb0⟩
end Go.Proofs.Ythlmeppahcjlgaa

/- Next over any ring: the rotation, the trailing zeros, the first slot from one on. -/
import Derived.Test.YtfclmbneimbmnaaDoorNxP
import Derived.Laws.Bits64b
namespace Go.Proofs.YtfclmbneimbmnaaDoor
open Go.RowKit

theorem i64_and63 (n : Int) : bits .and .i64 n 63 = n % 64 := by
  have h63 : (BitVec.ofInt 64 63).toNat = 2 ^ 6 - 1 := by decide
  have key : (BitVec.ofInt 64 n &&& BitVec.ofInt 64 63).toNat = (n % ((2 ^ 64 : Nat) : Int)).toNat % 2 ^ 6 := by
    rw [BitVec.toNat_and, BitVec.toNat_ofInt, h63, Nat.and_two_pow_sub_one_eq_mod]
  show IntKind.i64.wrap ((BitVec.ofInt 64 n &&& BitVec.ofInt 64 63).toNat : Nat) = n % 64
  rw [key, IntKind.wrap_i64]
  omega
theorem u64_and63 (n : Nat) (hn : n < 18446744073709551616) : bits .and .u64 (n : Int) 63 = ((n % 64 : Nat) : Int) := by
  have := bits_and_u64_nat n 63 hn (by omega)
  rw [show n &&& 63 = n % 64 from Nat.and_two_pow_sub_one_eq_mod n 6] at this
  exact this

set_option maxRecDepth 100000 in
theorem tz_any (x j : Nat) (w : World) (hT : Tab w) (hx : x < 2 ^ 64) (h1 : x.testBit j = true) (h0 : ∀ i, i < j → x.testBit i = false) : Calls Tryd.prog 110 #[.int .u64 x] w fun e w' => e = .returned (.int .i64 j) ∧ w' = w := by
  have hj : j < 64 := by
    by_cases h : j < 64
    · exact h
    · rw [Nat.testBit_lt_two_pow (Nat.lt_of_lt_of_le hx (Nat.pow_le_pow_right (by omega) (by omega)))] at h1; cases h1
  have hx0 : 0 < x := by
    cases x with
    | zero => simp at h1
    | succ x => omega
  have hlow := low_bit x j hx h1 h0
  obtain ⟨p, hp⟩ : ∃ p, 2 ^ j = p := ⟨_, rfl⟩
  have hp64 : p < 18446744073709551616 := by rw [← hp]; exact Nat.pow_lt_pow_right (a := 2) (by omega) hj
  have hxz : ¬ (x : Int) = 0 := by omega
  have hxe : ((x : Int) == 0) = false := by simp; omega
  have e1 : IntKind.u64.wrap (-(x : Int)) = ((18446744073709551616 - x : Nat) : Int) := by rw [IntKind.wrap_u64]; omega
  have e2 : bits .and .u64 (x : Int) ((18446744073709551616 - x : Nat) : Int) = (p : Int) := by
    rw [bits_and_u64_nat _ _ hx (by omega), ← hp, ← hlow]
  have e3 : IntKind.u64.wrap ((p : Int) * 285870213051353865) = ((p * 285870213051353865 % 18446744073709551616 : Nat) : Int) := by rw [IntKind.wrap_u64]; omega
  obtain ⟨q, hq⟩ : ∃ q, p * 285870213051353865 % 18446744073709551616 = q := ⟨_, rfl⟩
  have hq64 : q < 18446744073709551616 := by omega
  have e4 : (q : Int) / 288230376151711744 = ((q / 288230376151711744 : Nat) : Int) := by omega
  have hi : q / 288230376151711744 < 64 := by omega
  have hc := hT (q / 288230376151711744) hi
  have ht := tab_at j hj
  rw [hp, hq] at ht
  rw [ht] at hc
  rw [hq] at e3
  obtain ⟨i, hiq⟩ : ∃ i, q / 288230376151711744 = i := ⟨_, rfl⟩
  rw [hiq] at e4 hi hc
  clear hT h1 h0 hlow hp hq ht hiq
  have i0 : (0 : Int) ≤ (i : Int) := by omega
  have i64 : (i : Int) < 64 := by omega
  have ew : IntKind.i64.wrap (j : Int) = (j : Int) := by rw [IntKind.wrap_i64]; omega
  go_enter Tryd.func110, Tryd.ntmps110
  go_wp2
  go_ret
  exact ⟨rfl, rfl⟩

set_option maxRecDepth 100000 in
theorem rot_any (U f : Nat) (w : World) (hU : U < 2 ^ 64) (hf : f < 64) : Calls Tryd.prog 111 #[.int .u64 U, .int .i64 (-(f : Int))] w fun e w' => e = .returned (.int .u64 (rotN U f)) ∧ w' = w := by
  obtain ⟨s, hs⟩ : ∃ s, (64 - f) % 64 = s := ⟨_, rfl⟩
  have hs64 : s < 64 := by omega
  obtain ⟨g, hg⟩ : ∃ g : Nat, IntKind.u64.wrap (-(f : Int)) = (g : Int) := ⟨((-(f : Int)) % 18446744073709551616).toNat, by rw [IntKind.wrap_u64]; omega⟩
  have hg2 : g < 18446744073709551616 := by rw [IntKind.wrap_u64] at hg; omega
  have hgs : g % 64 = s := by rw [IntKind.wrap_u64] at hg; omega
  have e1 := u64_and63 g hg2
  rw [hgs] at e1
  have e2 : IntKind.u64.wrap (64 - (s : Int)) = ((64 - s : Nat) : Int) := by rw [IntKind.wrap_u64]; omega
  have e3 : IntKind.u64.wrap ((U : Int) * 2 ^ s) = ((U * 2 ^ s % 2 ^ 64 : Nat) : Int) := by
    rw [IntKind.wrap_u64]
    have : (U : Int) * 2 ^ s = ((U * 2 ^ s : Nat) : Int) := by push_cast; rfl
    rw [this]
    omega
  have e4 : (U : Int) / 2 ^ (64 - s) = ((U / 2 ^ (64 - s) : Nat) : Int) := by push_cast; rfl
  have e5 : bits .or .u64 (IntKind.u64.wrap ((U : Int) * 2 ^ s)) ((U : Int) / 2 ^ (64 - s)) = ((U * 2 ^ s % 2 ^ 64 ||| U / 2 ^ (64 - s) : Nat) : Int) := by
    rw [e3, e4]
    exact bits_or_u64_nat _ _ (Nat.mod_lt _ (by decide)) (Nat.lt_of_le_of_lt (Nat.div_le_self _ _) hU)
  have HE := Lib.hid e5
  unfold rotN
  rw [hs]
  clear hgs hs e3 e4 e5
  go_enter Tryd.func111, Tryd.ntmps111
  go_wp2
  rw [HE.out]
  go_ret
  exact ⟨rfl, rfl⟩

set_option maxRecDepth 100000 in
theorem next_none {r b c : Nat} {V : Nat → Value} {M : Int → Option (Nat × Nat)} {L : Nat → Nat} (k : Int) (w : World) (h : Rg w r b c V M) (hL : ∀ k, k < 64 → ∃ a c, V k = .slice a (L k) c) (hs : ∀ k, L k < 1000000000000) (h0 : ∀ k, k < 64 → L k = 0) :
    Calls Tryd.prog 67 #[.pointer (some ⟨r, 0, none⟩), .int .i64 k] w fun e w' => e = .returned (.tuple #[.int .i64 0, .int .i64 0, .bool false]) ∧ w' = w := by
  have hu := usedP hatU rfl w h.slot hL hs (fun w1 e => by subst e; exact created_yes r b _ h.map)
  have e64 : bitsN L 64 = 0 := by
    apply Nat.eq_of_testBit_eq
    intro i
    rw [bitsN_bit, Nat.zero_testBit]
    by_cases hi : i < 64
    · simp [h0 i hi]
    · simp [hi]
  rw [e64] at hu
  clear h hL
  go_enter Tryd.func67, Tryd.ntmps67
  go_wp2_with (go_at_call 25; refine hu.mono ?_; rintro e w1 ⟨rfl, rfl⟩)
  go_ret3
  exact ⟨rfl, rfl⟩

set_option maxRecDepth 100000 in
theorem next_some {r b c : Nat} {V : Nat → Value} {M : Int → Option (Nat × Nat)} {L : Nat → Nat} (k : Int) (j : Nat) (w : World) (hT : Tab w) (h : Rg w r b c V M) (hL : ∀ k, k < 64 → ∃ a c, V k = .slice a (L k) c) (hs : ∀ k, L k < 1000000000000) (hj : j < 64) (h1 : 0 < L (((k % 64).toNat + j) % 64)) (h0 : ∀ i, i < j → L (((k % 64).toNat + i) % 64) = 0) :
    Calls Tryd.prog 67 #[.pointer (some ⟨r, 0, none⟩), .int .i64 k] w fun e w' => e = .returned (.tuple #[.int .i64 ((((k % 64).toNat + j) % 64 : Nat) : Int), .int .i64 j, .bool true]) ∧ w' = w := by
  have hu := usedP hatU rfl w h.slot hL hs (fun w1 e => by subst e; exact created_yes r b _ h.map)
  obtain ⟨f, hf⟩ : ∃ f, (k % 64).toNat = f := ⟨_, rfl⟩
  have hf64 : f < 64 := by omega
  have ea : bits .and .i64 k 63 = (f : Int) := by rw [i64_and63]; omega
  rw [hf] at h1 h0
  rw [hf]
  have hU : bitsN L 64 < 2 ^ 64 := bitsN_lt L 64
  have hbit := bitsN_bit L 64
  have hr := rot_any (bitsN L 64) f w hU hf64
  have ht := tz_any (rotN (bitsN L 64) f) j w hT (rotN_lt _ _ hU) (by rw [rotN_bit _ _ _ hU hf64 hj, hbit]; simp [h1]; omega) (fun i hi => by rw [rotN_bit _ _ _ hU hf64 (by omega), hbit]; simp [h0 i hi])
  have hU0 : ¬ bitsN L 64 = 0 := fun e => by
    have := hbit ((f + j) % 64)
    rw [e, Nat.zero_testBit] at this
    simp [h1] at this
    omega
  obtain ⟨U, hUe⟩ : ∃ U, bitsN L 64 = U := ⟨_, rfl⟩
  rw [hUe] at hu hr ht hU0
  obtain ⟨R, hRe⟩ : ∃ R, rotN U f = R := ⟨_, rfl⟩
  rw [hRe] at hr ht
  have hU1 : ¬ (U : Int) = 0 := by omega
  have hU2 : ((U : Int) == 0) = false := by simp; omega
  have e2 : IntKind.i64.wrap (-(f : Int)) = -(f : Int) := by rw [IntKind.wrap_i64]; omega
  have e3 : IntKind.i64.wrap ((f : Int) + (j : Int)) = ((f + j : Nat) : Int) := by rw [IntKind.wrap_i64]; omega
  have e4 : ((f + j : Nat) : Int).tmod 64 = (((f + j) % 64 : Nat) : Int) := by rw [Int.tmod_eq_emod_of_nonneg (by omega)]; omega
  have e5 : IntKind.i64.wrap (((f + j) % 64 : Nat) : Int) = (((f + j) % 64 : Nat) : Int) := by rw [IntKind.wrap_i64]; omega
  obtain ⟨q, hq⟩ : ∃ q, (f + j) % 64 = q := ⟨_, rfl⟩
  have e6 : Hid (((f : Int) + (j : Int)) % 64 = (q : Int)) := Lib.hid (by omega)
  rw [hq] at e4 e5 ⊢
  clear h hT hL hbit hUe hRe hU hq h1 h0 hf
  go_enter Tryd.func67, Tryd.ntmps67
  go_wp2_with (first
    | (go_at_call 25; with_reducible refine hu.mono ?_; rintro e w1 ⟨rfl, rfl⟩)
    | (go_at_call 111; with_reducible refine hr.mono ?_; rintro e w1 ⟨rfl, rfl⟩)
    | (go_at_call 110; with_reducible refine ht.mono ?_; rintro e w1 ⟨rfl, rfl⟩))
  go_ret3
  exact ⟨show Ending.returned (.tuple #[.int .i64 (((f : Int) + (j : Int)) % 64), .int .i64 j, .bool true]) = _ from by rw [e6.out], rfl⟩
end Go.Proofs.YtfclmbneimbmnaaDoor

/- The wheel's arithmetic: instants, levels, slots. -/
import Derived.Test.YtfclmbneimbmnaaDoorRiG
import Derived.Laws.MathBits
import Derived.Lib.Tables
import Derived.Lib.MinMax
import Derived.BigQuiet
import Derived.Deep.QuietTactic
namespace Go.Proofs.YtfclmbneimbmnaaDoor
open Go.RowKit

theorem xor_div (a b m : Nat) : (a ^^^ b) / 2 ^ m = (a / 2 ^ m) ^^^ (b / 2 ^ m) := by
  apply Nat.eq_of_testBit_eq
  intro i
  simp [Nat.testBit_xor, Nat.testBit_div_two_pow]
theorem xor_lt (a b m : Nat) : a ^^^ b < 2 ^ m ↔ a / 2 ^ m = b / 2 ^ m := by
  have h : a ^^^ b < 2 ^ m ↔ (a ^^^ b) / 2 ^ m = 0 := by
    rw [Nat.div_eq_zero_iff]
    have := Nat.two_pow_pos m
    omega
  rw [h, xor_div]
  constructor
  · intro e
    apply Nat.eq_of_testBit_eq
    intro i
    have := congrArg (fun x => x.testBit i) e
    simp [Nat.testBit_xor] at this
    simpa [Nat.testBit_div_two_pow] using this
  · intro e
    rw [e, Nat.xor_self]

/-- The ring in which an instant b waits at a; 4: beyond. -/
def lvN (a b : Nat) : Nat := if b ≤ a then 4 else min ((bitLen (b ^^^ a) - 1) / 6) 4
/-- Its slot in a ring. -/
def slN (k t : Nat) : Nat := t / 2 ^ (6 * k) % 64
theorem bitLen_le_iff (x m : Nat) : bitLen x ≤ m ↔ x < 2 ^ m := by
  have hs := bitLen_spec x
  constructor
  · intro h
    exact Nat.lt_of_lt_of_le hs.1 (Nat.pow_le_pow_right (by omega) h)
  · intro h
    by_cases h0 : x = 0
    · subst h0; simp [bitLen]
    · have h1 := hs.2 h0
      have : 2 ^ (bitLen x - 1) < 2 ^ m := Nat.lt_of_le_of_lt h1 h
      have := (Nat.pow_lt_pow_iff_right (a := 2) (by omega)).1 this
      omega
theorem lvN_le (a b k : Nat) (hk : k < 4) (hab : a < b) : lvN a b ≤ k ↔ b / 2 ^ (6 * (k + 1)) = a / 2 ^ (6 * (k + 1)) := by
  unfold lvN
  rw [if_neg (by omega), ← xor_lt]
  rw [← bitLen_le_iff]
  omega
theorem lvN_late (a b : Nat) (h : b ≤ a) : lvN a b = 4 := by unfold lvN; rw [if_pos h]
theorem lvN_max (a b : Nat) : lvN a b ≤ 4 := by unfold lvN; split <;> omega
theorem slN_lt (k t : Nat) : slN k t < 64 := Nat.mod_lt _ (by omega)

theorem ret_intW {k : IntKind} {a b : Int} (h : a = b) : Ending.returned (.int k a) = Ending.returned (.int k b) := by rw [h]
theorem tab_getW (b : Nat) (h : b < Lib.len8tab.size) : (Lib.len8tab[b]'h).toNat = bitLen b := by
  have all : ∀ j : Fin 256, Lib.len8 ((j.val : Nat) : Int) = ((bitLen j.val : Nat) : Int) := by decide +kernel
  have h2 : b < 256 := by rw [← Lib.len8tab_size]; exact h
  have e := all ⟨b, h2⟩
  simp only [Lib.len8, Int.toNat_natCast, ByteArray.getElem?_lt' _ _ h, Option.getD_some] at e
  omega
theorem tab_wayW (s n m : Nat) (e : n / 2 ^ s = m) (h0 : m ≠ 0) (h : m < 256) (hs : s ≤ 56) : wrap64 ((s : Int) + wrap64 ((bitLen m : Nat) : Int)) = ((bitLen n : Nat) : Int) := by
  subst e
  have h8 := bitLen_le8 _ h
  rw [bitLen_shift n s h0]
  have e1 : wrap64 ((bitLen (n / 2 ^ s) : Nat) : Int) = ((bitLen (n / 2 ^ s) : Nat) : Int) := IntWalk.wrap64_in _ ⟨by omega, by omega⟩
  rw [e1]
  exact (IntWalk.wrap64_in _ ⟨by omega, by omega⟩).trans (by omega)

set_option maxRecDepth 100000 in
set_option maxHeartbeats 4000000 in
theorem len64W (x : Int) (w : World) (h0 : 0 ≤ x) (h1 : x ≤ 18446744073709551615) :
    Calls Tryd.prog 130 #[.int .u64 x] w fun e w' => e = .returned (.int .i64 ((bitLen x.toNat : Nat) : Int)) ∧ w' = w := by
  go_enter Tryd.func130, Tryd.ntmps130
  generalize htab : ({ data := _ } : ByteArray) = tab
  have e : tab = Lib.len8tab := htab.symm.trans (by kernel_rfl)
  have hsz : tab.size = 256 := by rw [e]; exact Lib.len8tab_size
  have hg : ∀ (b : Nat) (h : b < tab.size), (tab[b]'h).toNat = bitLen b := by subst e; exact tab_getW
  have HG := Lib.hid hg
  clear htab e hg
  go_wp2
  all_goals (go_ret; refine ⟨ret_intW ?_, rfl⟩)
  all_goals rw [HG.out]
  all_goals first
    | exact tab_wayW 56 x.toNat _ (by omega) (by omega) (by omega) (by omega)
    | exact tab_wayW 48 x.toNat _ (by omega) (by omega) (by omega) (by omega)
    | exact tab_wayW 40 x.toNat _ (by omega) (by omega) (by omega) (by omega)
    | exact tab_wayW 32 x.toNat _ (by omega) (by omega) (by omega) (by omega)
    | exact tab_wayW 24 x.toNat _ (by omega) (by omega) (by omega) (by omega)
    | exact tab_wayW 16 x.toNat _ (by omega) (by omega) (by omega) (by omega)
    | exact tab_wayW 8 x.toNat _ (by omega) (by omega) (by omega) (by omega)
    | (have h8 := bitLen_le8 x.toNat (by omega)
       have e1 : wrap64 ((bitLen x.toNat : Nat) : Int) = ((bitLen x.toNat : Nat) : Int) := IntWalk.wrap64_in _ ⟨by omega, by omega⟩
       rw [e1, e1])

/-- What an instant is. -/
def InsB (t : Int) : Bool := decide (0 ≤ t ∧ t ≤ 1125899906842624)
set_option maxRecDepth 100000 in
theorem add_zero_any (t : Int) (w : World) (ht : -9223372036854775808 ≤ t ∧ t ≤ 9223372036854775807) : Calls Tryd.prog 116 #[.int .i64 t, .int .i64 0] w fun e w' => (∃ x, e = .returned (.tuple #[.int .i64 x, .int .i64 (if InsB t then 0 else 2)])) ∧ w' = w := by
  unfold InsB
  by_cases h1 : t < 0
  · rw [decide_eq_false (by omega)]
    go_enter Tryd.func116, Tryd.ntmps116
    go_wp2
    go_ret2
    exact ⟨⟨_, rfl⟩, rfl⟩
  · by_cases h2 : 1125899906842624 < t
    · rw [decide_eq_false (by omega)]
      go_enter Tryd.func116, Tryd.ntmps116
      go_wp2
      go_ret2
      exact ⟨⟨_, rfl⟩, rfl⟩
    · rw [decide_eq_true (by omega)]
      have e1 : IntKind.i64.wrap (-t) = -t := by rw [IntKind.wrap_i64]; omega
      have e2 : IntKind.i64.wrap (1125899906842624 - t) = 1125899906842624 - t := by rw [IntKind.wrap_i64]; omega
      have h3 : ¬ (0 : Int) < -t := by omega
      have h4 : ¬ (1125899906842624 - t) < 0 := by omega
      go_enter Tryd.func116, Tryd.ntmps116
      go_wp2
      go_ret2
      exact ⟨⟨_, rfl⟩, rfl⟩
set_option maxRecDepth 100000 in
theorem winstant (t : Int) (w : World) (ht : -9223372036854775808 ≤ t ∧ t ≤ 9223372036854775807) : Calls Tryd.prog 78 #[.int .i64 t] w fun e w' => e = .returned (.bool (InsB t)) ∧ w' = w := by
  have ha := add_zero_any t w ht
  cases h : InsB t
  · rw [h] at ha
    simp only [Bool.false_eq_true, if_false] at ha
    go_enter Tryd.func78, Tryd.ntmps78
    go_wp2_with (go_at_call 116; (with_reducible refine ha.mono ?_); rintro e w1 ⟨⟨x, rfl⟩, rfl⟩)
    go_ret
    exact ⟨rfl, rfl⟩
  · rw [h] at ha
    simp only [if_true] at ha
    go_enter Tryd.func78, Tryd.ntmps78
    go_wp2_with (go_at_call 116; (with_reducible refine ha.mono ?_); rintro e w1 ⟨⟨x, rfl⟩, rfl⟩)
    go_ret
    exact ⟨rfl, rfl⟩

theorem xor_i64_nat (a b : Nat) (ha : a < 9223372036854775808) (hb : b < 9223372036854775808) : bits .xor .i64 (a : Int) (b : Int) = ((a ^^^ b : Nat) : Int) := by
  have hx : a ^^^ b < 2 ^ 63 := Nat.xor_lt_two_pow (by omega) (by omega)
  have h1 : (BitVec.ofInt 64 (a : Int)).toNat = a := by
    rw [BitVec.ofInt_natCast, BitVec.toNat_ofNat]; exact Nat.mod_eq_of_lt (by omega)
  have h2 : (BitVec.ofInt 64 (b : Int)).toNat = b := by
    rw [BitVec.ofInt_natCast, BitVec.toNat_ofNat]; exact Nat.mod_eq_of_lt (by omega)
  show IntKind.i64.wrap ((BitVec.ofInt 64 (a : Int) ^^^ BitVec.ofInt 64 (b : Int)).toNat : Int) = _
  rw [BitVec.toNat_xor, h1, h2, IntKind.wrap_i64]
  omega

set_option maxRecDepth 100000 in
set_option maxHeartbeats 4000000 in
theorem level_any (a b : Nat) (w : World) (ha : a ≤ 1125899906842624) (hb : b ≤ 1125899906842624) : Calls Tryd.prog 117 #[.int .i64 a, .int .i64 b] w fun e w' => e = .returned (.int .i64 ((lvN a b : Nat) : Int)) ∧ w' = w := by
  unfold lvN
  by_cases h : b ≤ a
  · rw [if_pos h]
    have hz : (b : Int) ≤ (a : Int) := by omega
    go_enter Tryd.func117, Tryd.ntmps117
    go_wp2
    go_ret
    exact ⟨rfl, rfl⟩
  · rw [if_neg h]
    have hz : ¬ (b : Int) ≤ (a : Int) := by omega
    have e1 := xor_i64_nat b a (by omega) (by omega)
    have hx : b ^^^ a < 2 ^ 51 := Nat.xor_lt_two_pow (by omega) (by omega)
    obtain ⟨x, hxe⟩ : ∃ x, b ^^^ a = x := ⟨_, rfl⟩
    rw [hxe] at e1 hx ⊢
    have e2 : IntKind.u64.wrap (x : Int) = (x : Int) := by rw [IntKind.wrap_u64]; omega
    have hl := len64W (x : Int) w (by omega) (by omega)
    rw [Int.toNat_natCast] at hl
    have hb1 : 0 < bitLen x := by
      have h1 : ¬ bitLen x ≤ 0 := fun h0 => by
        have := (bitLen_le_iff x 0).1 h0
        have h2 : x = 0 := by omega
        rw [h2] at hxe
        have h3 : b = a := by
          apply Nat.eq_of_testBit_eq
          intro i
          have := congrArg (fun y => y.testBit i) hxe
          simpa [Nat.testBit_xor] using this
        omega
      omega
    have hb2 : bitLen x ≤ 51 := (bitLen_le_iff x 51).2 hx
    obtain ⟨l, hle⟩ : ∃ l, bitLen x = l := ⟨_, rfl⟩
    rw [hle] at hl hb1 hb2 ⊢
    have e3 : IntKind.i64.wrap ((l : Int) - 1) = ((l - 1 : Nat) : Int) := by rw [IntKind.wrap_i64]; omega
    have e4 : ((l - 1 : Nat) : Int).tdiv 6 = (((l - 1) / 6 : Nat) : Int) := by rw [Int.tdiv_eq_ediv_of_nonneg (by omega)]; omega
    have e5 : IntKind.i64.wrap (((l - 1) / 6 : Nat) : Int) = (((l - 1) / 6 : Nat) : Int) := by rw [IntKind.wrap_i64]; omega
    clear hxe hle
    go_enter Tryd.func117, Tryd.ntmps117
    go_wp2_with (go_at_call 130; (with_reducible refine hl.mono ?_); rintro e w1 ⟨rfl, rfl⟩)
    go_ret
    exact ⟨ret_intW (by omega), rfl⟩

set_option maxRecDepth 100000 in
theorem slotOf_any (k t : Nat) (w : World) (hk : k < 4) (ht : t ≤ 1125899906842624) : Calls Tryd.prog 118 #[.int .i64 k, .int .i64 t] w fun e w' => e = .returned (.int .i64 ((slN k t : Nat) : Int)) ∧ w' = w := by
  unfold slN
  obtain ⟨s, hs⟩ : ∃ s, 6 * k = s := ⟨_, rfl⟩
  have hs24 : s < 24 := by omega
  have e1 : IntKind.i64.wrap (6 * (k : Int)) = (s : Int) := by rw [IntKind.wrap_i64]; omega
  have e2 : (t : Int) / 2 ^ s = ((t / 2 ^ s : Nat) : Int) := by push_cast; rfl
  have hq : t / 2 ^ s ≤ t := Nat.div_le_self _ _
  obtain ⟨q, hqe⟩ : ∃ q, t / 2 ^ s = q := ⟨_, rfl⟩
  rw [hqe] at e2 hq
  have e3 : (q : Int).tmod 64 = ((q % 64 : Nat) : Int) := by rw [Int.tmod_eq_emod_of_nonneg (by omega)]; omega
  have e4 : IntKind.i64.wrap ((q % 64 : Nat) : Int) = ((q % 64 : Nat) : Int) := by rw [IntKind.wrap_i64]; omega
  have h0 : (0 : Int) ≤ (s : Int) := by omega
  have HS := Lib.hid (And.intro hs hqe)
  have hfin : Hid (t / 2 ^ (6 * k) % 64 = q % 64) := by rw [hs, hqe]; exact Lib.hid rfl
  rw [hfin.out]
  clear hs hqe
  go_enter Tryd.func118, Tryd.ntmps118
  go_wp2
  go_ret
  exact ⟨ret_intW (by omega), rfl⟩

set_option maxRecDepth 100000 in
set_option maxHeartbeats 4000000 in
theorem passed_any (k a b : Nat) (w : World) (hk : k < 4) (ha : a ≤ 1125899906842624) (hb : b ≤ 1125899906842624) : Calls Tryd.prog 87 #[.int .i64 k, .int .i64 a, .int .i64 b] w fun e w' => e = .returned (.int .i64 (((if a / 2 ^ (6 * (k + 1)) = b / 2 ^ (6 * (k + 1)) then slN k b else 63) : Nat) : Int)) ∧ ∃ q, w' = w.drewN q := by
  have hso := fun w => slotOf_any k b w hk hb
  obtain ⟨s, hs⟩ : ∃ s, 6 * (k + 1) = s := ⟨_, rfl⟩
  have hs30 : s < 30 := by omega
  have e0 : IntKind.i64.wrap ((k : Int) + 1) = ((k + 1 : Nat) : Int) := by rw [IntKind.wrap_i64]; omega
  have e1 : IntKind.i64.wrap (6 * ((k : Int) + 1)) = (s : Int) := by rw [IntKind.wrap_i64]; omega
  have e1b : IntKind.i64.wrap (6 * ((k + 1 : Nat) : Int)) = (s : Int) := by rw [IntKind.wrap_i64]; omega
  have e2 : (a : Int) / 2 ^ s = ((a / 2 ^ s : Nat) : Int) := by push_cast; rfl
  have e3 : (b : Int) / 2 ^ s = ((b / 2 ^ s : Nat) : Int) := by push_cast; rfl
  rw [hs]
  obtain ⟨x, hx⟩ : ∃ q, a / 2 ^ s = q := ⟨_, rfl⟩
  obtain ⟨y, hy⟩ : ∃ q, b / 2 ^ s = q := ⟨_, rfl⟩
  rw [hx] at e2 ⊢
  rw [hy] at e3 ⊢
  have h0 : (0 : Int) ≤ (s : Int) := by omega
  clear hs hx hy
  by_cases h : x = y
  · subst h
    rw [if_pos rfl]
    go_enter Tryd.func87, Tryd.ntmps87
    go_wp2
    go_quiet (fail)
    go_wp2_with (go_at_call 118; (with_reducible refine (hso _).mono ?_); rintro e w1 ⟨rfl, rfl⟩)
    go_ret
    exact ⟨rfl, _, rfl⟩
  · rw [if_neg h]
    have hxy : ¬ (x : Int) = (y : Int) := by omega
    go_enter Tryd.func87, Tryd.ntmps87
    go_wp2
    go_quiet (fail)
    go_wp2
    go_ret
    exact ⟨rfl, _, rfl⟩
end Go.Proofs.YtfclmbneimbmnaaDoor

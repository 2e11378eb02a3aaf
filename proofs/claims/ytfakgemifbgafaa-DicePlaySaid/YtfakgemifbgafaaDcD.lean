/- Dice: Below, Between, Chance. -/
import Derived.Test.YtfakgemifbgafaaDcC
namespace Go.Proofs.Ytfakgemifbgafaa
open Go.RowKit

theorem tab_get (b : Nat) (h : b < Lib.len8tab.size) : (Lib.len8tab[b]'h).toNat = bitLen b := by
  have all : ∀ j : Fin 256, Lib.len8 ((j.val : Nat) : Int) = ((bitLen j.val : Nat) : Int) := by decide +kernel
  have h2 : b < 256 := by rw [← Lib.len8tab_size]; exact h
  have e := all ⟨b, h2⟩
  simp only [Lib.len8, Int.toNat_natCast, ByteArray.getElem?_lt' _ _ h, Option.getD_some] at e
  omega
theorem tab_way (s n m : Nat) (e : n / 2 ^ s = m) (h0 : m ≠ 0) (h : m < 256) (hs : s ≤ 56) : wrap64 ((s : Int) + wrap64 ((bitLen m : Nat) : Int)) = ((bitLen n : Nat) : Int) := by
  subst e
  have h8 := bitLen_le8 _ h
  rw [bitLen_shift n s h0]
  have e1 : wrap64 ((bitLen (n / 2 ^ s) : Nat) : Int) = ((bitLen (n / 2 ^ s) : Nat) : Int) := IntWalk.wrap64_in _ ⟨by omega, by omega⟩
  rw [e1]
  exact (IntWalk.wrap64_in _ ⟨by omega, by omega⟩).trans (by omega)

set_option maxRecDepth 100000 in
set_option maxHeartbeats 4000000 in
theorem len64_int (x : Int) (w : World) (h0 : 0 ≤ x) (h1 : x ≤ 18446744073709551615) :
    Calls Try.prog 74 #[.int .u64 x] w fun e w' => e = .returned (.int .i64 ((bitLen x.toNat : Nat) : Int)) ∧ w = w' := by
  go_enter Try.func74, Try.ntmps74
  generalize htab : ({ data := _ } : ByteArray) = tab
  have e : tab = Lib.len8tab := htab.symm.trans (by kernel_rfl)
  have hsz : tab.size = 256 := by rw [e]; exact Lib.len8tab_size
  have hg : ∀ (b : Nat) (h : b < tab.size), (tab[b]'h).toNat = bitLen b := by subst e; exact tab_get
  have HG := Lib.hid hg
  clear htab e hg
  go_wp2
  all_goals (go_ret; refine ⟨ret_int ?_, rfl⟩)
  all_goals rw [HG.out]
  all_goals first
    | exact tab_way 56 x.toNat _ (by omega) (by omega) (by omega) (by omega)
    | exact tab_way 48 x.toNat _ (by omega) (by omega) (by omega) (by omega)
    | exact tab_way 40 x.toNat _ (by omega) (by omega) (by omega) (by omega)
    | exact tab_way 32 x.toNat _ (by omega) (by omega) (by omega) (by omega)
    | exact tab_way 24 x.toNat _ (by omega) (by omega) (by omega) (by omega)
    | exact tab_way 16 x.toNat _ (by omega) (by omega) (by omega) (by omega)
    | exact tab_way 8 x.toNat _ (by omega) (by omega) (by omega) (by omega)
    | (have h8 := bitLen_le8 x.toNat (by omega)
       have e1 : wrap64 ((bitLen x.toNat : Nat) : Int) = ((bitLen x.toNat : Nat) : Int) := IntWalk.wrap64_in _ ⟨by omega, by omega⟩
       rw [e1, e1])

/-- Below, over the call of Len64 and of number. -/
theorem below_any {X : Nat → Prop} (b n : Nat) (ds : List Nat) (w : World) (D : Dic X b ds w) (hn : n < 18446744073709551616) : Calls Try.prog 44 #[.pointer (some ⟨b, 0, none⟩), .int .u64 (n : Int)] w (Drawn X b ((below n ds).1 : Nat) (below n ds).2 w) := by
  unfold below
  by_cases h : n < 2
  · rw [if_pos h]
    have d1 : decide ((n : Int) < 2) = true := by simp; omega
    have d2 : decide (n < 2) = true := by simp [h]
    have fin : Drawn X b ((0 : Nat) : Int) ds w (.returned (.int .u64 0)) w := ⟨rfl, D, Only.refl _ _⟩
    clear D
    go_enter Try.func44, Try.ntmps44
    go_wp2_with fail
    go_ret
    exact fin
  · rw [if_neg h]
    obtain ⟨m, rfl⟩ : ∃ m, n = m + 1 := ⟨n - 1, by omega⟩
    rw [Nat.add_sub_cancel]
    have d1 : decide (((m + 1 : Nat) : Int) < 2) = false := by simp; omega
    have d2 : decide (m + 1 < 2) = false := by simp; omega
    have e1 : IntKind.u64.wrap (((m + 1 : Nat) : Int) - 1) = (m : Int) := by rw [IntKind.wrap_u64]; omega
    have hL := len64_int (m : Int) w (by omega) (by omega)
    rw [Int.toNat_natCast] at hL
    have hs8 := sz_le m (by omega)
    have hN := number_any b (sz m) ds w D hs8
    have hb := bitLen_le m (by omega)
    have hsz : (((bitLen m : Nat) : Int) + 7) / 8 = ((sz m : Nat) : Int) := by unfold sz; omega
    obtain ⟨l, hl⟩ : ∃ l, bitLen m = l := ⟨_, rfl⟩
    obtain ⟨s, hs⟩ : ∃ s, sz m = s := ⟨_, rfl⟩
    obtain ⟨v, hv⟩ : ∃ v, lo (ds.take (sz m)) = v := ⟨_, rfl⟩
    rw [hl] at hL hb hsz
    rw [hv, hs] at hN
    rw [hv, hs]
    rw [hs] at hsz
    have hw : Hid (((v : Int) % ((m + 1 : Nat) : Int)) = ((v % (m + 1) : Nat) : Int)) := Lib.hid (by omega)
    clear hl hs hv D
    go_enter Try.func44, Try.ntmps44
    have l0 : (0 : Int) ≤ (l : Int) := by omega
    have l1 : (l : Int) ≤ 64 := by omega
    go_wp2_with fail
    refine hL.mono ?_
    rintro e w' ⟨rfl, rfl⟩
    go_wp2_with fail
    refine hN.mono ?_
    rintro e w2 ⟨rfl, D2, O2⟩
    go_wp2_with fail
    go_ret
    exact ⟨rfl, D2, O2⟩

theorem chance_any {X : Nat → Prop} (b n : Nat) (k : Int) (ds : List Nat) (w : World) (D : Dic X b ds w) (hn : n < 18446744073709551616) : Calls Try.prog 36 #[.pointer (some ⟨b, 0, none⟩), .int .u64 k, .int .u64 (n : Int)] w fun e w' => e = .returned (.bool (decide (((below n ds).1 : Int) < k))) ∧ Dic X b (below n ds).2 w' ∧ Only (· = b) w w' := by
  have hB := below_any b n ds w D hn
  obtain ⟨r, hr⟩ : ∃ r, below n ds = r := ⟨_, rfl⟩
  rw [hr] at hB ⊢
  clear hr D
  go_enter Try.func36, Try.ntmps36
  go_wp2_with fail
  refine hB.mono ?_
  rintro e w2 ⟨rfl, D2, O2⟩
  go_wp2_with fail
  go_ret
  exact ⟨rfl, D2, O2⟩

theorem wrap_add (a b : Int) : wrap64 (a + wrap64 b) = wrap64 (a + b) := by unfold wrap64; omega
/-- A number from low to high. -/
def Drawn64 (X : Nat → Prop) (b : Nat) (n : Int) (es : List Nat) (w : World) (e : Ending) (w' : World) : Prop := e = .returned (.int .i64 n) ∧ Dic X b es w' ∧ Only (· = b) w w'
theorem between_low {X : Nat → Prop} (b : Nat) (low high : Int) (ds : List Nat) (w : World) (D : Dic X b ds w) (h : high < low) : Calls Try.prog 34 #[.pointer (some ⟨b, 0, none⟩), .int .i64 low, .int .i64 high] w (Drawn64 X b low ds w) := by
  have d1 : decide (high < low) = true := by simp [h]
  have fin : Drawn64 X b low ds w (.returned (.int .i64 low)) w := ⟨rfl, D, Only.refl _ _⟩
  clear D
  go_enter Try.func34, Try.ntmps34
  go_wp2_with fail
  go_ret
  exact fin
theorem between_all {X : Nat → Prop} (b : Nat) (low high : Int) (ds : List Nat) (w : World) (D : Dic X b ds w) (h : high - low = 18446744073709551615) : Calls Try.prog 34 #[.pointer (some ⟨b, 0, none⟩), .int .i64 low, .int .i64 high] w (Drawn64 X b (wrap64 (low + (lo (ds.take 8) : Nat))) (ds.drop 8) w) := by
  have d1 : decide (high < low) = false := by simp; omega
  obtain ⟨a, ha⟩ : ∃ a, IntKind.u64.wrap high = a := ⟨_, rfl⟩
  obtain ⟨c, hc⟩ : ∃ c, IntKind.u64.wrap low = c := ⟨_, rfl⟩
  obtain ⟨d, hd⟩ : ∃ d, IntKind.u64.wrap (a - c) = d := ⟨_, rfl⟩
  have he : IntKind.u64.wrap (d + 1) = 0 := by rw [← hd, ← ha, ← hc]; simp only [IntKind.wrap_u64]; omega
  have hN := number_any b 8 ds w D (by omega)
  obtain ⟨v, hv⟩ : ∃ v, lo (ds.take 8) = v := ⟨_, rfl⟩
  rw [hv] at hN ⊢
  clear hv D h
  go_enter Try.func34, Try.ntmps34
  go_wp2_with fail
  refine hN.mono ?_
  rintro e w2 ⟨rfl, D2, O2⟩
  go_wp2_with fail
  go_ret
  exact ⟨ret_int (wrap_add _ _), D2, O2⟩
theorem between_some {X : Nat → Prop} (b N : Nat) (low high : Int) (ds : List Nat) (w : World) (D : Dic X b ds w) (h : high - low + 1 = (N : Int)) (h0 : 0 < N) (h1 : N < 18446744073709551616) : Calls Try.prog 34 #[.pointer (some ⟨b, 0, none⟩), .int .i64 low, .int .i64 high] w (Drawn64 X b (wrap64 (low + ((below N ds).1 : Nat))) (below N ds).2 w) := by
  have d1 : decide (high < low) = false := by simp; omega
  obtain ⟨a, ha⟩ : ∃ a, IntKind.u64.wrap high = a := ⟨_, rfl⟩
  obtain ⟨c, hc⟩ : ∃ c, IntKind.u64.wrap low = c := ⟨_, rfl⟩
  obtain ⟨d, hd⟩ : ∃ d, IntKind.u64.wrap (a - c) = d := ⟨_, rfl⟩
  have he : IntKind.u64.wrap (d + 1) = (N : Int) := by rw [← hd, ← ha, ← hc]; simp only [IntKind.wrap_u64]; omega
  have hz : ((N : Int) == 0) = false := by rw [beq_eq_false_iff_ne]; omega
  have hz' : decide ((N : Int) = 0) = false := decide_eq_false (by omega)
  have hN := below_any b N ds w D h1
  obtain ⟨r, hr⟩ : ∃ r, below N ds = r := ⟨_, rfl⟩
  rw [hr] at hN ⊢
  clear hr D h
  go_enter Try.func34, Try.ntmps34
  go_wp2_with fail
  refine hN.mono ?_
  rintro e w2 ⟨rfl, D2, O2⟩
  go_wp2_with fail
  go_ret
  exact ⟨ret_int (wrap_add _ _), D2, O2⟩
theorem between_any {X : Nat → Prop} (b : Nat) (low high : Int) (ds : List Nat) (w : World) (D : Dic X b ds w) (l0 : -9223372036854775808 ≤ low) (h1 : high ≤ 9223372036854775807) : Calls Try.prog 34 #[.pointer (some ⟨b, 0, none⟩), .int .i64 low, .int .i64 high] w (Drawn64 X b (between low high ds).1 (between low high ds).2 w) := by
  unfold between
  by_cases h : high < low
  · rw [if_pos h]; exact between_low b low high ds w D h
  · rw [if_neg h]
    by_cases h' : high - low = 18446744073709551615
    · rw [if_pos h']; exact between_all b low high ds w D h'
    · rw [if_neg h']; exact between_some b ((high - low).toNat + 1) low high ds w D (by omega) (by omega) (by omega)
end Go.Proofs.Ytfakgemifbgafaa

/- Walks of quill: a number's bytes behind what was written. -/
import Derived.Test.YtnhaakdjijjinaaQuB
namespace Go.Proofs.Ytnhaakdjijjinaa
open Go.RowKit

theorem rb_lit1 (w : World) (b : Nat) (y : Int) (x : Nat) (hb : b = w.heap.size) (hy : y = (x : Int)) (hx : x < 256) :
    RB (w.alloc (.cells #[.int .u8 y] 5)) (.slice (some ⟨b, 0, none⟩) 1 1) [x] := by
  subst hb
  subst hy
  refine ⟨?_, by simp, .inr ⟨_, _, rfl, by simp, by simp [maxLen], ?_⟩⟩
  · intro c hc
    simp at hc
    omega
  · intro i hi
    obtain rfl : i = 0 := by simp at hi; omega
    rw [add_at]; simp
theorem shiftN (x b : Nat) : (x : Int) / 2 ^ b = ((x / 2 ^ b : Nat) : Int) := by rw [Int.natCast_ediv, Int.natCast_pow]; rfl
theorem OB.alloc {w : World} {base : Nat} {v : Value} {bs : List Nat} (h : OB w base v bs) (o : Obj) : OB (w.alloc o) base v bs := World.ownsRow.alloc h o
theorem take_succ_getD' (l : List Nat) (k : Nat) (h : k < l.length) : l.take (k + 1) = l.take k ++ [l.getD k 0] := by
  rw [List.take_succ_eq_append_getElem h]; simp [h]
/-- A slice of the call's own comes back longer; nothing below the base has turned. -/
def Grew (base : Nat) (w : World) (bs : List Nat) (e : Ending) (w' : World) : Prop := ∃ v', e = .returned v' ∧ OB w' base v' bs ∧ Below base w w'

set_option maxHeartbeats 1000000 in
theorem number_any (v : Value) (bs : List Nat) (s n base : Nat) (w : World) (ho : OB w base v bs) (hbase : base ≤ w.heap.size) (hl : bs.length ≤ 10000000) (hs : s ≤ 128) (hn : n < 18446744073709551616) :
    Calls Try.prog 80 #[v, .int .u8 (s : Int), .int .u64 (n : Int)] w (Grew base w (bs ++ num s n)) := by
  have hlen := len64_any n w hn
  have hz8 := sz_le n hn
  have hL := bitLen_le n hn
  have hnum : num s n = (s + sz n) :: enc (sz n) n := rfl
  have hget : ∀ k r, k + 1 + r = sz n → (enc (sz n) n).getD k 0 = n / 2 ^ (8 * r) % 256 := fun k r h => enc_get _ n k r h
  have hel := enc_len (sz n) n
  obtain ⟨z, hz⟩ : ∃ z, sz n = z := ⟨_, rfl⟩
  obtain ⟨L, hLL⟩ : ∃ L, bitLen n = L := ⟨_, rfl⟩
  have hzz : ((L : Int) + 7) / 8 = (z : Int) := by unfold sz at hz; omega
  rw [hz] at hz8 hnum hget hel
  rw [hLL] at hlen hL
  rw [hnum]
  have HL := Lib.hid hlen
  have HG := Lib.hid hget
  have HE := Lib.hid hel
  have HBS := Lib.hid hl
  have HB0 := Lib.hid hbase
  clear hlen hget hz hLL hn hel hnum hl hbase
  go_enter Try.func80, Try.ntmps80
  go_wp2_with (first
    | (go_at_call 87; refine (HL.out).mono ?_; rintro e w' ⟨rfl, rfl⟩)
    | (at_builtin; refine append_rb rfl (.tmp 13) (.tmp 18) rfl base _ _ bs [s + z] rfl rfl (ho.alloc _) (rb_lit1 _ _ _ _ rfl (by omega) (by omega)) (by have := HBS.out; simp; omega) (by have := HB0.out; simp; omega) ?_; intro v1 w1 ho1 hg1; have hb1 := (ho.alloc _).below hg1 ((Below.refl base w).alloc HB0.out _) (by have := HB0.out; simp; omega); clear hg1))
  clear hzz HL
  have HN1 := Lib.hid (show base ≤ w1.heap.size from Nat.le_trans HB0.out hb1.size)
  go_loopw [0, 21] (fun v i wr => ∃ k : Nat, k ≤ z ∧ i = .int .i64 k ∧ OB wr base v (bs ++ [s + z] ++ (enc z n).take k) ∧ Below base w wr) (fun _ i _ => z - (intOf i).toNat)
  case atStart => exact ⟨0, Nat.zero_le _, rfl, by simpa using ho1, hb1⟩
  case round =>
    obtain ⟨k, hk, rfl, hok, hbk⟩ := hrel
    clear ho1 hb1
    by_cases hlt : k < z
    · obtain ⟨r, hr⟩ : ∃ r, k + 1 + r = z := ⟨z - 1 - k, by omega⟩
      have hd := HG.out k r hr
      have ht := take_succ_getD' (enc z n) k (by rw [HE.out]; exact hlt)
      rw [hd] at ht
      have hr' : (z : Int) - 1 - (k : Int) = (r : Int) := by omega
      have hsh := shiftN n (8 * r)
      obtain ⟨m, hm⟩ : ∃ m, n / 2 ^ (8 * r) = m := ⟨_, rfl⟩
      rw [hm] at hsh ht
      have HT := Lib.hid ht
      have HB1 := Lib.hid (Nat.le_trans HB0.out hbk.size)
      clear hd ht hm hr
      go_wp2_with (at_builtin; refine append_rb rfl (.tmp 24) (.tmp 33) rfl base _ _ _ [m % 256] rfl rfl (hok.alloc _) (rb_lit1 _ _ _ _ rfl (by omega) (by omega)) (by have := HBS.out; have := HE.out; simp; omega) (by have := HB1.out; simp; omega) ?_; intro v2 w2 ho2 hg2; have hb2 := (hok.alloc _).below hg2 (hbk.alloc HB1.out _) (by have := HB1.out; simp; omega); clear hg2)
      go_roundw
      case rel => exact ⟨k + 1, by omega, by go_num, by rw [HT.out, ← List.append_assoc]; exact ho2, hb2⟩
      case measure => simp [intOf]; omega
    · obtain rfl : k = z := by omega
      have ht : (enc k n).take k = enc k n := List.take_of_length_le (by rw [HE.out]; omega)
      rw [ht] at hok
      have HO := Lib.hid hok
      clear hok ht
      go_wp2
      go_ret
      exact ⟨_, rfl, by have := HO.out; simpa using this, hbk⟩
end Go.Proofs.Ytnhaakdjijjinaa

/- Walks of crc24: the shift, and a list of bytes. -/
import Derived.Test.YteehglaadofidaaLaws
import Derived.Test.YteehglaadofidaaCrcA
namespace Go.Proofs.Yteehglaadofidaa
open Go.RowKit
theorem shift_any (r : Nat) (w : World) (h : r < 16777216) :
    Calls Try.prog 67 #[.int .u32 (r : Nat)] w fun e w' => e = .returned (.int .u32 ((sh r : Nat) : Int)) ∧ w = w' := by
  go_enter Try.func67, Try.ntmps67
  go_wp2
  · have h1 : (16777215 : Int) < r * 2 := by assumption
    go_ret
    refine ⟨ret_int ?_, rfl⟩
    have e : ((r : Int) * 2) = ((2 * r : Nat) : Int) := by omega
    rw [e, show (25578747 : Int) = ((25578747 : Nat) : Int) from rfl, u32_xor_nat _ _ (by omega) (by omega)]
    unfold sh; rw [if_pos (by omega)]
  · have h1 : (r : Int) * 2 ≤ 16777215 := by assumption
    go_ret
    refine ⟨ret_int ?_, rfl⟩
    unfold sh; rw [if_neg (by omega)]; omega

theorem and24 (r : Nat) (h : r < 4294967296) : bits .and .u32 (r : Int) 16777215 = ((r % 16777216 : Nat) : Int) := by
  rw [show (16777215 : Int) = ((16777215 : Nat) : Int) from rfl, u32_and_nat _ _ (by omega) (by omega)]
  congr 1
  exact Nat.and_two_pow_sub_one_eq_mod r 24
theorem xor24 (x c : Nat) (hx : x < 16777216) (hc : c < 256) : bits .xor .u32 (x : Int) ((c : Int) * 65536) = ((x ^^^ (c * 65536) : Nat) : Int) := by
  rw [show ((c : Int) * 65536) = ((c * 65536 : Nat) : Int) by omega, u32_xor_nat _ _ (by omega) (by omega)]

set_option maxHeartbeats 400000 in
theorem on_any (r : Nat) (v : Value) (bs : List Nat) (w : World) (hr : r < 4294967296) (hb : RB w v bs) :
    Calls Try.prog 61 #[.int .u32 (r : Nat), v] w fun e w' => e = .returned (.int .u32 ((onN (r % 16777216) bs : Nat) : Int)) ∧ w = w' := by
  have hc := hb.1
  have hm := hb.2.1
  obtain ⟨a, cap, rfl, _, _⟩ := hb.shape
  obtain ⟨len, hl⟩ : ∃ len, bs.length = len := ⟨_, rfl⟩
  rw [hl] at hb hm ⊢
  have hcase : ∀ k, k < len → ∃ b off, a = some ⟨b, off, none⟩ ∧ w.cell? ⟨b, off + k, none⟩ = some (.int .u8 ((bs.getD k 0 : Nat) : Int)) := by
    intro k hk
    obtain ⟨b, off, c, he, _, _, _, h⟩ := hb.at (by omega)
    simp only [Value.slice.injEq] at he
    exact ⟨b, off, he.1, h k (by omega)⟩
  clear hb
  have ha := and24 r hr
  obtain ⟨q, hq⟩ : ∃ q, q = r % 16777216 := ⟨_, rfl⟩
  rw [← hq] at ha ⊢
  have hq' : q < 16777216 := by omega
  clear hq
  go_enter Try.func61, Try.ntmps61
  go_wp2
  clear ha
  have HL := Lib.hid hl
  have HC := Lib.hid hc
  have HS := Lib.hid hcase
  clear hl hc hcase
  go_loop [0, 12] (fun s i => ∃ k : Nat, k ≤ len ∧ i = .int .i64 k ∧ s = .int .u32 ((onN q (bs.take k) : Nat) : Int)) (fun _ i => len - (intOf i).toNat)
  case atStart => exact ⟨0, Nat.zero_le _, rfl, rfl⟩
  case round =>
    obtain ⟨k, hk, rfl, rfl⟩ := hrel
    by_cases hlt : k < len
    · obtain ⟨b, off, rfl, hcell⟩ : ∃ b off, a = some ⟨b, off, none⟩ ∧ w.cell? ⟨b, off + k, none⟩ = some (.int .u8 ((bs.getD k 0 : Nat) : Int)) := HS.out k hlt
      have hlb : k < bs.length := by rw [HL.out]; exact hlt
      have HN := Lib.hid (by rw [take_succ_getD bs k hlb, onN_snoc] : onN q (bs.take (k + 1)) = by8 (onN q (bs.take k)) (bs.getD k 0))
      have hc0 : bs.getD k 0 < 256 := HC.out _ (by simp [hlb])
      have hx0 : onN q (bs.take k) < 16777216 := onN_lt _ _ hq' (fun c h => HC.out c (List.mem_of_mem_take h))
      obtain ⟨c, hcc⟩ : ∃ c, c = bs.getD k 0 := ⟨_, rfl⟩
      obtain ⟨x, hxx⟩ : ∃ x, x = onN q (bs.take k) := ⟨_, rfl⟩
      rw [← hcc] at hc0 hcell HN
      rw [← hxx] at hx0 HN ⊢
      have HX := Lib.hid hxx
      have HCC := Lib.hid hcc
      clear hcc hxx hlb
      have hxor := xor24 x c hx0 hc0
      have hy := xor_lt24 hx0 (show c * 65536 < 16777216 by omega)
      obtain ⟨y, hyy⟩ : ∃ y, y = x ^^^ (c * 65536) := ⟨_, rfl⟩
      rw [← hyy] at hxor hy
      have HY := Lib.hid hyy
      clear hyy
      go_wp2
      clear hcell hxor
      go_loop [0, 21] (fun s i => ∃ j : Nat, j ≤ 8 ∧ i = .int .i64 j ∧ s = .int .u32 ((shi j y : Nat) : Int)) (fun _ i => 8 - (intOf i).toNat)
      case atStart => exact ⟨0, Nat.zero_le _, rfl, rfl⟩
      case round =>
        obtain ⟨j, hj, rfl, rfl⟩ := hrel
        have hs := shi_lt j y hy
        by_cases hj8 : j < 8
        · go_wp2_with (go_at_call 67; refine (shift_any _ _ hs).mono ?_; rintro e w' ⟨rfl, rfl⟩)
          go_round
          case rel => exact ⟨j + 1, by omega, by go_num, rfl⟩
          case measure => simp [intOf]; omega
        · obtain rfl : j = 8 := by omega
          go_wp2
          go_round
          case rel => exact ⟨k + 1, by omega, by go_num, by rw [HN.out, by8, HY.out]⟩
          case measure => simp [intOf]; omega
    · go_wp2
      go_ret
      exact ⟨ret_int (by rw [List.take_of_length_le (by rw [HL.out]; omega)]), rfl⟩
end Go.Proofs.Yteehglaadofidaa

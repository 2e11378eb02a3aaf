/- Walks of the reference for crc24. -/
import Derived.Test.YteehglaadofidaaCrcF
import Derived.Test.YteehglaadofidaaCrcJ
import Derived.Deep.RegionWith
namespace Go.Proofs.Yteehglaadofidaa
open Go.RowKit
theorem xor_poly (x : Nat) (h : x < 16777216) : bits .xor .u32 (x : Int) 8801531 = ((x ^^^ 8801531 : Nat) : Int) := by
  rw [show (8801531 : Int) = ((8801531 : Nat) : Int) from rfl, u32_xor_nat _ _ (by omega) (by omega)]
theorem byte_bit (c m : Nat) : (c : Int) / 2 ^ m = ((c / 2 ^ m : Nat) : Int) := by rw [Int.natCast_ediv, Int.natCast_pow]; rfl

set_option maxHeartbeats 400000 in
theorem refon_any (r : Nat) (v : Value) (bs : List Nat) (w : World) (hr : r < 4294967296) (hb : RB w v bs) :
    Calls Try.prog 62 #[.int .u32 (r : Nat), v] w fun e w' => e = .returned (.int .u32 ((onN (r % 16777216) bs : Nat) : Int)) ∧ w = w' := by
  have hc := hb.1
  have hm := hb.2.1
  obtain ⟨a, cap, rfl, _, _⟩ := hb.shape
  obtain ⟨len, hl⟩ : ∃ len, bs.length = len := ⟨_, rfl⟩
  rw [hl] at hb hm ⊢
  have hcase : ∀ k, k < len → ∃ b off, a = some ⟨b, off, none⟩ ∧ w.cell? ⟨b, off + k, none⟩ = some (.int .u8 ((bs.getD k 0 : Nat) : Int)) := by
    intro k hk
    obtain ⟨b, off, c, he, _, _, _, h⟩ := hb.at (by omega)
    simp only [Value.slice.injEq] at he
    exact ⟨b, off, he.1, h k (by omega)⟩
  clear hb
  have ha : (r : Int) % 16777216 = ((r % 16777216 : Nat) : Int) := by omega
  obtain ⟨q, hq⟩ : ∃ q, q = r % 16777216 := ⟨_, rfl⟩
  rw [← hq] at ha ⊢
  have hq' : q < 16777216 := by omega
  have HA := Lib.hid ha
  clear hq ha
  go_enter Try.func62, Try.ntmps62
  go_wp2
  have HL := Lib.hid hl
  have HC := Lib.hid hc
  have HS := Lib.hid hcase
  clear hl hc hcase
  go_loop [0, 5] (fun s i => ∃ k : Nat, k ≤ len ∧ i = .int .i64 k ∧ s = .int .u32 ((onN q (bs.take k) : Nat) : Int)) (fun _ i => len - (intOf i).toNat)
  case atStart => exact ⟨0, Nat.zero_le _, rfl, by rw [HA.out]; rfl⟩
  case round =>
    obtain ⟨k, hk, rfl, rfl⟩ := hrel
    by_cases hlt : k < len
    · obtain ⟨b, off, rfl, hcell⟩ := HS.out k hlt
      have hlb : k < bs.length := by rw [HL.out]; exact hlt
      have hc0 : bs.getD k 0 < 256 := HC.out _ (by simp [hlb])
      have hx0 : onN q (bs.take k) < 16777216 := onN_lt _ _ hq' (fun c h => HC.out c (List.mem_of_mem_take h))
      have HN := Lib.hid (by rw [take_succ_getD bs k hlb, onN_snoc, refB_by8 _ _ hx0 hc0] : onN q (bs.take (k + 1)) = refB (onN q (bs.take k)) (bs.getD k 0) 8)
      obtain ⟨c, hcc⟩ : ∃ c, c = bs.getD k 0 := ⟨_, rfl⟩
      obtain ⟨x, hxx⟩ : ∃ x, x = onN q (bs.take k) := ⟨_, rfl⟩
      rw [← hcc] at hc0 hcell HN
      rw [← hxx] at hx0 HN ⊢
      clear hcc hxx hlb
      go_wp2
      go_loop [0, 6] (fun s i => ∃ m : Nat, m ≤ 8 ∧ i = .int .i64 ((m : Int) - 1) ∧ s = .int .u32 ((refB x c (8 - m) : Nat) : Int)) (fun _ i => (intOf i + 1).toNat)
      case atStart => exact ⟨8, by omega, rfl, rfl⟩
      case round =>
        obtain ⟨m, hm8, rfl, rfl⟩ := hrel
        match m, hm8 with
        | 0, _ =>
          go_wp2
          go_round
          case rel => exact ⟨k + 1, by omega, by go_num, by rw [HN.out]⟩
          case measure => simp [intOf]; omega
        | m + 1, hm8 =>
          have e1 : (((m + 1 : Nat) : Int) - 1) = (m : Int) := by omega
          rw [e1]
          clear e1
          obtain ⟨y, hy⟩ : ∃ y, y = refB x c (8 - (m + 1)) := ⟨_, rfl⟩
          rw [← hy]
          have hy0 : y < 16777216 := by rw [hy]; exact refB_lt x c _ hx0
          have HY := Lib.hid (by rw [show 8 - m = 8 - (m + 1) + 1 by omega, refB, ← hy, show 7 - (8 - (m + 1)) = m by omega] : refB x c (8 - m) = rb1 y (c / 2 ^ m % 2))
          clear hy
          have hbit := byte_bit c m
          obtain ⟨d, hd⟩ : ∃ d, c / 2 ^ m = d := ⟨_, rfl⟩
          rw [hd] at hbit HY
          have hd0 : d < 256 := by rw [← hd]; exact Nat.lt_of_le_of_lt (Nat.div_le_self _ _) hc0
          clear hd
          by_cases ht : y / 8388608 % 2 = d % 2
          · have hq1 : ((y : Int) / 8388608 % 2 != (d : Int) % 2) = false := by simp; omega
            have HT := Lib.hid ht
            clear ht
            go_wp2
            go_round
            case rel => exact ⟨m, by omega, rfl, by rw [HY.out, rb1, if_pos HT.out]; go_num⟩
            case measure => simp [intOf]
          · have hq1 : ((y : Int) / 8388608 % 2 != (d : Int) % 2) = true := by simp; omega
            have HT := Lib.hid ht
            have hx := xor_poly (y * 2 % 16777216) (by omega)
            rw [show ((y * 2 % 16777216 : Nat) : Int) = (y : Int) * 2 % 16777216 by omega] at hx
            clear ht
            go_wp2
            go_round
            case rel => exact ⟨m, by omega, rfl, by rw [HY.out, rb1, if_neg HT.out]⟩
            case measure => simp [intOf]
    · go_wp2
      go_ret
      exact ⟨ret_int (by rw [List.take_of_length_le (by rw [HL.out]; omega)]), rfl⟩

theorem refsum_any (v : Value) (bs : List Nat) (w : World) (hb : RB w v bs) :
    Calls Try.prog 51 #[v] w fun e w' => e = .returned (.int .u32 ((onN 11994318 bs : Nat) : Int)) ∧ w = w' := by
  have H := Lib.hid (refon_any 11994318 v bs w (by omega) hb)
  go_enter Try.func51, Try.ntmps51
  go_wp2_with (go_at_call 62; refine (H.out).mono ?_; rintro e w' ⟨rfl, rfl⟩)
  go_ret
  exact ⟨rfl, rfl⟩

set_option maxHeartbeats 400000 in
theorem refseal_any (v : Value) (bs : List Nat) (w : World) (hb : RB w v bs) (hl : bs.length ≤ 100000) :
    Calls Try.prog 36 #[v] w (Owned w (bs ++ top bs)) := by
  obtain ⟨a, cap, rfl, _, _⟩ := hb.shape
  have hx := onN_lt bs 11994318 (by omega) hb.1
  have hs := refsum_any _ _ _ hb
  obtain ⟨n, hn⟩ : ∃ n, bs.length = n := ⟨_, rfl⟩
  obtain ⟨x, hxx⟩ : ∃ x, onN 11994318 bs = x := ⟨_, rfl⟩
  have ht : top bs = [x / 65536, x / 256 % 256, x % 256] := by unfold top; rw [hxx]
  rw [hxx] at hx hs
  rw [hn] at hl hs ⊢
  rw [ht]
  have HB := Lib.hid hb
  have HN := Lib.hid hn
  have HX := Lib.hid hxx
  have HS := Lib.hid hs
  clear hb hn hxx ht hs
  go_enter Try.func36, Try.ntmps36
  go_wp2_with (first
    | (go_at_call 51; refine (HS.out).mono ?_; rintro e w' ⟨rfl, rfl⟩)
    | (at_builtin; refine append_rb rfl (.tmp 6) (.tmp 7) rfl w.heap.size _ _ [] bs rfl rfl (ob_empty _ _ rfl) (by have := HB.out.kept ((Below.refl _ _).alloc (Nat.le_refl _) (.cells #[] 5)); rw [HN.out] at this; exact this) (by have := HN.out; simp; omega) (by simp) ?_; intro v2 w2 ho2 hg2; have hb2 := (ob_empty w _ rfl).below hg2 ((Below.refl w.heap.size w).alloc (Nat.le_refl _) _) (by simp); clear hg2)
    | (at_builtin; refine append_rb rfl (.tmp 8) (.tmp 17) rfl w.heap.size _ _ bs [x / 65536, x / 256 % 256, x % 256] rfl rfl (ho2.alloc _) (rb_top _ _ _ (by simp) hx) (by have := HN.out; simp; omega) (by have := hb2.size; simp; omega) ?_; intro v3 w3 ho3 hg3; have hb3 := (ho2.alloc _).below hg3 (hb2.alloc hb2.size _) (by have := hb2.size; simp; omega); clear hg3))
  go_ret
  exact ⟨v3, rfl, ho3, hb3⟩

theorem RB.drew {w : World} {v : Value} {bs : List Nat} (h : RB w v bs) : RB w.drew v bs := h.kept (Below.refl _ _).drew
end Go.Proofs.Yteehglaadofidaa

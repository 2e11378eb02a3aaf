/- The walk of FrameBursts. -/
import Derived.Test.YteehglaadofidaaFrE
import Derived.Test.YteehglaadofidaaCrcQ
namespace Go.Proofs.Yteehglaadofidaa
open Go.RowKit

theorem take_burst (cur : List Nat) (m : Nat) (hl : cur.length = m + 3) (hlt : ∀ c ∈ cur, c < 256) (h0 : onN 11994318 cur ≠ 0) (h5 : 5 ≤ m) : (takeOf cur).e ≠ 0 ∨ (takeOf cur).n ≠ cur.length := by
  have hnf := not_fits cur m hl hlt h0
  unfold takeOf
  split
  · exact .inl (by simp)
  · split
    · exact .inl (by simp)
    · split
      · rename_i h1 h2 h3
        right
        intro e
        dsimp only at e
        have hm : szOf cur + 5 = m := by omega
        rw [show szOf cur + 8 = cur.length by omega, List.take_length, hm] at h3
        exact hnf h3
      · exact .inl (by simp)

set_option maxHeartbeats 400000 in
theorem fbursts_big (k : Int) (a0 : Option Addr) (len0 cap0 : Nat) (at1 t : Int) (w : World) (hl : 300 < len0) (hm : len0 ≤ 9223372036854775807) :
    Calls Try.prog 7 #[.int .u8 k, .slice a0 len0 cap0, .int .i64 at1, .int .u32 t] w fun e w' => e = .returned (.bool true) ∧ Below w.heap.size w w' := by
  go_enter Try.func7, Try.ntmps7
  go_wp2_with (go_at_call 12; refine (lives3 _).mono ?_; rintro e w' ⟨rfl, hb⟩)
  go_ret
  exact ⟨rfl, hb⟩
set_option maxHeartbeats 400000 in
theorem fbursts_none (k : Int) (a0 : Option Addr) (len0 cap0 : Nat) (at1 : Int) (t : Nat) (w : World) (hl : len0 ≤ 300) (ht : t < 4294967296) (h0 : t % 16777216 = 0) :
    Calls Try.prog 7 #[.int .u8 k, .slice a0 len0 cap0, .int .i64 at1, .int .u32 (t : Int)] w fun e w' => e = .returned (.bool true) ∧ Below w.heap.size w w' := by
  have e : ((t : Int) % 16777216 == 0) = true := by simp; omega
  have hc : decide (300 < (len0 : Int)) = false := by simp; omega
  go_enter Try.func7, Try.ntmps7
  go_wp2_with (go_at_call 12; refine (lives3 _).mono ?_; rintro e w' ⟨rfl, hb⟩)
  go_ret
  exact ⟨rfl, hb⟩
set_option maxHeartbeats 400000 in
theorem fbursts_zero (v : Value) (bs : List Nat) (at1 : Int) (t : Nat) (w : World) (hb : RB w v bs) (hl : bs.length ≤ 300) (ht : t < 4294967296) (h0 : t % 16777216 ≠ 0) :
    Calls Try.prog 7 #[.int .u8 0, v, .int .i64 at1, .int .u32 (t : Int)] w fun e w' => e = .returned (.bool true) ∧ Below w.heap.size w w' := by
  have e : ((t : Int) % 16777216 == 0) = false := by simp; omega
  have HZ := Lib.hid (wrap_zero v bs w hb)
  obtain ⟨a, cap, rfl, _, _⟩ := hb.shape
  obtain ⟨n, hn⟩ : ∃ n, bs.length = n := ⟨_, rfl⟩
  rw [hn] at hl HZ ⊢
  have hc : decide (300 < (n : Int)) = false := by simp; omega
  clear hb hn h0
  go_enter Try.func7, Try.ntmps7
  go_wp2_with (first
      | (go_at_call 13; refine HZ.out.mono ?_; rintro e w2 ⟨rfl, rfl⟩)
      | (go_at_call 12; refine (lives3 _).mono ?_; rintro e w' ⟨rfl, hl⟩))
  go_ret
  exact ⟨rfl, hl⟩
set_option maxHeartbeats 400000 in
theorem fbursts_out (k : Nat) (v : Value) (bs : List Nat) (at1 : Int) (t : Nat) (w : World) (hk : k ≠ 0) (hk2 : k < 256) (hb : RB w v bs) (hl : bs.length ≤ 300) (ht : t < 4294967296) (h0 : t % 16777216 ≠ 0) (ho : at1 < 0 ∨ 8 * (bs.length : Int) + 40 < at1) (hat : -9223372036854775808 ≤ at1 ∧ at1 ≤ 9223372036854775807) :
    Calls Try.prog 7 #[.int .u8 (k : Int), v, .int .i64 at1, .int .u32 (t : Int)] w fun e w' => e = .returned (.bool true) ∧ Below w.heap.size w w' := by
  have e : ((t : Int) % 16777216 == 0) = false := by simp; omega
  have HW := Lib.hid (wrap_ok k v bs w hb hk hk2 (by omega))
  have HFL := Lib.hid (frm_lt k bs hk2 (by omega) hb.1)
  have HN := Lib.hid (frm_len k bs)
  obtain ⟨a, cap, rfl, _, _⟩ := hb.shape
  obtain ⟨n, hn⟩ : ∃ n, bs.length = n := ⟨_, rfl⟩
  rw [hn] at hl ho HW HN ⊢
  have hc : decide (300 < (n : Int)) = false := by simp; omega
  clear hb hn h0
  rcases ho with ho | ho
  · have h1 : decide (at1 < 0) = true := by simp; omega
    go_enter Try.func7, Try.ntmps7
    go_wp2_with (first
        | (go_at_call 13; refine HW.out.mono ?_; rintro e w2 ⟨v2, rfl, ho2, hb2⟩; obtain ⟨sa, sc, rfl⟩ := (ho2.rb HFL.out (by have := HN.out; omega)).shapeN HN.out)
        | (go_at_call 12; refine (lives3 _).mono ?_; rintro e w' ⟨rfl, hl⟩))
    go_ret
    exact ⟨rfl, hb2.trans (hl.mono hb2.size)⟩
  · have h1 : decide (at1 < 0) = false := by simp; omega
    go_enter Try.func7, Try.ntmps7
    go_wp2_with (first
        | (go_at_call 13; refine HW.out.mono ?_; rintro e w2 ⟨v2, rfl, ho2, hb2⟩; obtain ⟨sa, sc, rfl⟩ := (ho2.rb HFL.out (by have := HN.out; omega)).shapeN HN.out)
        | (go_at_call 12; refine (lives3 _).mono ?_; rintro e w' ⟨rfl, hl⟩))
    go_ret
    exact ⟨rfl, hb2.trans (hl.mono hb2.size)⟩
end Go.Proofs.Yteehglaadofidaa

/- The walk of FrameBursts: the burst itself. -/
import Derived.Test.YteehglaadofidaaFrF
namespace Go.Proofs.Yteehglaadofidaa
open Go.RowKit
set_option maxHeartbeats 1000000 in
theorem fbursts_in (kd : Nat) (v : Value) (bs : List Nat) (p t : Nat) (w : World) (hk0 : kd ≠ 0) (hk2 : kd < 256) (hb : RB w v bs) (hl : bs.length ≤ 300) (ht : t < 4294967296) (h0 : t % 16777216 ≠ 0) (ho : p ≤ 8 * bs.length + 40) :
    Calls Try.prog 7 #[.int .u8 (kd : Int), v, .int .i64 (p : Int), .int .u32 (t : Int)] w fun e w' => e = .returned (.bool true) ∧ Below w.heap.size w w' := by
  have e : ((t : Int) % 16777216 == 0) = false := by simp; omega
  have HW := Lib.hid (wrap_ok kd v bs w hb hk0 hk2 (by omega))
  have HFL := Lib.hid (frm_lt kd bs hk2 (by omega) hb.1)
  have HFN := Lib.hid (frm_len kd bs)
  have hlt := hb_lt kd bs hk2 (by omega) hb.1
  have HSE := Lib.hid (onN_sealed _ hlt)
  obtain ⟨a, cap, rfl, _, _⟩ := hb.shape
  obtain ⟨n, hn⟩ : ∃ n, bs.length = n := ⟨_, rfl⟩
  have H0 := Lib.hid h0
  rw [hn] at hl ho HW HFN ⊢
  have hc : decide (300 < (n : Int)) = false := by simp; omega
  clear hb hn h0 hlt
  go_enter Try.func7, Try.ntmps7
  go_wp2_with (first
        | (go_at_call 13; refine HW.out.mono ?_; rintro e w2 ⟨v2, rfl, ho2, hb2⟩; obtain ⟨sa, sc, rfl⟩ := (ho2.rb HFL.out (by have := HFN.out; omega)).shapeN HFN.out))
  clear e hc
  go_loopw [45] (fun i wr => ∃ (k : Nat) (cur : List Nat), k ≤ 24 ∧ i = .int .i64 k ∧ Below w.heap.size w wr ∧ OB wr w.heap.size (.slice sa (n + 8) sc) cur ∧ Turned (n + 5) p t k cur) (fun i _ => 24 - (intOf i).toNat)
  case atStart => exact ⟨0, _, Nat.zero_le _, rfl, hb2, ho2, HFN.out, HFL.out, by have := HSE.out; unfold frm; rw [this, burst, shi_zero]⟩
  case round =>
    obtain ⟨k, cur, hk, rfl, hW, hob, hT⟩ := hrel
    clear hb2 ho2
    by_cases hlt : k < 24
    · by_cases hbit : t.testBit k = true
      · have hyes := bit_yes t k ht hbit
        have hjn : (p + k) / 8 < n + 8 := by omega
        obtain ⟨g, rfl, hg, hcell, hfr⟩ := hob.byte hT.1 hjn
        have hT2 := hT.yes hbit hlt (by omega)
        have hcl := hT.2.1 _ (show cur.getD ((p + k) / 8) 0 ∈ cur by have := hT.1; simp [show (p + k) / 8 < cur.length by omega])
        have hput := fun c => hob.put hT.1 ((p + k) / 8) c
        have hi1 : IntKind.i64.wrap ((p : Int) + (k : Int)) = ((p + k : Nat) : Int) := by rw [IntWalk.i64_in _ (by omega)]; omega
        obtain ⟨j, hj⟩ : ∃ j, (p + k) / 8 = j := ⟨_, rfl⟩
        obtain ⟨q, hq⟩ : ∃ q, (p + k) % 8 = q := ⟨_, rfl⟩
        have hq8 : q < 8 := by omega
        rw [hj] at hcell hfr hjn hT2 hput hcl
        rw [hq] at hT2
        obtain ⟨c, hc⟩ : ∃ c, cur.getD j 0 = c := ⟨_, rfl⟩
        rw [hc] at hcell hT2 hcl
        have hm := mask128 q
        have hdl : 128 / 2 ^ q < 256 := Nat.lt_of_le_of_lt (Nat.div_le_self _ _) (by omega)
        obtain ⟨d, hd⟩ : ∃ d, 128 / 2 ^ q = d := ⟨_, rfl⟩
        rw [hd] at hm hdl hT2
        have hx := u8_xor_nat c d hcl hdl
        obtain ⟨y, hy⟩ : ∃ y, c ^^^ d = y := ⟨_, rfl⟩
        rw [hy] at hx hT2
        have hO := hput y
        have HT2 := Lib.hid hT2
        have HO := Lib.hid hO
        have hj' : ((p : Int) + (k : Int)) / 8 = (j : Int) := by omega
        have hq' : ((p : Int) + (k : Int)) % 8 = (q : Int) := by omega
        clear hT2 hO hput hc hd hy hj hq hi1 hT hob hbit
        go_wp2
        go_region
        go_wp2
        go_roundw
        case rel => exact ⟨k + 1, _, by omega, by go_num, (hW.setCell (by exact hg) _).drew, HO.out.drew, HT2.out⟩
        case measure => simp [intOf]; omega
      · have hno := bit_no t k ht hbit
        have HT := Lib.hid (hT.no hbit)
        clear hT hbit
        go_wp2
        go_roundw
        case rel => exact ⟨k + 1, cur, by omega, by go_num, hW, hob, HT.out⟩
        case measure => simp [intOf]; omega
    · obtain rfl : k = 24 := by omega
      have hne : onN 11994318 cur ≠ 0 := by rw [hT.2.2]; exact shi_ne _ _ (burst_ne t H0.out)
      have hrb := hob.rb hT.2.1 (by have := hT.1; omega)
      have HOB := Lib.hid (whole_no _ cur _ hrb (take_burst cur (n + 5) hT.1 hT.2.1 hne (by omega)))
      clear hne hrb hT hob
      go_wp2_with (first
        | (go_at_call 17; refine (HOB.out).mono ?_; rintro e w3 ⟨v3, rfl, hr3, hb3⟩; obtain ⟨ya, yc, rfl⟩ := hr3.shapeN (n := 0) rfl)
        | (go_at_call 12; refine (lives3 _).mono ?_; rintro e w' ⟨rfl, hl4⟩))
      go_ret
      exact ⟨rfl, (hW.trans (hb3.mono hW.size)).trans (hl4.mono (Nat.le_trans hW.size hb3.size))⟩
end Go.Proofs.Yteehglaadofidaa

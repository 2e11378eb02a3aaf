/- Walks of crc24: the sum of several parts, and the examples. -/
import Derived.Test.YteehglaadofidaaCrcB
import Derived.Below
import Derived.Lib.SlBytesConst
namespace Go.Proofs.Yteehglaadofidaa
open Go.RowKit

/-- A slice of slices of bytes that can be read. -/
def RBB (w : World) (a : Option Addr) (n : Nat) (ps : List (List Nat)) : Prop :=
  ps.length = n ∧ n ≤ 140737488351232 ∧ ∀ i, i < n → ∃ b off v, a = some ⟨b, off, none⟩ ∧ w.cell? ⟨b, off + i, none⟩ = some v ∧ RB w v (ps.getD i [])

theorem flat_take {α : Type} (l : List (List α)) (k : Nat) (h : k < l.length) : (l.take (k + 1)).flatten = (l.take k).flatten ++ l.getD k [] := by
  rw [List.take_succ_eq_append_getElem h, List.flatten_append]
  simp only [List.flatten_cons, List.flatten_nil, List.append_nil]
  simp [h]

set_option maxHeartbeats 400000 in
theorem sum_any (a : Option Addr) (len cap : Nat) (ps : List (List Nat)) (w : World) (hb : RBB w a len ps) :
    Calls Try.prog 50 #[.slice a len cap] w fun e w' => e = .returned (.int .u32 ((onN 11994318 ps.flatten : Nat) : Int)) ∧ w = w' := by
  obtain ⟨hl, hm, hcase⟩ := hb
  have HL := Lib.hid hl
  have HS := Lib.hid hcase
  clear hl hcase
  go_enter Try.func50, Try.ntmps50
  go_wp2
  go_loop [3, 8] (fun s i => ∃ k : Nat, k ≤ len ∧ i = .int .i64 k ∧ s = .int .u32 ((onN 11994318 (ps.take k).flatten : Nat) : Int) ∧ onN 11994318 (ps.take k).flatten < 16777216) (fun _ i => len - (intOf i).toNat)
  case atStart => exact ⟨0, Nat.zero_le _, rfl, rfl, by simp [onN]⟩
  case round =>
    obtain ⟨k, hk, rfl, rfl, hx0⟩ := hrel
    by_cases hlt : k < len
    · obtain ⟨b, off, v, rfl, hcell, hrb⟩ := HS.out k hlt
      have hlb : k < ps.length := by rw [HL.out]; exact hlt
      have HN := Lib.hid (by rw [flat_take ps k hlb, onN_append] : onN 11994318 (ps.take (k + 1)).flatten = onN (onN 11994318 (ps.take k).flatten) (ps.getD k []))
      obtain ⟨x, hxx⟩ : ∃ x, x = onN 11994318 (ps.take k).flatten := ⟨_, rfl⟩
      obtain ⟨m, hmm⟩ : ∃ m, m = ps.getD k [] := ⟨_, rfl⟩
      rw [← hxx] at hx0 HN ⊢
      rw [← hmm] at hrb HN
      have HX := Lib.hid hxx
      clear hxx hlb hmm
      have hmod : x % 16777216 = x := by omega
      have hy := onN_lt m x hx0 hrb.1
      obtain ⟨ai, ci, rfl, _, _⟩ := hrb.shape
      have HRB := Lib.hid hrb
      have HM := Lib.hid hmod
      clear hrb hmod
      go_wp2_with (go_at_call 61; refine (on_any _ _ _ _ (by omega) HRB.out).mono ?_; rintro e w' ⟨rfl, rfl⟩)
      go_round
      case rel => exact ⟨k + 1, by omega, by go_num, by rw [HN.out, HM.out], by rw [HN.out]; exact hy⟩
      case measure => simp [intOf]; omega
    · go_wp2
      go_ret
      exact ⟨ret_int (by rw [List.take_of_length_le (by rw [HL.out]; omega)]), rfl⟩

end Go.Proofs.Yteehglaadofidaa

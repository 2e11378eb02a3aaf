/- Segments: Name. -/
import Derived.Test.YthefnakbpalecaaVyA
import Derived.Test.YthefnakbpalecaaSgB
import Derived.Deep.DeepCutAuto
namespace Go.Proofs.Ythefnakbpalecaa
open Go.RowKit
/-- A hexadecimal digit. -/
def hx (d : Nat) : Nat := if d < 10 then 48 + d else 87 + d
/-- The fifteen digits, once i of them are written. -/
def dgs (n i : Nat) : List Nat := (List.range 15).map (fun p => if 14 - p < i then hx (n / 16 ^ (14 - p) % 16) else 0)
def dgC (n i : Nat) : Array Value := ((dgs n i).map (fun b : Nat => Value.int .u8 (b : Int))).toArray
def nameB (n : Nat) : List Nat := 76 :: dgs n 15
theorem dgs_len (n i : Nat) : (dgs n i).length = 15 := by simp [dgs]
theorem dgC_zero (n : Nat) : dgC n 0 = #[.int .u8 0, .int .u8 0, .int .u8 0, .int .u8 0, .int .u8 0, .int .u8 0, .int .u8 0, .int .u8 0, .int .u8 0, .int .u8 0, .int .u8 0, .int .u8 0, .int .u8 0, .int .u8 0, .int .u8 0] := by simp [dgC, dgs, List.range_succ]
theorem dgs_at (n i p : Nat) (hp : p < 15) : (dgs n i)[p]? = some (if 14 - p < i then hx (n / 16 ^ (14 - p) % 16) else 0) := by
  unfold dgs
  rw [List.getElem?_map, List.getElem?_range hp]; rfl
theorem dgC_succ (n i : Nat) (hi : i < 15) : (dgC n i).setIfInBounds (14 - i) (.int .u8 (hx (n / 16 ^ i % 16) : Int)) = dgC n (i + 1) := by
  unfold dgC
  rw [List.setIfInBounds_toArray]
  congr 1
  apply List.ext_getElem?
  intro p
  rw [List.getElem?_set, List.length_map, dgs_len, List.getElem?_map, List.getElem?_map]
  by_cases hp : p < 15
  · rw [dgs_at _ _ _ hp, dgs_at _ _ _ hp]
    by_cases h1 : 14 - i = p
    · rw [if_pos h1, if_pos (by omega), if_pos (by omega), show 14 - p = i by omega]; rfl
    · rw [if_neg h1]
      by_cases h2 : 14 - p < i
      · rw [if_pos h2, if_pos (by omega)]
      · rw [if_neg h2, if_neg (by omega)]
  · rw [if_neg (by omega), List.getElem?_eq_none (by rw [dgs_len]; omega), List.getElem?_eq_none (by rw [dgs_len]; omega)]
theorem hx_lt (d : Nat) (h : d < 16) : hx d < 256 := by unfold hx; split <;> omega
theorem dgs_lt (n i : Nat) : ∀ c ∈ dgs n i, c < 256 := by
  intro c hc
  obtain ⟨p, -, rfl⟩ := List.mem_map.1 hc
  split
  · exact hx_lt _ (Nat.mod_lt _ (by omega))
  · omega
theorem hx_byte (d : Nat) (h : d < (⟨#[48, 49, 50, 51, 52, 53, 54, 55, 56, 57, 97, 98, 99, 100, 101, 102]⟩ : ByteArray).size) : ((⟨#[48, 49, 50, 51, 52, 53, 54, 55, 56, 57, 97, 98, 99, 100, 101, 102]⟩ : ByteArray)[d]'h).toNat = hx d := by
  have h16 : d < 16 := h
  rcases d with _|_|_|_|_|_|_|_|_|_|_|_|_|_|_|_|d <;> first | rfl | omega
theorem name_str (n : Nat) : (⟨#[76]⟩ : ByteArray) ++ str (dgs n 15) = str (nameB n) := by
  apply ByteArray.ext
  rw [ByteArray.data_append]
  unfold str nameB
  simp
set_option maxRecDepth 100000 in
set_option maxHeartbeats 4000000 in
theorem sname_any (n : Nat) (w : World) (h1 : 1 ≤ n) (h2 : n < 1152921504606846976) : Calls Try.prog 56 #[.int .u64 (n : Int)] w (fun e w' => e = .returned (.string (str (nameB n))) ∧ Below w.heap.size w w') := by
  have g1 : decide ((n : Int) < 1) = false := decide_eq_false (by omega)
  have g2 : decide ((n : Int) ≥ 1152921504606846976) = false := decide_eq_false (by omega)
  have g3 : decide (1152921504606846976 ≤ (n : Int)) = false := decide_eq_false (by omega)
  have g4 : decide (n < 1) = false := decide_eq_false (by omega)
  have g5 : decide (1152921504606846976 ≤ n) = false := decide_eq_false (by omega)
  go_enter Try.func56, Try.ntmps56
  go_upto_region 3 with fail
  obtain ⟨N, hN⟩ : ∃ N, w.heap.size = N := ⟨_, rfl⟩
  have HN := Lib.hid hN
  clear g1 g2 g3 g4 g5
  go_upto_region 4 with fail
  obtain ⟨B1, s1, z1⟩ := box1 w (dgC n 0) 155
  have HI : Hid (Below w.heap.size w (w.alloc (.cells (dgC n 0) 155)) ∧ (w.alloc (.cells (dgC n 0) 155)).heap[N]? = some (.cells (dgC n 0) 155 (0, 0))) := Lib.hid ⟨B1, by rw [← hN]; exact s1⟩
  rw [← dgC_zero n]
  generalize w.alloc (.cells (dgC n 0) 155) = W1 at HI ⊢
  clear B1 s1 z1 hN
  go_wp2_with fail
  go_loopg [0, 11] 16 (fun kx s0 s11 wr => ∃ i : Nat, s0 = .int .u64 ((n / 16 ^ i : Nat) : Int) ∧ s11 = .int .i64 i ∧ i ≤ 15 ∧ 15 - i ≤ kx ∧ Hid (Below w.heap.size w wr ∧ wr.heap[N]? = some (.cells (dgC n i) 155 (0, 0))))
  case atStart => exact ⟨0, by rw [Nat.pow_zero, Nat.div_one], rfl, by omega, by omega, HI⟩
  case round =>
    obtain ⟨i, rfl, rfl, hi, hkx, HW⟩ := hrel
    by_cases hlt : i < 15
    · have hltz : (i : Int) < 15 := by omega
      have gl : decide ((i : Int) < 15) = true := decide_eq_true hltz
      have k1 : ((14 : Int) - (i : Int)).toNat = 14 - i := by omega
      obtain ⟨q, hq⟩ : ∃ q, n / 16 ^ i = q := ⟨_, rfl⟩
      rw [hq]
      have hqs : q < 1152921504606846976 := by rw [← hq]; exact Nat.lt_of_le_of_lt (Nat.div_le_self _ _) h2
      have k2 : IntKind.u64.wrap ((q : Int) / 16) = ((q / 16 : Nat) : Int) := (IntWalk.u64_in _ (by omega)).trans (by omega)
      have hsz : (dgC n i).size = 15 := by simp [dgC, dgs_len]
      obtain ⟨u, hu⟩ : ∃ u, (dgC n i)[14 - i]? = some u := ⟨_, Array.getElem?_eq_getElem (by omega)⟩
      have hh := HW.out.2
      have cj : wr.cell? ⟨N, 14 - i, none⟩ = some u := by simp only [World.cell?, hh]; exact hu
      have fj : wr.frozen? ⟨N, 14 - i, none⟩ = false := by simp only [World.frozen?, hh]; rfl
      have HQ := Lib.hid hq
      have HU := Lib.hid hu
      clear hq hh hu hsz hqs
      go_wp2_with fail
      go_roundg (15 - (i + 1))
      case measure => omega
      case rel =>
        have hN0 := HN.out
        refine ⟨i + 1, ?_, by go_num, by omega, by omega, Lib.hid ⟨HW.out.1.setCell (p := ⟨N, 14 - i, none⟩) (by show w.heap.size ≤ N; omega) _, ?_⟩⟩
        · rw [Nat.pow_succ, ← Nat.div_div_eq_div_mul, HQ.out]; congr 1
        · refine (heap_set HW.out.2 (14 - i) _).trans ?_
          rw [hx_byte, ← HQ.out, dgC_succ _ _ hlt]
    · have hltz : ¬ (i : Int) < 15 := by omega
      have gl : decide ((i : Int) < 15) = false := decide_eq_false hltz
      obtain rfl : i = 15 := by omega
      have hr : RB wr (.slice (some ⟨N, 0, none⟩) 15 15) (dgs n 15) := by
        refine ⟨dgs_lt n 15, by rw [dgs_len]; omega, .inr ⟨⟨N, 0, none⟩, 15, by rw [dgs_len], by rw [dgs_len]; omega, by unfold maxLen; omega, fun p hp => ?_⟩⟩
        have hh := HW.out.2
        rw [add_at]
        simp only [World.cell?, hh, Nat.zero_add]
        simp [dgC]
        rw [List.getElem?_eq_getElem hp]
        exact ⟨_, rfl, rfl⟩
      have es := rb_string (P := Try.prog) hr 28 9 5 Try.underlying28 Try.underlying5 Try.underlying9
      clear hr
      have hsz : (str (dgs n 15)).size = 15 := by rw [str_sz, dgs_len]
      have hsz2 : (⟨#[76]⟩ : ByteArray).size = 1 := rfl
      go_wp2_with fail
      go_ret
      exact ⟨by rw [name_str]; rfl, HW.out.1⟩
end Go.Proofs.Ythefnakbpalecaa

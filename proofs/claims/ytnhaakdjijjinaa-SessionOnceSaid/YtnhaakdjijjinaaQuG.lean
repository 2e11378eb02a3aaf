/- Walks of quill: numbers with a sign, and flags. -/
import Derived.Test.YtnhaakdjijjinaaQuE
import Derived.Test.YtnhaakdjijjinaaQuF
namespace Go.Proofs.Ytnhaakdjijjinaa
open Go.RowKit
theorem intB_len9 (z : Int) (h0 : -9223372036854775808 ≤ z) (h1 : z ≤ 9223372036854775807) : (intB z).length ≤ 9 := by
  unfold intB
  split
  · exact num_len9 _ _ (by omega)
  · exact num_len9 _ _ (by omega)
theorem intB_lt (z : Int) (h0 : -9223372036854775808 ≤ z) (h1 : z ≤ 9223372036854775807) : ∀ c ∈ intB z, c < 256 := by
  unfold intB
  split
  · exact num_lt' _ _ (by omega) (by omega)
  · exact num_lt' _ _ (by omega) (by omega)
theorem flagB_len9 (x : Bool) : (flagB x).length ≤ 9 := by
  unfold flagB
  split
  · exact num_len9 _ _ (by omega)
  · exact num_len9 _ _ (by omega)
theorem flagB_lt (x : Bool) : ∀ c ∈ flagB x, c < 256 := by
  unfold flagB
  split
  · exact num_lt' _ _ (by omega) (by omega)
  · exact num_lt' _ _ (by omega) (by omega)

set_option maxHeartbeats 1000000 in
theorem int_wr (b base : Nat) (v : Value) (bs : List Nat) (ns : List Int) (x : Value) (w : World) (hw : WR w b base v bs) (hbl : bs.length ≤ 10000000) (hx : RV w x (ns.map fun n => .int .i64 n)) (hn : ∀ n ∈ ns, -9223372036854775808 ≤ n ∧ n ≤ 9223372036854775807) :
    Calls Try.prog 50 #[.pointer (some ⟨b, 0, none⟩), x] w fun e w' => e = .returned (.tuple #[]) ∧ Wrote b base v w (bs ++ ints ns) w' := by
  obtain ⟨hlen, a, cap, rfl, hcell⟩ := hx
  simp only [List.length_map] at hlen hcell ⊢
  obtain ⟨len, hl⟩ : ∃ len, ns.length = len := ⟨_, rfl⟩
  rw [hl] at hlen hcell ⊢
  have hcase : ∀ k, k < len → ∃ b off, a = some ⟨b, off, none⟩ ∧ b < w.heap.size ∧ w.cell? ⟨b, off + k, none⟩ = some (.int .i64 (ns.getD k 0)) := by
    intro k hk
    obtain ⟨b, off, ha, hc⟩ := hcell k hk
    refine ⟨b, off, ha, (cell_spot hc).2, hc.trans ?_⟩
    simp [show k < ns.length by omega]
  have HL := Lib.hid hl
  have HS := Lib.hid hcase
  have HN := Lib.hid hn
  have HW := Lib.hid hw
  have HLN := Lib.hid hbl
  clear hw hbl
  have hl9 : ∀ k, k ≤ len → (ints (ns.take k)).length ≤ 9 * k := by
    intro k hk
    have := flat_len intB 9 (ns.take k) (fun y hy => intB_len9 y (hn y (List.mem_of_mem_take hy)).1 (hn y (List.mem_of_mem_take hy)).2)
    rw [List.length_take] at this
    unfold ints; omega
  have hlt9 : ∀ k, ∀ c ∈ ints (ns.take k), c < 256 := fun k => flat_lt intB (ns.take k) (fun y hy => intB_lt y (hn y (List.mem_of_mem_take hy)).1 (hn y (List.mem_of_mem_take hy)).2)
  have H9 := Lib.hid hl9
  have HLT := Lib.hid hlt9
  clear hl hcell hcase hn hl9 hlt9
  go_enter Try.func50, Try.ntmps50
  go_wp2_with fail
  go_loopw [4, 8] (fun v i wr => ∃ k : Nat, k ≤ len ∧ i = .int .i64 k ∧ OB wr w.heap.size v (ints (ns.take k)) ∧ Below w.heap.size w wr) (fun _ i _ => len - (intOf i).toNat)
  case atStart => exact ⟨0, Nat.zero_le _, rfl, World.ownsRow_nil _ _ _ _, Below.refl _ _⟩
  case round =>
    obtain ⟨k, hk, rfl, ho, hW⟩ := hrel
    by_cases hlt : k < len
    · obtain ⟨b', off, rfl, hbs, hc⟩ := HS.out k hlt
      have hc' := (hW.cell (p := ⟨b', off + k, none⟩) hbs).trans hc
      have hlp : k < ns.length := by rw [HL.out]; exact hlt
      have HT := Lib.hid (flat_snoc intB ns k 0 hlp)
      have HM := Lib.hid (HN.out (ns.getD k 0) (by simp [hlp]))
      obtain ⟨z, hz⟩ : ∃ z, ns.getD k 0 = z := ⟨_, rfl⟩
      rw [hz] at hc' HT HM
      have hzb := HM.out
      clear hc hz hlp HM
      by_cases h0 : z < 0
      · obtain ⟨m, hm⟩ : ∃ m : Nat, -1 - z = (m : Int) := ⟨(-1 - z).toNat, by omega⟩
        have hb : intB z = num 128 m := by unfold intB; rw [if_pos h0, hm, Int.toNat_natCast]
        have hx := not_neg z h0 hzb.1
        rw [hm] at hx
        rw [hb] at HT
        have HM := Lib.hid (show m < 18446744073709551616 by omega)
        have hmb : (m : Int) ≤ 9223372036854775807 := by omega
        clear hb hm hzb
        have hu : IntKind.u64.wrap (m : Int) = (m : Int) := IntWalk.u64_in _ ⟨by omega, by omega⟩
        go_wp2_with fail
        refine (number_any _ _ 128 m w.heap.size _ ho hW.size (by have := H9.out k hk; omega) (by omega) HM.out).mono ?_
        rintro e w2 ⟨v2, rfl, ho2, hb2⟩
        clear hu
        go_wp2_with fail
        go_roundw
        case rel => exact ⟨k + 1, by omega, by go_num, by unfold ints; rw [HT.out]; exact ho2, hW.trans hb2⟩
        case measure => simp [intOf]; omega
      · obtain ⟨m, rfl⟩ : ∃ m : Nat, z = (m : Int) := ⟨z.toNat, by omega⟩
        have hb : intB (m : Int) = num 0 m := by unfold intB; rw [if_neg h0, Int.toNat_natCast]
        rw [hb] at HT
        have HM := Lib.hid (show m < 18446744073709551616 by omega)
        have hmb : (m : Int) ≤ 9223372036854775807 := hzb.2
        clear hb h0 hzb
        go_wp2_with (go_at_call 80; refine (number_any _ _ 0 m w.heap.size _ ho hW.size (by have := H9.out k hk; omega) (by omega) HM.out).mono ?_; rintro e w2 ⟨v2, rfl, ho2, hb2⟩)
        go_roundw
        case rel => exact ⟨k + 1, by omega, by go_num, by unfold ints; rw [HT.out]; exact ho2, hW.trans hb2⟩
        case measure => simp [intOf]; omega
    · obtain rfl : k = len := by omega
      have ht : ns.take k = ns := List.take_of_length_le (by rw [HL.out]; omega)
      have h9 := H9.out k hk
      have hlt9 := HLT.out k
      rw [ht] at ho h9 hlt9
      have hrb := ho.rb hlt9 (by omega)
      clear ho
      have HWK := Lib.hid (HW.out.kept hW)
      have HRB := Lib.hid hrb
      clear hrb hlt9 ht
      go_wp2_with (first
        | (go_at_call 81; refine (target_any _ _).mono ?_; rintro e w2 ⟨rfl, rfl⟩)
        | (go_at_call 89; refine (keep_any _ _ _ _ _ _ _ HWK.out HRB.out (by have := HLN.out; omega)).mono ?_; rintro e w2 ⟨rfl, hwr⟩))
      go_end0
      exact ⟨rfl, hwr.after hW⟩

set_option maxHeartbeats 1000000 in
theorem int_nil (ns : List Int) (x : Value) (w : World) (hx : RV w x (ns.map fun n => .int .i64 n)) (hn : ∀ n ∈ ns, -9223372036854775808 ≤ n ∧ n ≤ 9223372036854775807) :
    Calls Try.prog 50 #[.pointer none, x] w fun e w' => e = .returned (.tuple #[]) ∧ Below w.heap.size w w' := by
  obtain ⟨hlen, a, cap, rfl, hcell⟩ := hx
  simp only [List.length_map] at hlen hcell ⊢
  obtain ⟨len, hl⟩ : ∃ len, ns.length = len := ⟨_, rfl⟩
  rw [hl] at hlen hcell ⊢
  have hcase : ∀ k, k < len → ∃ b off, a = some ⟨b, off, none⟩ ∧ b < w.heap.size ∧ w.cell? ⟨b, off + k, none⟩ = some (.int .i64 (ns.getD k 0)) := by
    intro k hk
    obtain ⟨b, off, ha, hc⟩ := hcell k hk
    refine ⟨b, off, ha, (cell_spot hc).2, hc.trans ?_⟩
    simp [show k < ns.length by omega]
  have HL := Lib.hid hl
  have HS := Lib.hid hcase
  have HN := Lib.hid hn
  have hl9 : ∀ k, k ≤ len → (ints (ns.take k)).length ≤ 9 * k := by
    intro k hk
    have := flat_len intB 9 (ns.take k) (fun y hy => intB_len9 y (hn y (List.mem_of_mem_take hy)).1 (hn y (List.mem_of_mem_take hy)).2)
    rw [List.length_take] at this
    unfold ints; omega
  have hlt9 : ∀ k, ∀ c ∈ ints (ns.take k), c < 256 := fun k => flat_lt intB (ns.take k) (fun y hy => intB_lt y (hn y (List.mem_of_mem_take hy)).1 (hn y (List.mem_of_mem_take hy)).2)
  have H9 := Lib.hid hl9
  have HLT := Lib.hid hlt9
  clear hl hcell hcase hn hl9 hlt9
  go_enter Try.func50, Try.ntmps50
  go_wp2_with fail
  go_loopw [4, 8] (fun v i wr => ∃ k : Nat, k ≤ len ∧ i = .int .i64 k ∧ OB wr w.heap.size v (ints (ns.take k)) ∧ Below w.heap.size w wr) (fun _ i _ => len - (intOf i).toNat)
  case atStart => exact ⟨0, Nat.zero_le _, rfl, World.ownsRow_nil _ _ _ _, Below.refl _ _⟩
  case round =>
    obtain ⟨k, hk, rfl, ho, hW⟩ := hrel
    by_cases hlt : k < len
    · obtain ⟨b', off, rfl, hbs, hc⟩ := HS.out k hlt
      have hc' := (hW.cell (p := ⟨b', off + k, none⟩) hbs).trans hc
      have hlp : k < ns.length := by rw [HL.out]; exact hlt
      have HT := Lib.hid (flat_snoc intB ns k 0 hlp)
      have HM := Lib.hid (HN.out (ns.getD k 0) (by simp [hlp]))
      obtain ⟨z, hz⟩ : ∃ z, ns.getD k 0 = z := ⟨_, rfl⟩
      rw [hz] at hc' HT HM
      have hzb := HM.out
      clear hc hz hlp HM
      by_cases h0 : z < 0
      · obtain ⟨m, hm⟩ : ∃ m : Nat, -1 - z = (m : Int) := ⟨(-1 - z).toNat, by omega⟩
        have hb : intB z = num 128 m := by unfold intB; rw [if_pos h0, hm, Int.toNat_natCast]
        have hx := not_neg z h0 hzb.1
        rw [hm] at hx
        rw [hb] at HT
        have HM := Lib.hid (show m < 18446744073709551616 by omega)
        have hmb : (m : Int) ≤ 9223372036854775807 := by omega
        clear hb hm hzb
        have hu : IntKind.u64.wrap (m : Int) = (m : Int) := IntWalk.u64_in _ ⟨by omega, by omega⟩
        go_wp2_with fail
        refine (number_any _ _ 128 m w.heap.size _ ho hW.size (by have := H9.out k hk; omega) (by omega) HM.out).mono ?_
        rintro e w2 ⟨v2, rfl, ho2, hb2⟩
        clear hu
        go_wp2_with fail
        go_roundw
        case rel => exact ⟨k + 1, by omega, by go_num, by unfold ints; rw [HT.out]; exact ho2, hW.trans hb2⟩
        case measure => simp [intOf]; omega
      · obtain ⟨m, rfl⟩ : ∃ m : Nat, z = (m : Int) := ⟨z.toNat, by omega⟩
        have hb : intB (m : Int) = num 0 m := by unfold intB; rw [if_neg h0, Int.toNat_natCast]
        rw [hb] at HT
        have HM := Lib.hid (show m < 18446744073709551616 by omega)
        have hmb : (m : Int) ≤ 9223372036854775807 := hzb.2
        clear hb h0 hzb
        go_wp2_with (go_at_call 80; refine (number_any _ _ 0 m w.heap.size _ ho hW.size (by have := H9.out k hk; omega) (by omega) HM.out).mono ?_; rintro e w2 ⟨v2, rfl, ho2, hb2⟩)
        go_roundw
        case rel => exact ⟨k + 1, by omega, by go_num, by unfold ints; rw [HT.out]; exact ho2, hW.trans hb2⟩
        case measure => simp [intOf]; omega
    · obtain rfl : k = len := by omega
      have ht : ns.take k = ns := List.take_of_length_le (by rw [HL.out]; omega)
      have h9 := H9.out k hk
      have hlt9 := HLT.out k
      rw [ht] at ho h9 hlt9
      have hrb := ho.rb hlt9 (by omega)
      clear ho
      clear hrb hlt9 ht
      go_wp2_with (first
        | (go_at_call 81; refine (target_nil _).mono ?_; rintro e w2 ⟨rfl, rfl⟩)
        | (go_at_call 88; refine (drop_any _ _).mono ?_; rintro e w2 ⟨rfl, rfl⟩))
      go_end0
      exact ⟨rfl, hW⟩

set_option maxHeartbeats 1000000 in
theorem flag_wr (b base : Nat) (v : Value) (bs : List Nat) (ns : List Bool) (x : Value) (w : World) (hw : WR w b base v bs) (hbl : bs.length ≤ 10000000) (hx : RV w x (ns.map fun n => .bool n)) :
    Calls Try.prog 51 #[.pointer (some ⟨b, 0, none⟩), x] w fun e w' => e = .returned (.tuple #[]) ∧ Wrote b base v w (bs ++ flags ns) w' := by
  obtain ⟨hlen, a, cap, rfl, hcell⟩ := hx
  simp only [List.length_map] at hlen hcell ⊢
  obtain ⟨len, hl⟩ : ∃ len, ns.length = len := ⟨_, rfl⟩
  rw [hl] at hlen hcell ⊢
  have hcase : ∀ k, k < len → ∃ b off, a = some ⟨b, off, none⟩ ∧ b < w.heap.size ∧ w.cell? ⟨b, off + k, none⟩ = some (.bool (ns.getD k false)) := by
    intro k hk
    obtain ⟨b, off, ha, hc⟩ := hcell k hk
    refine ⟨b, off, ha, (cell_spot hc).2, hc.trans ?_⟩
    simp [show k < ns.length by omega]
  have HL := Lib.hid hl
  have HS := Lib.hid hcase
  have HW := Lib.hid hw
  have HLN := Lib.hid hbl
  clear hw hbl
  have hl9 : ∀ k, k ≤ len → (flags (ns.take k)).length ≤ 9 * k := by
    intro k hk
    have := flat_len flagB 9 (ns.take k) (fun y hy => flagB_len9 y)
    rw [List.length_take] at this
    unfold flags; omega
  have hlt9 : ∀ k, ∀ c ∈ flags (ns.take k), c < 256 := fun k => flat_lt flagB (ns.take k) (fun y hy => flagB_lt y)
  have H9 := Lib.hid hl9
  have HLT := Lib.hid hlt9
  clear hl hcell hcase hl9 hlt9
  go_enter Try.func51, Try.ntmps51
  go_wp2_with fail
  go_loopw [4, 8] (fun v i wr => ∃ k : Nat, k ≤ len ∧ i = .int .i64 k ∧ OB wr w.heap.size v (flags (ns.take k)) ∧ Below w.heap.size w wr) (fun _ i _ => len - (intOf i).toNat)
  case atStart => exact ⟨0, Nat.zero_le _, rfl, World.ownsRow_nil _ _ _ _, Below.refl _ _⟩
  case round =>
    obtain ⟨k, hk, rfl, ho, hW⟩ := hrel
    by_cases hlt : k < len
    · obtain ⟨b', off, rfl, hbs, hc⟩ := HS.out k hlt
      have hc' := (hW.cell (p := ⟨b', off + k, none⟩) hbs).trans hc
      have hlp : k < ns.length := by rw [HL.out]; exact hlt
      have HT := Lib.hid (flat_snoc flagB ns k false hlp)
      obtain ⟨z, hz⟩ : ∃ z, ns.getD k false = z := ⟨_, rfl⟩
      rw [hz] at hc' HT
      clear hc hz hlp
      cases z with
      | true =>
        have hb : flagB true = num 0 1 := rfl
        rw [hb] at HT
        clear hb
        go_wp2_with (go_at_call 80; refine (number_any _ _ 0 1 w.heap.size _ ho hW.size (by have := H9.out k hk; omega) (by omega) (by omega)).mono ?_; rintro e w2 ⟨v2, rfl, ho2, hb2⟩)
        go_roundw
        case rel => exact ⟨k + 1, by omega, by go_num, by unfold flags; rw [HT.out]; exact ho2, hW.trans hb2⟩
        case measure => simp [intOf]; omega
      | false =>
        have hb : flagB false = num 0 0 := rfl
        rw [hb] at HT
        clear hb
        go_wp2_with (go_at_call 80; refine (number_any _ _ 0 0 w.heap.size _ ho hW.size (by have := H9.out k hk; omega) (by omega) (by omega)).mono ?_; rintro e w2 ⟨v2, rfl, ho2, hb2⟩)
        go_roundw
        case rel => exact ⟨k + 1, by omega, by go_num, by unfold flags; rw [HT.out]; exact ho2, hW.trans hb2⟩
        case measure => simp [intOf]; omega
    · obtain rfl : k = len := by omega
      have ht : ns.take k = ns := List.take_of_length_le (by rw [HL.out]; omega)
      have h9 := H9.out k hk
      have hlt9 := HLT.out k
      rw [ht] at ho h9 hlt9
      have hrb := ho.rb hlt9 (by omega)
      clear ho
      have HWK := Lib.hid (HW.out.kept hW)
      have HRB := Lib.hid hrb
      clear hrb hlt9 ht
      go_wp2_with (first
        | (go_at_call 81; refine (target_any _ _).mono ?_; rintro e w2 ⟨rfl, rfl⟩)
        | (go_at_call 89; refine (keep_any _ _ _ _ _ _ _ HWK.out HRB.out (by have := HLN.out; omega)).mono ?_; rintro e w2 ⟨rfl, hwr⟩))
      go_end0
      exact ⟨rfl, hwr.after hW⟩

set_option maxHeartbeats 1000000 in
theorem flag_nil (ns : List Bool) (x : Value) (w : World) (hx : RV w x (ns.map fun n => .bool n)) :
    Calls Try.prog 51 #[.pointer none, x] w fun e w' => e = .returned (.tuple #[]) ∧ Below w.heap.size w w' := by
  obtain ⟨hlen, a, cap, rfl, hcell⟩ := hx
  simp only [List.length_map] at hlen hcell ⊢
  obtain ⟨len, hl⟩ : ∃ len, ns.length = len := ⟨_, rfl⟩
  rw [hl] at hlen hcell ⊢
  have hcase : ∀ k, k < len → ∃ b off, a = some ⟨b, off, none⟩ ∧ b < w.heap.size ∧ w.cell? ⟨b, off + k, none⟩ = some (.bool (ns.getD k false)) := by
    intro k hk
    obtain ⟨b, off, ha, hc⟩ := hcell k hk
    refine ⟨b, off, ha, (cell_spot hc).2, hc.trans ?_⟩
    simp [show k < ns.length by omega]
  have HL := Lib.hid hl
  have HS := Lib.hid hcase
  have hl9 : ∀ k, k ≤ len → (flags (ns.take k)).length ≤ 9 * k := by
    intro k hk
    have := flat_len flagB 9 (ns.take k) (fun y hy => flagB_len9 y)
    rw [List.length_take] at this
    unfold flags; omega
  have hlt9 : ∀ k, ∀ c ∈ flags (ns.take k), c < 256 := fun k => flat_lt flagB (ns.take k) (fun y hy => flagB_lt y)
  have H9 := Lib.hid hl9
  have HLT := Lib.hid hlt9
  clear hl hcell hcase hl9 hlt9
  go_enter Try.func51, Try.ntmps51
  go_wp2_with fail
  go_loopw [4, 8] (fun v i wr => ∃ k : Nat, k ≤ len ∧ i = .int .i64 k ∧ OB wr w.heap.size v (flags (ns.take k)) ∧ Below w.heap.size w wr) (fun _ i _ => len - (intOf i).toNat)
  case atStart => exact ⟨0, Nat.zero_le _, rfl, World.ownsRow_nil _ _ _ _, Below.refl _ _⟩
  case round =>
    obtain ⟨k, hk, rfl, ho, hW⟩ := hrel
    by_cases hlt : k < len
    · obtain ⟨b', off, rfl, hbs, hc⟩ := HS.out k hlt
      have hc' := (hW.cell (p := ⟨b', off + k, none⟩) hbs).trans hc
      have hlp : k < ns.length := by rw [HL.out]; exact hlt
      have HT := Lib.hid (flat_snoc flagB ns k false hlp)
      obtain ⟨z, hz⟩ : ∃ z, ns.getD k false = z := ⟨_, rfl⟩
      rw [hz] at hc' HT
      clear hc hz hlp
      cases z with
      | true =>
        have hb : flagB true = num 0 1 := rfl
        rw [hb] at HT
        clear hb
        go_wp2_with (go_at_call 80; refine (number_any _ _ 0 1 w.heap.size _ ho hW.size (by have := H9.out k hk; omega) (by omega) (by omega)).mono ?_; rintro e w2 ⟨v2, rfl, ho2, hb2⟩)
        go_roundw
        case rel => exact ⟨k + 1, by omega, by go_num, by unfold flags; rw [HT.out]; exact ho2, hW.trans hb2⟩
        case measure => simp [intOf]; omega
      | false =>
        have hb : flagB false = num 0 0 := rfl
        rw [hb] at HT
        clear hb
        go_wp2_with (go_at_call 80; refine (number_any _ _ 0 0 w.heap.size _ ho hW.size (by have := H9.out k hk; omega) (by omega) (by omega)).mono ?_; rintro e w2 ⟨v2, rfl, ho2, hb2⟩)
        go_roundw
        case rel => exact ⟨k + 1, by omega, by go_num, by unfold flags; rw [HT.out]; exact ho2, hW.trans hb2⟩
        case measure => simp [intOf]; omega
    · obtain rfl : k = len := by omega
      have ht : ns.take k = ns := List.take_of_length_le (by rw [HL.out]; omega)
      have h9 := H9.out k hk
      have hlt9 := HLT.out k
      rw [ht] at ho h9 hlt9
      have hrb := ho.rb hlt9 (by omega)
      clear ho
      clear hrb hlt9 ht
      go_wp2_with (first
        | (go_at_call 81; refine (target_nil _).mono ?_; rintro e w2 ⟨rfl, rfl⟩)
        | (go_at_call 88; refine (drop_any _ _).mono ?_; rintro e w2 ⟨rfl, rfl⟩))
      go_end0
      exact ⟨rfl, hW⟩
end Go.Proofs.Ytnhaakdjijjinaa

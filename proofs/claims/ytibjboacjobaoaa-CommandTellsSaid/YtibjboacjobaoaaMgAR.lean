import Derived.Test.YtibjboacjobaoaaMgAQ
import Derived.WalkSpells
import Derived.Lib.AppendStr
namespace Go.Proofs.Ytibjboacjobaoaa
open Go.RowKit
/- Walks of quill: numbers with a sign, and flags. -/
open Go.RowKit
theorem intB_len9 (z : Int) (h0 : -9223372036854775808 ≤ z) (h1 : z ≤ 9223372036854775807) : (intB z).length ≤ 9 := by
  unfold intB
  split
  · exact num_len9 _ _ (by omega)
  · exact num_len9 _ _ (by omega)
theorem intB_lt (z : Int) (h0 : -9223372036854775808 ≤ z) (h1 : z ≤ 9223372036854775807) : ∀ c ∈ intB z, c < 256 := by
  unfold intB
  split
  · exact num_lt' _ _ (by omega) (by omega)
  · exact num_lt' _ _ (by omega) (by omega)
theorem flagB_len9 (x : Bool) : (flagB x).length ≤ 9 := by
  unfold flagB
  split
  · exact num_len9 _ _ (by omega)
  · exact num_len9 _ _ (by omega)
theorem flagB_lt (x : Bool) : ∀ c ∈ flagB x, c < 256 := by
  unfold flagB
  split
  · exact num_lt' _ _ (by omega) (by omega)
  · exact num_lt' _ _ (by omega) (by omega)

set_option maxHeartbeats 1000000 in
theorem int_wr (b base : Nat) (v : Value) (bs : List Nat) (ns : List Int) (x : Value) (w : World) (hw : WR w b base v bs) (hbl : bs.length ≤ 10000000) (hx : RV w x (ns.map fun n => .int .i64 n)) (hn : ∀ n ∈ ns, -9223372036854775808 ≤ n ∧ n ≤ 9223372036854775807) :
    Calls Try.prog 63 #[.pointer (some ⟨b, 0, none⟩), x] w fun e w' => e = .returned (.tuple #[]) ∧ Wrote b base v w (bs ++ ints ns) w' := by
  obtain ⟨hlen, a, cap, rfl, hcell⟩ := hx
  simp only [List.length_map] at hlen hcell ⊢
  obtain ⟨len, hl⟩ : ∃ len, ns.length = len := ⟨_, rfl⟩
  rw [hl] at hlen hcell ⊢
  have hcase : ∀ k, k < len → ∃ b off, a = some ⟨b, off, none⟩ ∧ b < w.heap.size ∧ w.cell? ⟨b, off + k, none⟩ = some (.int .i64 (ns.getD k 0)) := by
    intro k hk
    obtain ⟨b, off, ha, hc⟩ := hcell k hk
    refine ⟨b, off, ha, (cell_spot hc).2, hc.trans ?_⟩
    simp [show k < ns.length by omega]
  have HL := Lib.hid hl
  have HS := Lib.hid hcase
  have HN := Lib.hid hn
  have HW := Lib.hid hw
  have HLN := Lib.hid hbl
  clear hw hbl
  have hl9 : ∀ k, k ≤ len → (ints (ns.take k)).length ≤ 9 * k := by
    intro k hk
    have := flat_len intB 9 (ns.take k) (fun y hy => intB_len9 y (hn y (List.mem_of_mem_take hy)).1 (hn y (List.mem_of_mem_take hy)).2)
    rw [List.length_take] at this
    unfold ints; omega
  have hlt9 : ∀ k, ∀ c ∈ ints (ns.take k), c < 256 := fun k => flat_lt intB (ns.take k) (fun y hy => intB_lt y (hn y (List.mem_of_mem_take hy)).1 (hn y (List.mem_of_mem_take hy)).2)
  have H9 := Lib.hid hl9
  have HLT := Lib.hid hlt9
  clear hl hcell hcase hn hl9 hlt9
  go_enter Try.func63, Try.ntmps63
  go_wp2_with fail
  go_loopw [4, 8] (fun v i wr => ∃ k : Nat, k ≤ len ∧ i = .int .i64 k ∧ OB wr w.heap.size v (ints (ns.take k)) ∧ Below w.heap.size w wr) (fun _ i _ => len - (intOf i).toNat)
  case atStart => exact ⟨0, Nat.zero_le _, rfl, World.ownsRow_nil _ _ _ _, Below.refl _ _⟩
  case round =>
    obtain ⟨k, hk, rfl, ho, hW⟩ := hrel
    by_cases hlt : k < len
    · obtain ⟨b', off, rfl, hbs, hc⟩ := HS.out k hlt
      have hc' := (hW.cell (p := ⟨b', off + k, none⟩) hbs).trans hc
      have hlp : k < ns.length := by rw [HL.out]; exact hlt
      have HT := Lib.hid (flat_snoc intB ns k 0 hlp)
      have HM := Lib.hid (HN.out (ns.getD k 0) (by simp [hlp]))
      obtain ⟨z, hz⟩ : ∃ z, ns.getD k 0 = z := ⟨_, rfl⟩
      rw [hz] at hc' HT HM
      have hzb := HM.out
      clear hc hz hlp HM
      by_cases h0 : z < 0
      · obtain ⟨m, hm⟩ : ∃ m : Nat, -1 - z = (m : Int) := ⟨(-1 - z).toNat, by omega⟩
        have hb : intB z = num 128 m := by unfold intB; rw [if_pos h0, hm, Int.toNat_natCast]
        have hx := not_neg z h0 hzb.1
        rw [hm] at hx
        rw [hb] at HT
        have HM := Lib.hid (show m < 18446744073709551616 by omega)
        have hmb : (m : Int) ≤ 9223372036854775807 := by omega
        clear hb hm hzb
        have hu : IntKind.u64.wrap (m : Int) = (m : Int) := IntWalk.u64_in _ ⟨by omega, by omega⟩
        go_wp2_with fail
        refine (number_any _ _ 128 m w.heap.size _ ho hW.size (by have := H9.out k hk; omega) (by omega) HM.out).mono ?_
        rintro e w2 ⟨v2, rfl, ho2, hb2⟩
        clear hu
        go_wp2_with fail
        go_roundw
        case rel => exact ⟨k + 1, by omega, by go_num, by unfold ints; rw [HT.out]; exact ho2, hW.trans hb2⟩
        case measure => simp [intOf]; omega
      · obtain ⟨m, rfl⟩ : ∃ m : Nat, z = (m : Int) := ⟨z.toNat, by omega⟩
        have hb : intB (m : Int) = num 0 m := by unfold intB; rw [if_neg h0, Int.toNat_natCast]
        rw [hb] at HT
        have HM := Lib.hid (show m < 18446744073709551616 by omega)
        have hmb : (m : Int) ≤ 9223372036854775807 := hzb.2
        clear hb h0 hzb
        go_wp2_with (go_at_call 117; refine (number_any _ _ 0 m w.heap.size _ ho hW.size (by have := H9.out k hk; omega) (by omega) HM.out).mono ?_; rintro e w2 ⟨v2, rfl, ho2, hb2⟩)
        go_roundw
        case rel => exact ⟨k + 1, by omega, by go_num, by unfold ints; rw [HT.out]; exact ho2, hW.trans hb2⟩
        case measure => simp [intOf]; omega
    · obtain rfl : k = len := by omega
      have ht : ns.take k = ns := List.take_of_length_le (by rw [HL.out]; omega)
      have h9 := H9.out k hk
      have hlt9 := HLT.out k
      rw [ht] at ho h9 hlt9
      have hrb := ho.rb hlt9 (by omega)
      clear ho
      have HWK := Lib.hid (HW.out.kept hW)
      have HRB := Lib.hid hrb
      clear hrb hlt9 ht
      go_wp2_with (first
        | (go_at_call 118; refine (target_any _ _).mono ?_; rintro e w2 ⟨rfl, rfl⟩)
        | (go_at_call 137; refine (keep_any _ _ _ _ _ _ _ HWK.out HRB.out (by have := HLN.out; omega)).mono ?_; rintro e w2 ⟨rfl, hwr⟩))
      go_end0
      exact ⟨rfl, hwr.after hW⟩

set_option maxHeartbeats 1000000 in
theorem int_nil (ns : List Int) (x : Value) (w : World) (hx : RV w x (ns.map fun n => .int .i64 n)) (hn : ∀ n ∈ ns, -9223372036854775808 ≤ n ∧ n ≤ 9223372036854775807) :
    Calls Try.prog 63 #[.pointer none, x] w fun e w' => e = .returned (.tuple #[]) ∧ Below w.heap.size w w' := by
  obtain ⟨hlen, a, cap, rfl, hcell⟩ := hx
  simp only [List.length_map] at hlen hcell ⊢
  obtain ⟨len, hl⟩ : ∃ len, ns.length = len := ⟨_, rfl⟩
  rw [hl] at hlen hcell ⊢
  have hcase : ∀ k, k < len → ∃ b off, a = some ⟨b, off, none⟩ ∧ b < w.heap.size ∧ w.cell? ⟨b, off + k, none⟩ = some (.int .i64 (ns.getD k 0)) := by
    intro k hk
    obtain ⟨b, off, ha, hc⟩ := hcell k hk
    refine ⟨b, off, ha, (cell_spot hc).2, hc.trans ?_⟩
    simp [show k < ns.length by omega]
  have HL := Lib.hid hl
  have HS := Lib.hid hcase
  have HN := Lib.hid hn
  have hl9 : ∀ k, k ≤ len → (ints (ns.take k)).length ≤ 9 * k := by
    intro k hk
    have := flat_len intB 9 (ns.take k) (fun y hy => intB_len9 y (hn y (List.mem_of_mem_take hy)).1 (hn y (List.mem_of_mem_take hy)).2)
    rw [List.length_take] at this
    unfold ints; omega
  have hlt9 : ∀ k, ∀ c ∈ ints (ns.take k), c < 256 := fun k => flat_lt intB (ns.take k) (fun y hy => intB_lt y (hn y (List.mem_of_mem_take hy)).1 (hn y (List.mem_of_mem_take hy)).2)
  have H9 := Lib.hid hl9
  have HLT := Lib.hid hlt9
  clear hl hcell hcase hn hl9 hlt9
  go_enter Try.func63, Try.ntmps63
  go_wp2_with fail
  go_loopw [4, 8] (fun v i wr => ∃ k : Nat, k ≤ len ∧ i = .int .i64 k ∧ OB wr w.heap.size v (ints (ns.take k)) ∧ Below w.heap.size w wr) (fun _ i _ => len - (intOf i).toNat)
  case atStart => exact ⟨0, Nat.zero_le _, rfl, World.ownsRow_nil _ _ _ _, Below.refl _ _⟩
  case round =>
    obtain ⟨k, hk, rfl, ho, hW⟩ := hrel
    by_cases hlt : k < len
    · obtain ⟨b', off, rfl, hbs, hc⟩ := HS.out k hlt
      have hc' := (hW.cell (p := ⟨b', off + k, none⟩) hbs).trans hc
      have hlp : k < ns.length := by rw [HL.out]; exact hlt
      have HT := Lib.hid (flat_snoc intB ns k 0 hlp)
      have HM := Lib.hid (HN.out (ns.getD k 0) (by simp [hlp]))
      obtain ⟨z, hz⟩ : ∃ z, ns.getD k 0 = z := ⟨_, rfl⟩
      rw [hz] at hc' HT HM
      have hzb := HM.out
      clear hc hz hlp HM
      by_cases h0 : z < 0
      · obtain ⟨m, hm⟩ : ∃ m : Nat, -1 - z = (m : Int) := ⟨(-1 - z).toNat, by omega⟩
        have hb : intB z = num 128 m := by unfold intB; rw [if_pos h0, hm, Int.toNat_natCast]
        have hx := not_neg z h0 hzb.1
        rw [hm] at hx
        rw [hb] at HT
        have HM := Lib.hid (show m < 18446744073709551616 by omega)
        have hmb : (m : Int) ≤ 9223372036854775807 := by omega
        clear hb hm hzb
        have hu : IntKind.u64.wrap (m : Int) = (m : Int) := IntWalk.u64_in _ ⟨by omega, by omega⟩
        go_wp2_with fail
        refine (number_any _ _ 128 m w.heap.size _ ho hW.size (by have := H9.out k hk; omega) (by omega) HM.out).mono ?_
        rintro e w2 ⟨v2, rfl, ho2, hb2⟩
        clear hu
        go_wp2_with fail
        go_roundw
        case rel => exact ⟨k + 1, by omega, by go_num, by unfold ints; rw [HT.out]; exact ho2, hW.trans hb2⟩
        case measure => simp [intOf]; omega
      · obtain ⟨m, rfl⟩ : ∃ m : Nat, z = (m : Int) := ⟨z.toNat, by omega⟩
        have hb : intB (m : Int) = num 0 m := by unfold intB; rw [if_neg h0, Int.toNat_natCast]
        rw [hb] at HT
        have HM := Lib.hid (show m < 18446744073709551616 by omega)
        have hmb : (m : Int) ≤ 9223372036854775807 := hzb.2
        clear hb h0 hzb
        go_wp2_with (go_at_call 117; refine (number_any _ _ 0 m w.heap.size _ ho hW.size (by have := H9.out k hk; omega) (by omega) HM.out).mono ?_; rintro e w2 ⟨v2, rfl, ho2, hb2⟩)
        go_roundw
        case rel => exact ⟨k + 1, by omega, by go_num, by unfold ints; rw [HT.out]; exact ho2, hW.trans hb2⟩
        case measure => simp [intOf]; omega
    · obtain rfl : k = len := by omega
      have ht : ns.take k = ns := List.take_of_length_le (by rw [HL.out]; omega)
      have h9 := H9.out k hk
      have hlt9 := HLT.out k
      rw [ht] at ho h9 hlt9
      have hrb := ho.rb hlt9 (by omega)
      clear ho
      clear hrb hlt9 ht
      go_wp2_with (first
        | (go_at_call 118; refine (target_nil _).mono ?_; rintro e w2 ⟨rfl, rfl⟩)
        | (go_at_call 136; refine (drop_any _ _).mono ?_; rintro e w2 ⟨rfl, rfl⟩))
      go_end0
      exact ⟨rfl, hW⟩

/- Walks of quill: strings and raw bytes; what a writer has. -/
open Go.RowKit

/-- A string's bytes. -/
def sB (s : ByteArray) : List Nat := s.data.toList.map UInt8.toNat
theorem sB_len (s : ByteArray) : (sB s).length = s.size := by rw [sB, List.length_map, Array.length_toList]; rfl
theorem sB_get (s : ByteArray) (i : Nat) (h : i < s.data.size) : (sB s).getD i 0 = (s.data[i]).toNat := by
  rw [sB, List.getD_eq_getElem?_getD, List.getElem?_map, Array.getElem?_toList, Array.getElem?_eq_getElem h]; rfl
theorem sB_lt (s : ByteArray) : ∀ c ∈ sB s, c < 256 := by
  intro c hc
  simp only [sB, List.mem_map] at hc
  obtain ⟨x, _, rfl⟩ := hc
  exact x.toNat_lt
theorem str_bytes (w : World) (s : ByteArray) (hs : s.size ≤ 100000) :
    ∃ v' w', (convert 9 36 (.string s)).run Try.prog w = .ok v' w' ∧ RB w' v' (sB s) ∧ Below w.heap.size w w' := by
  have hr := run_bytes_of_string (P := Try.prog) w 9 36 5 s Try.underlying9 Try.underlying36 Try.underlying5
  refine ⟨_, _, hr, ⟨sB_lt s, by rw [sB_len]; omega, .inr ⟨_, _, by rw [sB_len], ?_, ?_, ?_⟩⟩, ?_⟩
  · rw [sB_len]; exact grownCap_ge w s.size 0 5
  · exact grownCap_le_maxLen w s.size 0 5 (by unfold maxLen; omega)
  · intro i hi
    rw [sB_len] at hi
    rw [add_at]
    have := World.cell?_alloc_mark w.drew (bytesRow s (grownCap w s.size 0 5)) 5 ((bytesRow s (grownCap w s.size 0 5)).size, (bytesRow s (grownCap w s.size 0 5)).size + 1) i
    rw [Nat.zero_add]
    refine this.trans ?_
    have hi2 : i < s.data.size := hi
    rw [sB_get s i hi2, bytesRow, Array.getElem?_append_left (by simpa using hi2), Array.getElem?_map, Array.getElem?_eq_getElem hi2]
    rfl
  · exact ((Below.refl _ _).drew).alloc (by simp) _

theorem WR.lt {w : World} {b base : Nat} {v : Value} {bs : List Nat} (h : WR w b base v bs) : b < w.heap.size := by have := h.2.1; have := h.2.2.1; omega
theorem Wrote.then {b base : Nat} {v : Value} {w w1 w' : World} {bs cs : List Nat} (h : Wrote b base v w bs w1) (k : ∀ v1, WR w1 b base v1 bs → Wrote b base v1 w1 cs w') : Wrote b base v w cs w' := by
  obtain ⟨v1, h1, h2, h3⟩ := h
  obtain ⟨v2, k1, k2, k3⟩ := k v1 h1
  exact ⟨v2, k1, h2.trans h3 k2, h3.trans h2.size k3⟩

theorem Wrote.join {b base : Nat} {v v1 : Value} {w w1 w' : World} {bs cs : List Nat} (h1 : WR w1 b base v1 bs) (h2 : Turn b v w w1) (h3 : Moved v w v1) (k : Wrote b base v1 w1 cs w') : Wrote b base v w cs w' := by
  obtain ⟨v2, k1, k2, k3⟩ := k
  exact ⟨v2, k1, h2.trans h3 k2, h3.trans h2.size k3⟩
theorem num_one (b base : Nat) (v : Value) (n : Nat) (bs : List Nat) (w : World) (hw : WR w b base v bs) (hbl : bs.length ≤ 10000000) (hn : n < 18446744073709551616) :
    Calls Try.prog 62 #[.pointer (some ⟨b, 0, none⟩), .slice (some ⟨w.heap.size, 0, none⟩) 1 1] (w.alloc (.cells #[.int .u64 ((n : Nat) : Int)] 22)) fun e w' => e = .returned (.tuple #[]) ∧ Wrote b base v w (bs ++ num 0 n) w' := by
  have hB : Below w.heap.size w (w.alloc (.cells #[.int .u64 ((n : Nat) : Int)] 22)) := (Below.refl _ _).alloc (Nat.le_refl _) _
  have := num_wr b base v bs [n] _ _ (hw.kept hB) hbl (rv_one w w.heap.size 22 _ rfl) (by simpa using hn)
  have e : nums [n] = num 0 n := by simp [nums]
  rw [e] at this
  exact this.mono fun _ _ h => ⟨h.1, h.2.after hB⟩
theorem num_one_nil (n : Nat) (w : World) (hn : n < 18446744073709551616) :
    Calls Try.prog 62 #[.pointer none, .slice (some ⟨w.heap.size, 0, none⟩) 1 1] (w.alloc (.cells #[.int .u64 ((n : Nat) : Int)] 22)) fun e w' => e = .returned (.tuple #[]) ∧ Below w.heap.size w w' := by
  have hB : Below w.heap.size w (w.alloc (.cells #[.int .u64 ((n : Nat) : Int)] 22)) := (Below.refl _ _).alloc (Nat.le_refl _) _
  have := num_nil [n] _ _ (rv_one w w.heap.size 22 _ rfl) (by simpa using hn)
  exact this.mono fun _ _ h => ⟨h.1, hB.trans (h.2.mono hB.size)⟩
theorem int_one (b base : Nat) (v : Value) (n : Int) (bs : List Nat) (w : World) (hw : WR w b base v bs) (hbl : bs.length ≤ 10000000) (h0 : -9223372036854775808 ≤ n) (h1 : n ≤ 9223372036854775807) :
    Calls Try.prog 63 #[.pointer (some ⟨b, 0, none⟩), .slice (some ⟨w.heap.size, 0, none⟩) 1 1] (w.alloc (.cells #[.int .i64 n] 2)) fun e w' => e = .returned (.tuple #[]) ∧ Wrote b base v w (bs ++ intB n) w' := by
  have hB : Below w.heap.size w (w.alloc (.cells #[.int .i64 n] 2)) := (Below.refl _ _).alloc (Nat.le_refl _) _
  have := int_wr b base v bs [n] _ _ (hw.kept hB) hbl (rv_one w w.heap.size 2 _ rfl) (by simp; omega)
  have e : ints [n] = intB n := by simp [ints]
  rw [e] at this
  exact this.mono fun _ _ h => ⟨h.1, h.2.after hB⟩
theorem int_one_nil (n : Int) (w : World) (h0 : -9223372036854775808 ≤ n) (h1 : n ≤ 9223372036854775807) :
    Calls Try.prog 63 #[.pointer none, .slice (some ⟨w.heap.size, 0, none⟩) 1 1] (w.alloc (.cells #[.int .i64 n] 2)) fun e w' => e = .returned (.tuple #[]) ∧ Below w.heap.size w w' := by
  have hB : Below w.heap.size w (w.alloc (.cells #[.int .i64 n] 2)) := (Below.refl _ _).alloc (Nat.le_refl _) _
  have := int_nil [n] _ _ (rv_one w w.heap.size 2 _ rfl) (by simp; omega)
  exact this.mono fun _ _ h => ⟨h.1, hB.trans (h.2.mono hB.size)⟩
/- Walks of quill: what a writer has; and of its reference: the bytes by the text. -/
open Go.RowKit
/-- The call hands back bytes of its own, and has turned nothing that was there. -/
def Owned (w : World) (bs : List Nat) (e : Ending) (w' : World) : Prop := ∃ v', e = .returned v' ∧ OB w' w.heap.size v' bs ∧ Below w.heap.size w w'
theorem ob_empty (w : World) (b : Nat) (hb : b = w.heap.size) : OB (w.alloc (.cells #[] 5)) w.heap.size (.slice (some ⟨b, 0, none⟩) 0 0) [] := by
  subst hb
  exact World.ownsRow_lit w #[] 0 (Nat.le_refl _) (by simp) rfl

/-- bytes.Clone. -/
theorem bclone_any (v : Value) (bs : List Nat) (w : World) (hb : RB w v bs) : Calls Try.prog 106 #[v] w (Owned w bs) := by
  rcases hb.2.2 with ⟨rfl, rfl⟩ | ⟨x, cap, rfl, _, _, _⟩
  · have hn := fun (w : World) (n c : Nat) => Lib.run_eql_slice_nil (P := Try.prog) w 36 5 none n c 0 0 Try.underlying36
    go_enter Try.func106, Try.ntmps106
    go_wp2
    go_ret
    exact ⟨_, rfl, World.ownsRow_nil _ _ _ _, Below.refl _ _⟩
  · have hn := fun (w : World) (n c : Nat) => Lib.run_eql_slice_nil (P := Try.prog) w 36 5 (some x) n c 0 0 Try.underlying36
    obtain ⟨n, hnn⟩ : ∃ n, bs.length = n := ⟨_, rfl⟩
    have HB := Lib.hid hb
    have hl := hb.2.1
    rw [hnn] at hl ⊢
    have HN := Lib.hid hnn
    clear hb hnn
    go_enter Try.func106, Try.ntmps106
    go_wp2_with (first
      | (at_builtin; refine append_rb rfl _ _ rfl w.heap.size _ _ [] bs rfl rfl (ob_empty _ _ rfl) (by have := HB.out.kept ((Below.refl _ _).alloc (Nat.le_refl _) (.cells #[] 5)); rw [HN.out] at this; exact this) (by have := HN.out; simp; omega) (by simp) ?_; intro v1 w1 ho1 hg1; have hb1 := (ob_empty w _ rfl).below hg1 ((Below.refl w.heap.size w).alloc (Nat.le_refl _) _) (by simp); clear hg1))
    go_ret
    exact ⟨_, rfl, ho1, hb1⟩


theorem bytes_wr (b base : Nat) (v : Value) (bs : List Nat) (w : World) (hw : WR w b base v bs) (hl : bs.length ≤ 10000000) : Calls Try.prog 43 #[.pointer (some ⟨b, 0, none⟩)] w (Owned w bs) := by
  have hc := cell_of_one hw.1
  have H := Lib.hid (bclone_any v bs w (hw.2.2.2.1.rb hw.2.2.2.2 (by omega)))
  clear hw hl
  go_enter Try.func43, Try.ntmps43
  go_wp2_with (go_at_call 106; refine (H.out).mono ?_; rintro e w' ⟨v', rfl, ho, hb⟩)
  go_ret
  exact ⟨v', rfl, ho, hb⟩
theorem bytes_nil (w : World) : Calls Try.prog 43 #[.pointer none] w fun e w' => e = .returned (.slice none 0 0) ∧ w = w' := by
  go_enter Try.func43, Try.ntmps43
  go_wp2
  go_ret
  exact ⟨rfl, rfl⟩

theorem RB.shapeN' {w : World} {v : Value} {bs : List Nat} {n : Nat} (h : RB w v bs) (hn : bs.length = n) : ∃ a cap, v = .slice a n cap := by
  obtain ⟨a, cap, hv, _, _⟩ := h.shape
  exact ⟨a, cap, by rw [← hn]; exact hv⟩
theorem ob_lit1 (w : World) (b base : Nat) (y : Int) (x : Nat) (hb : b = w.heap.size) (hy : y = (x : Int)) (hB : base ≤ w.heap.size) : OB (w.alloc (.cells #[.int .u8 y] 5)) base (.slice (some ⟨b, 0, none⟩) 1 1) [x] := by
  subst hb
  subst hy
  exact World.ownsRow_lit w #[.int .u8 (x : Int)] 1 hB (by simp [maxLen]) rfl

set_option maxHeartbeats 1000000 in
theorem refnum_any (n : Nat) (w : World) (hn : n < 18446744073709551616) : Calls Try.prog 66 #[.int .u64 (n : Int)] w (Owned w (num 0 n)) := by
  have HN := Lib.hid hn
  clear hn
  go_enter Try.func66, Try.ntmps66
  go_wp2_with fail
  go_loopw [0, 3] (fun m v wr => ∃ j : Nat, j ≤ 8 ∧ m = .int .u64 ((n / 2 ^ (8 * j) : Nat) : Int) ∧ OB wr w.heap.size v (enc j n) ∧ Below w.heap.size w wr ∧ (0 < j → 2 ^ (8 * (j - 1)) ≤ n)) (fun m _ _ => (intOf m).toNat)
  case atStart => exact ⟨0, by omega, by simp, World.ownsRow_nil _ _ _ _, Below.refl _ _, by omega⟩
  case round =>
    obtain ⟨j, hj, rfl, ho, hW, hlow⟩ := hrel
    obtain ⟨m, hm⟩ : ∃ m, n / 2 ^ (8 * j) = m := ⟨_, rfl⟩
    rw [hm]
    have hrb := ho.rb (enc_lt j n) (by rw [enc_len]; omega)
    by_cases h0 : 0 < m
    · have h8 : j < 8 := by
        rcases Nat.lt_or_ge j 8 with h | h
        · exact h
        · have e : j = 8 := by omega
          subst e
          have := HN.out
          have e2 : (2 : Nat) ^ (8 * 8) = 18446744073709551616 := by decide
          rw [e2] at hm
          omega
      have hnext : n / 2 ^ (8 * (j + 1)) = m / 256 := by rw [← hm, Nat.div_div_eq_div_mul, Nat.mul_add, Nat.pow_add]
      have hlow2 : 2 ^ (8 * j) ≤ n := by
        rcases Nat.lt_or_ge n (2 ^ (8 * j)) with h | h
        · rw [Nat.div_eq_of_lt h] at hm; omega
        · exact h
      have hmn : m ≤ n := by rw [← hm]; exact Nat.div_le_self _ _
      have hwr : IntKind.u64.wrap ((m : Int) / 256) = (m : Int) / 256 := by have := HN.out; exact IntWalk.u64_in _ ⟨by omega, by omega⟩
      have HE := Lib.hid (show enc (j + 1) n = [m % 256] ++ enc j n by rw [enc, hm]; rfl)
      have HX := Lib.hid hnext
      have HL := Lib.hid hlow2
      have HR := Lib.hid (hrb.kept ((Below.refl _ _).alloc (Nat.le_refl _) (.cells #[.int .u8 ((m : Int) % 256)] 5)))
      have hsz := hW.size
      clear hm hrb hlow ho hnext hlow2 hmn
      go_wp2_with (at_builtin; refine append_rb rfl (.tmp 9) (.tmp 10) rfl w.heap.size _ _ [m % 256] (enc j n) rfl rfl (ob_lit1 _ _ _ _ _ rfl (by omega) hsz) HR.out (by rw [enc_len]; simp; omega) (by simp; omega) ?_; intro v2 w2 ho2 hg2; have hb2 := (ob_lit1 wr _ w.heap.size ((m : Int) % 256) (m % 256) rfl (by omega) hsz).below hg2 (hW.alloc hsz _) (by simp; omega); clear hg2)
      go_roundw
      case rel => exact ⟨j + 1, by omega, by rw [HX.out]; go_num, by rw [HE.out]; exact ho2, hb2, fun _ => HL.out⟩
      case measure => simp [intOf]; omega
    · obtain rfl : m = 0 := by omega
      have hup : n < 2 ^ (8 * j) := by
        rcases Nat.lt_or_ge n (2 ^ (8 * j)) with h | h
        · exact h
        · have := Nat.div_pos h (Nat.two_pow_pos _); omega
      have hz := sz_unique n j hup hlow
      have HE := Lib.hid (show num 0 n = [j] ++ enc j n by unfold num; rw [hz]; simp)
      have hel := enc_len j n
      obtain ⟨a, c, hv⟩ := hrb.shapeN' hel
      subst hv
      have HEL := Lib.hid hel
      have HR := Lib.hid hrb
      have hsz := hW.size
      clear hm hup hz hel hlow hrb ho
      go_wp2_with (at_builtin; refine append_rb rfl (.tmp 17) (.tmp 18) rfl w.heap.size _ _ [j] (enc j n) rfl rfl (ob_lit1 _ _ _ _ _ rfl (by omega) hsz) (HR.out.kept ((Below.refl _ _).alloc (Nat.le_refl _) _)) (by rw [HEL.out]; simp; omega) (by simp; omega) ?_; intro v2 w2 ho2 hg2; have hb2 := (ob_lit1 wr _ w.heap.size (j : Int) j rfl rfl hsz).below hg2 (hW.alloc hsz _) (by simp; omega); clear hg2)
      go_ret
      exact ⟨_, rfl, by rw [HE.out]; exact ho2, hb2⟩
/- Walks of quill's reference: numbers with a sign, flags, strings. -/
open Go.RowKit
theorem OB.byte {w : World} {base : Nat} {a : Option Addr} {n cap k : Nat} {bs : List Nat} (h : OB w base (.slice a n cap) bs) (hn : bs.length = n) (hk : k < n) :
    ∃ g, a = some ⟨g, 0, none⟩ ∧ base ≤ g ∧ w.cell? ⟨g, k, none⟩ = some (.int .u8 ((bs.getD k 0 : Nat) : Int)) ∧ w.frozen? ⟨g, k, none⟩ = false := by
  have h' := h
  rcases h'.2 with ⟨hv, h0⟩ | ⟨g, cap', cur, hv, hg, hh, _⟩
  · omega
  · simp only [Value.slice.injEq] at hv
    obtain ⟨rfl, rfl, rfl⟩ := hv
    refine ⟨g, rfl, hg, ?_, World.ownsRow.frozenAt h k⟩
    rw [World.ownsRow.cellAt h k (by omega)]
    exact cb_get bs k (by omega)
theorem OB.put {w : World} {base g n cap : Nat} {bs : List Nat} (h : OB w base (.slice (some ⟨g, 0, none⟩) n cap) bs) (hn : bs.length = n) (k c : Nat) : OB (w.setCell ⟨g, k, none⟩ (.int .u8 (c : Int))) base (.slice (some ⟨g, 0, none⟩) n cap) (bs.set k c) := by
  subst hn
  unfold OB
  have := (World.ownsRow.stored h k (.int .u8 (c : Int))).1
  rw [List.length_set]
  simpa [cb, List.map_set] using this


theorem num_put (m : Nat) : (num 0 m).set 0 (sz m + 128) = num 128 m := by unfold num; simp; omega

set_option maxHeartbeats 1000000 in
theorem refint_any (z : Int) (w : World) (h0 : -9223372036854775808 ≤ z) (h1 : z ≤ 9223372036854775807) : Calls Try.prog 69 #[.int .i64 z] w (Owned w (intB z)) := by
  by_cases hz : z < 0
  · obtain ⟨m, hm⟩ : ∃ m : Nat, -1 - z = (m : Int) := ⟨(-1 - z).toNat, by omega⟩
    have hb : intB z = num 128 m := by unfold intB; rw [if_pos hz, hm, Int.toNat_natCast]
    have H := Lib.hid (refnum_any m w (by omega))
    have hu : IntKind.u64.wrap (m : Int) = (m : Int) := IntWalk.u64_in _ ⟨by omega, by omega⟩
    have hs8 := sz_le m (by omega)
    have hl9 := num_len 0 m
    obtain ⟨d, hd⟩ : ∃ d, sz m = d := ⟨_, rfl⟩
    have hg0 : (num 0 m).getD 0 0 = d := by unfold num; simp [hd]
    have hp := num_put m
    rw [hd] at hs8 hl9 hp
    rw [hb]
    have HP := Lib.hid hp
    have HG := Lib.hid hg0
    have HL9 := Lib.hid hl9
    have hlt := num_lt' 0 m (by omega) (by omega)
    have HLT := Lib.hid hlt
    clear hb hd hl9 hg0 hp hlt
    go_enter Try.func69, Try.ntmps69
    go_wp2_with (go_at_call 66; refine (H.out).mono ?_; rintro e w' ⟨v', rfl, ho, hB⟩; obtain ⟨a, c, rfl⟩ := (ho.rb HLT.out (by have := HL9.out; omega)).shapeN' rfl; obtain ⟨g, rfl, hg, hcell, hfr⟩ := ho.byte rfl (by have := HL9.out; omega : 0 < (num 0 m).length); rw [HG.out] at hcell; have HO := Lib.hid (ho.put rfl 0 (d + 128)); rw [HP.out] at HO; obtain ⟨L, hL⟩ : ∃ L, (num 0 m).length = L := ⟨_, rfl⟩; rw [hL] at HO HL9 ⊢; have hL1 : 1 ≤ L := (by have := HL9.out; omega); clear hL ho)
    go_ret
    exact ⟨_, rfl, by have := HO.out; rwa [show ((d + 128 : Nat) : Int) = (d : Int) + 128 by omega] at this, hB.setCell (by exact hg) _⟩
  · obtain ⟨m, rfl⟩ : ∃ m : Nat, z = (m : Int) := ⟨z.toNat, by omega⟩
    have hb : intB (m : Int) = num 0 m := by unfold intB; rw [if_neg hz, Int.toNat_natCast]
    have H := Lib.hid (refnum_any m w (by omega))
    have hu : IntKind.u64.wrap (m : Int) = (m : Int) := IntWalk.u64_in _ ⟨by omega, by omega⟩
    have hm0 : (0 : Int) ≤ (m : Int) := by omega
    rw [hb]
    clear hb hz h0 h1
    go_enter Try.func69, Try.ntmps69
    go_wp2_with (go_at_call 66; refine (H.out).mono ?_; rintro e w' ⟨v', rfl, ho, hB⟩)
    go_ret
    exact ⟨_, rfl, ho, hB⟩
theorem strCells_cb (s : ByteArray) : Lib.strCells s = cb (sB s) := by
  unfold Lib.strCells cb sB
  rw [List.map_map]
  rfl
end Go.Proofs.Ytibjboacjobaoaa

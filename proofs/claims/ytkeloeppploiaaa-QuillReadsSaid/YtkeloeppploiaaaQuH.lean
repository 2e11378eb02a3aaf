/- Walks of quill: strings and raw bytes; what a writer has. -/
import Derived.Test.YtkeloeppploiaaaQuG
import Derived.WalkSpells
namespace Go.Proofs.Ytkeloeppploiaaa
open Go.RowKit

/-- A string's bytes. -/
def sB (s : ByteArray) : List Nat := s.data.toList.map UInt8.toNat
theorem sB_len (s : ByteArray) : (sB s).length = s.size := by rw [sB, List.length_map, Array.length_toList]; rfl
theorem sB_get (s : ByteArray) (i : Nat) (h : i < s.data.size) : (sB s).getD i 0 = (s.data[i]).toNat := by
  rw [sB, List.getD_eq_getElem?_getD, List.getElem?_map, Array.getElem?_toList, Array.getElem?_eq_getElem h]; rfl
theorem sB_lt (s : ByteArray) : ∀ c ∈ sB s, c < 256 := by
  intro c hc
  simp only [sB, List.mem_map] at hc
  obtain ⟨x, _, rfl⟩ := hc
  exact x.toNat_lt
theorem str_bytes (w : World) (s : ByteArray) (hs : s.size ≤ 100000) :
    ∃ v' w', (convert 9 27 (.string s)).run Try.prog w = .ok v' w' ∧ RB w' v' (sB s) ∧ Below w.heap.size w w' := by
  have hr := run_bytes_of_string (P := Try.prog) w 9 27 5 s Try.underlying9 Try.underlying27 Try.underlying5
  refine ⟨_, _, hr, ⟨sB_lt s, by rw [sB_len]; omega, .inr ⟨_, _, by rw [sB_len], ?_, ?_, ?_⟩⟩, ?_⟩
  · rw [sB_len]; exact grownCap_ge w s.size 0 5
  · exact grownCap_le_maxLen w s.size 0 5 (by unfold maxLen; omega)
  · intro i hi
    rw [sB_len] at hi
    rw [add_at]
    have := World.cell?_alloc_mark w.drew (bytesRow s (grownCap w s.size 0 5)) 5 ((bytesRow s (grownCap w s.size 0 5)).size, (bytesRow s (grownCap w s.size 0 5)).size + 1) i
    rw [Nat.zero_add]
    refine this.trans ?_
    have hi2 : i < s.data.size := hi
    rw [sB_get s i hi2, bytesRow, Array.getElem?_append_left (by simpa using hi2), Array.getElem?_map, Array.getElem?_eq_getElem hi2]
    rfl
  · exact ((Below.refl _ _).drew).alloc (by simp) _

theorem WR.lt {w : World} {b base : Nat} {v : Value} {bs : List Nat} (h : WR w b base v bs) : b < w.heap.size := by have := h.2.1; have := h.2.2.1; omega
theorem Wrote.then {b base : Nat} {v : Value} {w w1 w' : World} {bs cs : List Nat} (h : Wrote b base v w bs w1) (k : ∀ v1, WR w1 b base v1 bs → Wrote b base v1 w1 cs w') : Wrote b base v w cs w' := by
  obtain ⟨v1, h1, h2, h3⟩ := h
  obtain ⟨v2, k1, k2, k3⟩ := k v1 h1
  exact ⟨v2, k1, h2.trans h3 k2, h3.trans h2.size k3⟩

theorem Wrote.join {b base : Nat} {v v1 : Value} {w w1 w' : World} {bs cs : List Nat} (h1 : WR w1 b base v1 bs) (h2 : Turn b v w w1) (h3 : Moved v w v1) (k : Wrote b base v1 w1 cs w') : Wrote b base v w cs w' := by
  obtain ⟨v2, k1, k2, k3⟩ := k
  exact ⟨v2, k1, h2.trans h3 k2, h3.trans h2.size k3⟩
set_option maxHeartbeats 1000000 in
theorem raw_wr (b base : Nat) (v x : Value) (bs cs : List Nat) (w : World) (hw : WR w b base v bs) (hx : RB w x cs) (hl : bs.length + cs.length ≤ 100000000) :
    Calls Try.prog 46 #[.pointer (some ⟨b, 0, none⟩), x] w fun e w' => e = .returned (.tuple #[]) ∧ Wrote b base v w (bs ++ cs) w' := by
  have H := Lib.hid (keep_any b base v x bs cs w hw hx hl)
  clear hw hx hl
  go_enter Try.func46, Try.ntmps46
  go_wp2_with (first
    | (go_at_call 49; refine (target_any _ _).mono ?_; rintro e w2 ⟨rfl, rfl⟩)
    | (go_at_call 62; refine (H.out).mono ?_; rintro e w2 ⟨rfl, hwr⟩))
  go_end0
  exact ⟨rfl, hwr⟩
theorem raw_nil (x : Value) (w : World) : Calls Try.prog 46 #[.pointer none, x] w fun e w' => e = .returned (.tuple #[]) ∧ w = w' := by
  go_enter Try.func46, Try.ntmps46
  go_wp2_with (first
    | (go_at_call 49; refine (target_nil _).mono ?_; rintro e w2 ⟨rfl, rfl⟩)
    | (go_at_call 61; refine (drop_any _ _).mono ?_; rintro e w2 ⟨rfl, rfl⟩))
  go_end0
  exact ⟨rfl, rfl⟩

theorem num_one (b base : Nat) (v : Value) (n : Nat) (bs : List Nat) (w : World) (hw : WR w b base v bs) (hbl : bs.length ≤ 10000000) (hn : n < 18446744073709551616) :
    Calls Try.prog 17 #[.pointer (some ⟨b, 0, none⟩), .slice (some ⟨w.heap.size, 0, none⟩) 1 1] (w.alloc (.cells #[.int .u64 ((n : Nat) : Int)] 30)) fun e w' => e = .returned (.tuple #[]) ∧ Wrote b base v w (bs ++ num 0 n) w' := by
  have hB : Below w.heap.size w (w.alloc (.cells #[.int .u64 ((n : Nat) : Int)] 30)) := (Below.refl _ _).alloc (Nat.le_refl _) _
  have := num_wr b base v bs [n] _ _ (hw.kept hB) hbl (rv_one w w.heap.size 30 _ rfl) (by simpa using hn)
  have e : nums [n] = num 0 n := by simp [nums]
  rw [e] at this
  exact this.mono fun _ _ h => ⟨h.1, h.2.after hB⟩
theorem num_one_nil (n : Nat) (w : World) (hn : n < 18446744073709551616) :
    Calls Try.prog 17 #[.pointer none, .slice (some ⟨w.heap.size, 0, none⟩) 1 1] (w.alloc (.cells #[.int .u64 ((n : Nat) : Int)] 30)) fun e w' => e = .returned (.tuple #[]) ∧ Below w.heap.size w w' := by
  have hB : Below w.heap.size w (w.alloc (.cells #[.int .u64 ((n : Nat) : Int)] 30)) := (Below.refl _ _).alloc (Nat.le_refl _) _
  have := num_nil [n] _ _ (rv_one w w.heap.size 30 _ rfl) (by simpa using hn)
  exact this.mono fun _ _ h => ⟨h.1, hB.trans (h.2.mono hB.size)⟩
theorem int_one (b base : Nat) (v : Value) (n : Int) (bs : List Nat) (w : World) (hw : WR w b base v bs) (hbl : bs.length ≤ 10000000) (h0 : -9223372036854775808 ≤ n) (h1 : n ≤ 9223372036854775807) :
    Calls Try.prog 18 #[.pointer (some ⟨b, 0, none⟩), .slice (some ⟨w.heap.size, 0, none⟩) 1 1] (w.alloc (.cells #[.int .i64 n] 2)) fun e w' => e = .returned (.tuple #[]) ∧ Wrote b base v w (bs ++ intB n) w' := by
  have hB : Below w.heap.size w (w.alloc (.cells #[.int .i64 n] 2)) := (Below.refl _ _).alloc (Nat.le_refl _) _
  have := int_wr b base v bs [n] _ _ (hw.kept hB) hbl (rv_one w w.heap.size 2 _ rfl) (by simp; omega)
  have e : ints [n] = intB n := by simp [ints]
  rw [e] at this
  exact this.mono fun _ _ h => ⟨h.1, h.2.after hB⟩
theorem int_one_nil (n : Int) (w : World) (h0 : -9223372036854775808 ≤ n) (h1 : n ≤ 9223372036854775807) :
    Calls Try.prog 18 #[.pointer none, .slice (some ⟨w.heap.size, 0, none⟩) 1 1] (w.alloc (.cells #[.int .i64 n] 2)) fun e w' => e = .returned (.tuple #[]) ∧ Below w.heap.size w w' := by
  have hB : Below w.heap.size w (w.alloc (.cells #[.int .i64 n] 2)) := (Below.refl _ _).alloc (Nat.le_refl _) _
  have := int_nil [n] _ _ (rv_one w w.heap.size 2 _ rfl) (by simp; omega)
  exact this.mono fun _ _ h => ⟨h.1, hB.trans (h.2.mono hB.size)⟩
theorem flag_one (b base : Nat) (v : Value) (n : Bool) (bs : List Nat) (w : World) (hw : WR w b base v bs) (hbl : bs.length ≤ 10000000) :
    Calls Try.prog 42 #[.pointer (some ⟨b, 0, none⟩), .slice (some ⟨w.heap.size, 0, none⟩) 1 1] (w.alloc (.cells #[.bool n] 4)) fun e w' => e = .returned (.tuple #[]) ∧ Wrote b base v w (bs ++ flagB n) w' := by
  have hB : Below w.heap.size w (w.alloc (.cells #[.bool n] 4)) := (Below.refl _ _).alloc (Nat.le_refl _) _
  have := flag_wr b base v bs [n] _ _ (hw.kept hB) hbl (rv_one w w.heap.size 4 _ rfl)
  have e : flags [n] = flagB n := by simp [flags]
  rw [e] at this
  exact this.mono fun _ _ h => ⟨h.1, h.2.after hB⟩
theorem flag_one_nil (n : Bool) (w : World) :
    Calls Try.prog 42 #[.pointer none, .slice (some ⟨w.heap.size, 0, none⟩) 1 1] (w.alloc (.cells #[.bool n] 4)) fun e w' => e = .returned (.tuple #[]) ∧ Below w.heap.size w w' := by
  have hB : Below w.heap.size w (w.alloc (.cells #[.bool n] 4)) := (Below.refl _ _).alloc (Nat.le_refl _) _
  have := flag_nil [n] _ _ (rv_one w w.heap.size 4 _ rfl)
  exact this.mono fun _ _ h => ⟨h.1, hB.trans (h.2.mono hB.size)⟩

set_option maxHeartbeats 1000000 in
theorem text_wr (b base : Nat) (v : Value) (s : ByteArray) (bs : List Nat) (w : World) (hw : WR w b base v bs) (hl : bs.length ≤ 9000000) (hs : s.size ≤ 1000) :
    Calls Try.prog 44 #[.pointer (some ⟨b, 0, none⟩), .string s] w fun e w' => e = .returned (.tuple #[]) ∧ Wrote b base v w (bs ++ (num 0 s.size ++ sB s)) w' := by
  have hn9 := num_len9 0 s.size (by omega)
  have HW := Lib.hid hw
  have HL := Lib.hid hl
  have H9 := Lib.hid hn9
  clear hw hl hn9
  go_enter Try.func44, Try.ntmps44
  go_wp2_with (first
    | (go_at_call 17; refine (num_one b base v s.size bs w HW.out (by have := HL.out; omega) (by omega)).mono ?_; rintro e w1 ⟨rfl, v1, hw1, ht1, hm1⟩; obtain ⟨x, w2, hrun, hrb2, hb2⟩ := str_bytes w1 s (by omega); have HW2 := Lib.hid (hw1.kept hb2); have HRB := Lib.hid hrb2; clear hrb2)
    | (go_at_call 49; refine (target_any _ _).mono ?_; rintro e w3 ⟨rfl, rfl⟩)
    | (go_at_call 62; refine (keep_any _ _ _ _ _ _ _ HW2.out HRB.out (by have := HL.out; have := H9.out; rw [sB_len]; simp; omega)).mono ?_; rintro e w3 ⟨rfl, hwr⟩))
  go_end0
  exact ⟨rfl, by rw [← List.append_assoc]; exact Wrote.join hw1 ht1 hm1 (hwr.after hb2)⟩
set_option maxHeartbeats 1000000 in
theorem text_nil (s : ByteArray) (w : World) (hs : s.size ≤ 1000) :
    Calls Try.prog 44 #[.pointer none, .string s] w fun e w' => e = .returned (.tuple #[]) ∧ Below w.heap.size w w' := by
  go_enter Try.func44, Try.ntmps44
  go_wp2_with (first
    | (go_at_call 17; refine (num_one_nil s.size w (by omega)).mono ?_; rintro e w1 ⟨rfl, hb1⟩; obtain ⟨x, w2, hrun, hrb2, hb2⟩ := str_bytes w1 s (by omega))
    | (go_at_call 49; refine (target_nil _).mono ?_; rintro e w3 ⟨rfl, rfl⟩)
    | (go_at_call 61; refine (drop_any _ _).mono ?_; rintro e w3 ⟨rfl, rfl⟩))
  go_end0
  exact ⟨rfl, hb1.trans (hb2.mono hb1.size)⟩

/-- Len and Bytes. -/
theorem len_wr (b base : Nat) (v : Value) (bs : List Nat) (w : World) (hw : WR w b base v bs) (hl : bs.length ≤ 10000000) :
    Calls Try.prog 16 #[.pointer (some ⟨b, 0, none⟩)] w fun e w' => e = .returned (.int .i64 ((bs.length : Nat) : Int)) ∧ w = w' := by
  have hc := cell_of_one hw.1
  obtain ⟨a, cap, hv, _, _⟩ := (hw.2.2.2.1.rb hw.2.2.2.2 (by omega)).shape
  obtain ⟨n, hn⟩ : ∃ n, bs.length = n := ⟨_, rfl⟩
  rw [hv, hn] at hc
  rw [hn]
  clear hw hv hl hn
  go_enter Try.func16, Try.ntmps16
  go_wp2
  go_ret
  exact ⟨rfl, rfl⟩
theorem len_nil (w : World) : Calls Try.prog 16 #[.pointer none] w fun e w' => e = .returned (.int .i64 0) ∧ w = w' := by
  go_enter Try.func16, Try.ntmps16
  go_wp2
  go_ret
  exact ⟨rfl, rfl⟩
end Go.Proofs.Ytkeloeppploiaaa

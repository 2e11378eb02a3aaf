/- Walks of quill: strings and raw bytes; what a writer has. -/
import Derived.Test.YtnhaakdjijjinaaQuG
import Derived.WalkSpells
namespace Go.Proofs.Ytnhaakdjijjinaa
open Go.RowKit

/-- A string's bytes. -/
def sB (s : ByteArray) : List Nat := s.data.toList.map UInt8.toNat
theorem sB_len (s : ByteArray) : (sB s).length = s.size := by rw [sB, List.length_map, Array.length_toList]; rfl
theorem sB_get (s : ByteArray) (i : Nat) (h : i < s.data.size) : (sB s).getD i 0 = (s.data[i]).toNat := by
  rw [sB, List.getD_eq_getElem?_getD, List.getElem?_map, Array.getElem?_toList, Array.getElem?_eq_getElem h]; rfl
theorem sB_lt (s : ByteArray) : ∀ c ∈ sB s, c < 256 := by
  intro c hc
  simp only [sB, List.mem_map] at hc
  obtain ⟨x, _, rfl⟩ := hc
  exact x.toNat_lt
theorem str_bytes (w : World) (s : ByteArray) (hs : s.size ≤ 100000) :
    ∃ v' w', (convert 9 35 (.string s)).run Try.prog w = .ok v' w' ∧ RB w' v' (sB s) ∧ Below w.heap.size w w' := by
  have hr := run_bytes_of_string (P := Try.prog) w 9 35 5 s Try.underlying9 Try.underlying35 Try.underlying5
  refine ⟨_, _, hr, ⟨sB_lt s, by rw [sB_len]; omega, .inr ⟨_, _, by rw [sB_len], ?_, ?_, ?_⟩⟩, ?_⟩
  · rw [sB_len]; exact grownCap_ge w s.size 0 5
  · exact grownCap_le_maxLen w s.size 0 5 (by unfold maxLen; omega)
  · intro i hi
    rw [sB_len] at hi
    rw [add_at]
    have := World.cell?_alloc_mark w.drew (bytesRow s (grownCap w s.size 0 5)) 5 ((bytesRow s (grownCap w s.size 0 5)).size, (bytesRow s (grownCap w s.size 0 5)).size + 1) i
    rw [Nat.zero_add]
    refine this.trans ?_
    have hi2 : i < s.data.size := hi
    rw [sB_get s i hi2, bytesRow, Array.getElem?_append_left (by simpa using hi2), Array.getElem?_map, Array.getElem?_eq_getElem hi2]
    rfl
  · exact ((Below.refl _ _).drew).alloc (by simp) _

theorem WR.lt {w : World} {b base : Nat} {v : Value} {bs : List Nat} (h : WR w b base v bs) : b < w.heap.size := by have := h.2.1; have := h.2.2.1; omega
theorem Wrote.then {b base : Nat} {v : Value} {w w1 w' : World} {bs cs : List Nat} (h : Wrote b base v w bs w1) (k : ∀ v1, WR w1 b base v1 bs → Wrote b base v1 w1 cs w') : Wrote b base v w cs w' := by
  obtain ⟨v1, h1, h2, h3⟩ := h
  obtain ⟨v2, k1, k2, k3⟩ := k v1 h1
  exact ⟨v2, k1, h2.trans h3 k2, h3.trans h2.size k3⟩

theorem Wrote.join {b base : Nat} {v v1 : Value} {w w1 w' : World} {bs cs : List Nat} (h1 : WR w1 b base v1 bs) (h2 : Turn b v w w1) (h3 : Moved v w v1) (k : Wrote b base v1 w1 cs w') : Wrote b base v w cs w' := by
  obtain ⟨v2, k1, k2, k3⟩ := k
  exact ⟨v2, k1, h2.trans h3 k2, h3.trans h2.size k3⟩
theorem num_one (b base : Nat) (v : Value) (n : Nat) (bs : List Nat) (w : World) (hw : WR w b base v bs) (hbl : bs.length ≤ 10000000) (hn : n < 18446744073709551616) :
    Calls Try.prog 49 #[.pointer (some ⟨b, 0, none⟩), .slice (some ⟨w.heap.size, 0, none⟩) 1 1] (w.alloc (.cells #[.int .u64 ((n : Nat) : Int)] 23)) fun e w' => e = .returned (.tuple #[]) ∧ Wrote b base v w (bs ++ num 0 n) w' := by
  have hB : Below w.heap.size w (w.alloc (.cells #[.int .u64 ((n : Nat) : Int)] 23)) := (Below.refl _ _).alloc (Nat.le_refl _) _
  have := num_wr b base v bs [n] _ _ (hw.kept hB) hbl (rv_one w w.heap.size 23 _ rfl) (by simpa using hn)
  have e : nums [n] = num 0 n := by simp [nums]
  rw [e] at this
  exact this.mono fun _ _ h => ⟨h.1, h.2.after hB⟩
theorem num_one_nil (n : Nat) (w : World) (hn : n < 18446744073709551616) :
    Calls Try.prog 49 #[.pointer none, .slice (some ⟨w.heap.size, 0, none⟩) 1 1] (w.alloc (.cells #[.int .u64 ((n : Nat) : Int)] 23)) fun e w' => e = .returned (.tuple #[]) ∧ Below w.heap.size w w' := by
  have hB : Below w.heap.size w (w.alloc (.cells #[.int .u64 ((n : Nat) : Int)] 23)) := (Below.refl _ _).alloc (Nat.le_refl _) _
  have := num_nil [n] _ _ (rv_one w w.heap.size 23 _ rfl) (by simpa using hn)
  exact this.mono fun _ _ h => ⟨h.1, hB.trans (h.2.mono hB.size)⟩
theorem int_one (b base : Nat) (v : Value) (n : Int) (bs : List Nat) (w : World) (hw : WR w b base v bs) (hbl : bs.length ≤ 10000000) (h0 : -9223372036854775808 ≤ n) (h1 : n ≤ 9223372036854775807) :
    Calls Try.prog 50 #[.pointer (some ⟨b, 0, none⟩), .slice (some ⟨w.heap.size, 0, none⟩) 1 1] (w.alloc (.cells #[.int .i64 n] 2)) fun e w' => e = .returned (.tuple #[]) ∧ Wrote b base v w (bs ++ intB n) w' := by
  have hB : Below w.heap.size w (w.alloc (.cells #[.int .i64 n] 2)) := (Below.refl _ _).alloc (Nat.le_refl _) _
  have := int_wr b base v bs [n] _ _ (hw.kept hB) hbl (rv_one w w.heap.size 2 _ rfl) (by simp; omega)
  have e : ints [n] = intB n := by simp [ints]
  rw [e] at this
  exact this.mono fun _ _ h => ⟨h.1, h.2.after hB⟩
theorem int_one_nil (n : Int) (w : World) (h0 : -9223372036854775808 ≤ n) (h1 : n ≤ 9223372036854775807) :
    Calls Try.prog 50 #[.pointer none, .slice (some ⟨w.heap.size, 0, none⟩) 1 1] (w.alloc (.cells #[.int .i64 n] 2)) fun e w' => e = .returned (.tuple #[]) ∧ Below w.heap.size w w' := by
  have hB : Below w.heap.size w (w.alloc (.cells #[.int .i64 n] 2)) := (Below.refl _ _).alloc (Nat.le_refl _) _
  have := int_nil [n] _ _ (rv_one w w.heap.size 2 _ rfl) (by simp; omega)
  exact this.mono fun _ _ h => ⟨h.1, hB.trans (h.2.mono hB.size)⟩
theorem flag_one (b base : Nat) (v : Value) (n : Bool) (bs : List Nat) (w : World) (hw : WR w b base v bs) (hbl : bs.length ≤ 10000000) :
    Calls Try.prog 51 #[.pointer (some ⟨b, 0, none⟩), .slice (some ⟨w.heap.size, 0, none⟩) 1 1] (w.alloc (.cells #[.bool n] 4)) fun e w' => e = .returned (.tuple #[]) ∧ Wrote b base v w (bs ++ flagB n) w' := by
  have hB : Below w.heap.size w (w.alloc (.cells #[.bool n] 4)) := (Below.refl _ _).alloc (Nat.le_refl _) _
  have := flag_wr b base v bs [n] _ _ (hw.kept hB) hbl (rv_one w w.heap.size 4 _ rfl)
  have e : flags [n] = flagB n := by simp [flags]
  rw [e] at this
  exact this.mono fun _ _ h => ⟨h.1, h.2.after hB⟩
theorem flag_one_nil (n : Bool) (w : World) :
    Calls Try.prog 51 #[.pointer none, .slice (some ⟨w.heap.size, 0, none⟩) 1 1] (w.alloc (.cells #[.bool n] 4)) fun e w' => e = .returned (.tuple #[]) ∧ Below w.heap.size w w' := by
  have hB : Below w.heap.size w (w.alloc (.cells #[.bool n] 4)) := (Below.refl _ _).alloc (Nat.le_refl _) _
  have := flag_nil [n] _ _ (rv_one w w.heap.size 4 _ rfl)
  exact this.mono fun _ _ h => ⟨h.1, hB.trans (h.2.mono hB.size)⟩

end Go.Proofs.Ytnhaakdjijjinaa

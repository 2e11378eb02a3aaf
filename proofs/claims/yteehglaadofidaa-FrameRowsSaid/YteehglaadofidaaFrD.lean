/- Walks of frame: Whole and Wrap. -/
import Derived.Test.YteehglaadofidaaFrC
namespace Go.Proofs.Yteehglaadofidaa
open Go.RowKit

/-- What Whole hands back. -/
def Wholed (w : World) (k : Nat) (body : List Nat) (ok : Bool) (e : Ending) (w' : World) : Prop :=
  ∃ v', e = .returned (.tuple #[.int .u8 (k : Int), v', .bool ok]) ∧ RB w' v' body ∧ Below w.heap.size w w'
theorem whole_yes (v : Value) (bs : List Nat) (w : World) (hb : RB w v bs) (he : (takeOf bs).e = 0) (hn : (takeOf bs).n = bs.length) :
    Calls Try.prog 17 #[v] w (Wholed w (takeOf bs).kind (takeOf bs).body true) := by
  have HT := Lib.hid (take_any v bs w hb)
  generalize takeOf bs = t at *
  obtain ⟨k, body, n, e⟩ := t
  dsimp only at he hn
  subst he hn
  have hm := hb.2.1
  obtain ⟨a, cap, rfl, _, _⟩ := hb.shape
  obtain ⟨n, hn⟩ : ∃ n, bs.length = n := ⟨_, rfl⟩
  rw [hn] at HT hm ⊢
  clear hb hn
  go_enter Try.func17, Try.ntmps17
  go_wp2_with (go_at_call 15; refine HT.out.mono ?_; rintro e w1 ⟨v1, rfl, hr, hB⟩; obtain ⟨a1, c1, rfl, _, _⟩ := hr.shape)
  go_ret3
  exact ⟨_, rfl, hr, hB⟩
theorem whole_no (v : Value) (bs : List Nat) (w : World) (hb : RB w v bs) (he : (takeOf bs).e ≠ 0 ∨ (takeOf bs).n ≠ bs.length) :
    Calls Try.prog 17 #[v] w (Wholed w 0 [] false) := by
  have HT := Lib.hid (take_any v bs w hb)
  generalize takeOf bs = t at *
  obtain ⟨k, body, n, e⟩ := t
  dsimp only at he
  have hm := hb.2.1
  obtain ⟨a, cap, rfl, _, _⟩ := hb.shape
  obtain ⟨m, hn⟩ : ∃ n, bs.length = n := ⟨_, rfl⟩
  rw [hn] at HT hm he ⊢
  clear hb hn
  by_cases h0 : e = 0
  · subst h0
    have hx : ((n : Int) != (m : Int)) = true := by simp; omega
    clear he
    go_enter Try.func17, Try.ntmps17
    go_wp2_with (go_at_call 15; refine HT.out.mono ?_; rintro e w1 ⟨v1, rfl, hr, hB⟩; obtain ⟨a1, c1, rfl, _, _⟩ := hr.shape)
    go_ret3
    exact ⟨_, rfl, RB.nil _, hB⟩
  · have hx : ((e : Int) != 0) = true := by simp; omega
    clear he h0
    go_enter Try.func17, Try.ntmps17
    go_wp2_with (go_at_call 15; refine HT.out.mono ?_; rintro e w1 ⟨v1, rfl, hr, hB⟩; obtain ⟨a1, c1, rfl, _, _⟩ := hr.shape)
    go_ret3
    exact ⟨_, rfl, RB.nil _, hB⟩

theorem wrap_zero (v : Value) (bs : List Nat) (w : World) (hb : RB w v bs) : Calls Try.prog 13 #[.int .u8 0, v] w fun e w' => e = .returned (.tuple #[.slice none 0 0, .int .i64 2]) ∧ w = w' := by
  obtain ⟨a, cap, rfl, _, _⟩ := hb.shape
  obtain ⟨n, hn⟩ : ∃ n, bs.length = n := ⟨_, rfl⟩
  rw [hn]
  clear hb hn
  go_enter Try.func13, Try.ntmps13
  go_wp2
  go_ret2
  exact ⟨rfl, rfl⟩
theorem wrap_long (k : Nat) (v : Value) (bs : List Nat) (w : World) (hb : RB w v bs) (hk : k ≠ 0) (hl : 65536 < bs.length) : Calls Try.prog 13 #[.int .u8 (k : Int), v] w fun e w' => e = .returned (.tuple #[.slice none 0 0, .int .i64 21]) ∧ w = w' := by
  have hx : ((k : Int) == 0) = false := by simp; omega
  obtain ⟨a, cap, rfl, _, _⟩ := hb.shape
  obtain ⟨n, hn⟩ : ∃ n, bs.length = n := ⟨_, rfl⟩
  rw [hn] at hl ⊢
  clear hb hn
  go_enter Try.func13, Try.ntmps13
  go_wp2
  go_ret2
  exact ⟨rfl, rfl⟩
theorem rb_lit5 (w : World) (a b c d e : Nat) (ha : a < 256) (hb : b < 256) (hc : c < 256) (hd : d < 256) (he : e < 256) :
    RB (w.alloc (.cells #[.int .u8 (a : Int), .int .u8 (b : Int), .int .u8 (c : Int), .int .u8 (d : Int), .int .u8 (e : Int)] 5)) (.slice (some ⟨w.heap.size, 0, none⟩) 5 5) [a, b, c, d, e] := by
  refine ⟨?_, by simp, .inr ⟨_, _, rfl, by simp, by simp [maxLen], ?_⟩⟩
  · intro x hx
    simp at hx
    rcases hx with rfl | rfl | rfl | rfl | rfl <;> assumption
  · intro i hi
    have : i = 0 ∨ i = 1 ∨ i = 2 ∨ i = 3 ∨ i = 4 := by simp at hi; omega
    rcases this with rfl | rfl | rfl | rfl | rfl <;> (rw [add_at]; simp)
/-- What Wrap hands back, where it does. -/
def Wrapped (w : World) (bs : List Nat) (e : Ending) (w' : World) : Prop := ∃ v', e = .returned (.tuple #[v', .int .i64 0]) ∧ OB w' w.heap.size v' bs ∧ Below w.heap.size w w'
theorem rb_hdr (w : World) (b k n : Nat) (hb : b = w.heap.size) (hk : k < 256) (hn : n ≤ 65536) :
    RB (w.alloc (.cells #[.int .u8 102, .int .u8 (k : Int), .int .u8 ((n : Int) / 65536), .int .u8 ((n : Int) / 256 % 256), .int .u8 ((n : Int) % 256)] 5)) (.slice (some ⟨b, 0, none⟩) 5 5) (hdr k n) := by
  subst hb
  have := rb_lit5 w 102 k (n / 65536) (n / 256 % 256) (n % 256) (by omega) hk (by omega) (by omega) (by omega)
  simpa [hdr] using this
set_option maxHeartbeats 1000000 in
theorem wrap_ok (k : Nat) (v : Value) (bs : List Nat) (w : World) (hb : RB w v bs) (hk : k ≠ 0) (hk2 : k < 256) (hl : bs.length ≤ 65536) : Calls Try.prog 13 #[.int .u8 (k : Int), v] w (Wrapped w (frm k bs)) := by
  have hx : ((k : Int) == 0) = false := by simp; omega
  have HLT := Lib.hid (hb_lt k bs hk2 hl hb.1)
  obtain ⟨a, cap, rfl, _, _⟩ := hb.shape
  obtain ⟨n, hn⟩ : ∃ n, bs.length = n := ⟨_, rfl⟩
  have HB := Lib.hid hb
  have HN := Lib.hid hn
  have hfr : frm k bs = (hdr k n ++ bs) ++ top (hdr k n ++ bs) := by unfold frm; rw [hn]
  rw [hfr]
  rw [hn] at hl HLT ⊢
  have hhl : (hdr k n ++ bs).length = n + 5 := by rw [List.length_append, hdr_len, hn]; omega
  have HHL := Lib.hid hhl
  clear hb hn hfr hk hhl
  go_enter Try.func13, Try.ntmps13
  go_wp2_with (first
    | (at_make; refine make_rb rfl _ _ rfl w.heap.size _ _ _ (n + 5) rfl rfl (by omega) (by omega) (Nat.le_refl _) ?_; intro v1 w1 ho1 hg1; have hb1 := (Below.refl w.heap.size w).grown hg1 (Nat.le_refl _) (by simp); have H1 := Lib.hid (HB.out.kept hb1); rw [HN.out] at H1)
    | (at_builtin; refine append_rb rfl (.tmp 20) (.tmp 30) rfl w.heap.size _ _ [] (hdr k n) rfl rfl (ho1.alloc _) (rb_hdr _ _ _ _ (by simp) hk2 hl) (by simp [hdr]) (by have := hb1.size; simp; omega) ?_; intro v2 w2 ho2 hg2; have hb2 := (ho1.alloc _).below hg2 (hb1.alloc hb1.size _) (by have := hb1.size; simp; omega); have H2 := Lib.hid (HB.out.kept hb2); rw [HN.out] at H2; simp only [List.nil_append] at ho2; clear hg2)
    | (at_builtin; refine append_rb rfl (.tmp 32) (.tmp 33) rfl w.heap.size _ _ (hdr k n) bs rfl rfl ho2 H2.out (by have := HN.out; simp [hdr]; omega) hb2.size ?_; intro v3 w3 ho3 hg3; have hb3 := ho2.below hg3 hb2 hb2.size; clear hg3; have hr3 := ho3.rb HLT.out (by have := HHL.out; omega))
    | (go_at_call 35; refine (seal_any _ _ _ hr3 (by have := HHL.out; omega)).mono ?_; rintro e w4 ⟨v4, rfl, ho4, hb4⟩))
  go_ret2
  exact ⟨v4, rfl, ho4.mono hb3.size, hb3.trans (hb4.mono hb3.size)⟩
end Go.Proofs.Yteehglaadofidaa

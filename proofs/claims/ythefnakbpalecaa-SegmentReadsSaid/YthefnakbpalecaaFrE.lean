/- Walks of the reference for frame: Bytes. The chapter's example. -/
import Derived.Test.YthefnakbpalecaaMaI
import Derived.Outline
namespace Go.Proofs.Ythefnakbpalecaa
open Go.RowKit

theorem ob_hdr (w : World) (b k n : Nat) (hb : b = w.heap.size) (hn : n ≤ 65536) :
    OB (w.alloc (.cells #[.int .u8 102, .int .u8 (k : Int), .int .u8 ((n : Int) / 65536), .int .u8 ((n : Int) / 256 % 256), .int .u8 ((n : Int) % 256)] 5)) w.heap.size (.slice (some ⟨b, 0, none⟩) 5 5) (hdr k n) := by
  subst hb
  have := World.ownsRow_lit (e := 5) (size := 1) w #[.int .u8 102, .int .u8 (k : Int), .int .u8 ((n : Int) / 65536), .int .u8 ((n : Int) / 256 % 256), .int .u8 ((n : Int) % 256)] 5 (Nat.le_refl _) (by simp [maxLen]) rfl
  unfold OB
  simpa [cb, hdr] using this
set_option maxHeartbeats 1000000 in
theorem refbytes_any (k : Nat) (v : Value) (bs : List Nat) (w : World) (hb : RB w v bs) (hk2 : k < 256) (hl : bs.length ≤ 65536) : Calls Try.prog 65 #[.int .u8 (k : Int), v] w (Owned w (frm k bs)) := by
  have HLT := Lib.hid (hb_lt k bs hk2 hl hb.1)
  obtain ⟨a, cap, rfl, _, _⟩ := hb.shape
  obtain ⟨n, hn⟩ : ∃ n, bs.length = n := ⟨_, rfl⟩
  have HB := Lib.hid hb
  have HN := Lib.hid hn
  have hfr : frm k bs = (hdr k n ++ bs) ++ top (hdr k n ++ bs) := by unfold frm; rw [hn]
  rw [hfr]
  rw [hn] at hl HLT ⊢
  have hhl : (hdr k n ++ bs).length = n + 5 := by rw [List.length_append, hdr_len, hn]; omega
  have HHL := Lib.hid hhl
  clear hb hn hfr hhl
  go_enter Try.func65, Try.ntmps65
  go_wp2_with (first
    | (at_builtin; refine append_rb rfl (.tmp 19) (.tmp 20) rfl w.heap.size _ _ (hdr k n) bs rfl rfl (ob_hdr _ _ _ _ rfl hl) (by have := HB.out.kept ((Below.refl _ _).alloc (Nat.le_refl _) (.cells #[.int .u8 102, .int .u8 (k : Int), .int .u8 ((n : Int) / 65536), .int .u8 ((n : Int) / 256 % 256), .int .u8 ((n : Int) % 256)] 5)); rw [HN.out] at this; exact this) (by have := HN.out; simp [hdr]; omega) (by simp) ?_; intro v3 w3 ho3 hg3; have hb3 := (ob_hdr w _ k n rfl hl).below hg3 ((Below.refl w.heap.size w).alloc (Nat.le_refl _) _) (by simp); clear hg3; have hr3 := ho3.rb HLT.out (by have := HHL.out; omega))
    | (go_at_call 111; refine (refseal_any _ _ _ hr3 (by have := HHL.out; omega)).mono ?_; rintro e w4 ⟨v4, rfl, ho4, hb4⟩))
  go_ret
  exact ⟨v4, rfl, ho4.mono hb3.size, hb3.trans (hb4.mono hb3.size)⟩

theorem rb_a (w : World) : RB (w.alloc (.cells #[.int .u8 97] 5 (1, 2))) (.slice (some ⟨w.heap.size, 0, none⟩) 1 1) [97] := by
  refine ⟨by simp, by simp, .inr ⟨_, _, rfl, by simp, by simp [maxLen], ?_⟩⟩
  intro i hi
  obtain rfl : i = 0 := by simp at hi; omega
  rw [add_at, World.cell?_alloc_mark]; rfl
theorem take_a : takeOf (frm 1 [97]) = ⟨1, [97], 9, 0⟩ := by
  have := take_frm 1 [97] [] (by omega) (by simp) (by simp)
  rwa [List.append_nil] at this
theorem frm_a6 : str ((frm 1 [97]).take 6) = ⟨#[102, 1, 0, 0, 1, 97]⟩ := by
  have : (frm 1 [97]).take 6 = [102, 1, 0, 0, 1, 97] := by
    unfold frm
    rw [List.take_append_of_le_length (by simp [hdr])]
    rfl
  rw [this]; rfl
end Go.Proofs.Ythefnakbpalecaa

/- Walks of crc24: Fits and Seal. -/
import Derived.Test.YteehglaadofidaaCrcC
namespace Go.Proofs.Yteehglaadofidaa
open Go.RowKit

theorem rbb_one {w : World} {v : Value} {bs : List Nat} (h : RB w v bs) : RBB (w.alloc (.cells #[v] 22)) (some ⟨w.heap.size, 0, none⟩) 1 [bs] := by
  refine ⟨rfl, by omega, ?_⟩
  intro i hi
  obtain rfl : i = 0 := by omega
  exact ⟨_, _, v, rfl, by simp, h.kept ((Below.refl _ _).alloc (Nat.le_refl _) _)⟩
theorem sum_one (v : Value) (bs : List Nat) (w : World) (hb : RB w v bs) :
    Calls Try.prog 50 #[.slice (some ⟨w.heap.size, 0, none⟩) 1 1] (w.alloc (.cells #[v] 22)) fun e w' => e = .returned (.int .u32 ((onN 11994318 bs : Nat) : Int)) ∧ w.alloc (.cells #[v] 22) = w' :=
  (sum_any _ 1 1 [bs] _ (rbb_one hb)).mono fun e w' ⟨h1, h2⟩ => ⟨by rw [h1]; exact ret_int (by simp), h2⟩

theorem fits_yes (v : Value) (bs : List Nat) (s : Nat) (w : World) (hb : RB w v bs) (h : onN 11994318 bs = s) :
    Calls Try.prog 52 #[v, .int .u32 (s : Nat)] w fun e w' => e = .returned (.bool true) ∧ w.alloc (.cells #[v] 22) = w' := by
  subst h
  obtain ⟨a, cap, rfl, _, _⟩ := hb.shape
  have HB := Lib.hid hb
  clear hb
  go_enter Try.func52, Try.ntmps52
  go_wp2_with (go_at_call 50; refine (sum_one _ _ _ HB.out).mono ?_; rintro e w' ⟨rfl, rfl⟩)
  go_ret
  exact ⟨rfl, rfl⟩
theorem fits_no (v : Value) (bs : List Nat) (s : Nat) (w : World) (hb : RB w v bs) (h : onN 11994318 bs ≠ s) :
    Calls Try.prog 52 #[v, .int .u32 (s : Nat)] w fun e w' => e = .returned (.bool false) ∧ w.alloc (.cells #[v] 22) = w' := by
  have hq : (((onN 11994318 bs : Nat) : Int) == ((s : Nat) : Int)) = false := by simpa using fun e => h (by omega)
  obtain ⟨a, cap, rfl, _, _⟩ := hb.shape
  have HB := Lib.hid hb
  clear hb h
  go_enter Try.func52, Try.ntmps52
  go_wp2_with (go_at_call 50; refine (sum_one _ _ _ HB.out).mono ?_; rintro e w' ⟨rfl, rfl⟩)
  go_ret
  exact ⟨rfl, rfl⟩

theorem rb_lit3 (w : World) (a b c : Nat) (ha : a < 256) (hb : b < 256) (hc : c < 256) :
    RB (w.alloc (.cells #[.int .u8 (a : Int), .int .u8 (b : Int), .int .u8 (c : Int)] 5)) (.slice (some ⟨w.heap.size, 0, none⟩) 3 3) [a, b, c] := by
  refine ⟨?_, by simp, .inr ⟨_, _, rfl, by simp, by simp [maxLen], ?_⟩⟩
  · intro x hx
    simp at hx
    rcases hx with rfl | rfl | rfl <;> assumption
  · intro i hi
    have : i = 0 ∨ i = 1 ∨ i = 2 := by simp at hi; omega
    rcases this with rfl | rfl | rfl <;> (rw [add_at]; simp)

def top (bs : List Nat) : List Nat := [onN 11994318 bs / 65536, onN 11994318 bs / 256 % 256, onN 11994318 bs % 256]

theorem rb_top (w : World) (b x : Nat) (hb : b = w.heap.size) (hx : x < 16777216) :
    RB (w.alloc (.cells #[.int .u8 ((x : Int) / 65536), .int .u8 ((x : Int) / 256 % 256), .int .u8 ((x : Int) % 256)] 5)) (.slice (some ⟨b, 0, none⟩) 3 3) [x / 65536, x / 256 % 256, x % 256] := by
  subst hb
  have := rb_lit3 w (x / 65536) (x / 256 % 256) (x % 256) (by omega) (by omega) (by omega)
  simpa using this

/-- The call hands back bytes of its own, and has turned nothing that was there. -/
def Owned (w : World) (bs : List Nat) (e : Ending) (w' : World) : Prop := ∃ v', e = .returned v' ∧ OB w' w.heap.size v' bs ∧ Below w.heap.size w w'
theorem OB.alloc {w : World} {base : Nat} {v : Value} {bs : List Nat} (h : OB w base v bs) (o : Obj) : OB (w.alloc o) base v bs := World.ownsRow.alloc h o

set_option maxHeartbeats 400000 in
theorem seal_any (v : Value) (bs : List Nat) (w : World) (hb : RB w v bs) (hl : bs.length ≤ 100000) :
    Calls Try.prog 35 #[v] w (Owned w (bs ++ top bs)) := by
  obtain ⟨a, cap, rfl, _, _⟩ := hb.shape
  have hx := onN_lt bs 11994318 (by omega) hb.1
  obtain ⟨n, hn⟩ : ∃ n, bs.length = n := ⟨_, rfl⟩
  obtain ⟨x, hxx⟩ : ∃ x, onN 11994318 bs = x := ⟨_, rfl⟩
  have HB := Lib.hid hb
  have HN := Lib.hid hn
  have HX := Lib.hid hxx
  have ht : top bs = [x / 65536, x / 256 % 256, x % 256] := by unfold top; rw [hxx]
  rw [hn] at hl ⊢
  rw [hxx] at hx
  rw [ht]
  clear hb hn hxx ht
  go_enter Try.func35, Try.ntmps35
  go_wp2_with (first
    | (at_make; refine make_rb rfl _ _ rfl w.heap.size _ _ _ (n + 3) rfl rfl (by omega) (by omega) (Nat.le_refl _) ?_; intro v1 w1 ho1 hg1; have hb1 := (Below.refl w.heap.size w).grown hg1 (Nat.le_refl _) (by simp); have H1 := Lib.hid (HB.out.kept hb1); rw [HN.out] at H1)
    | (at_builtin; refine append_rb rfl (.tmp 9) (.tmp 10) rfl w.heap.size _ _ [] bs rfl rfl ho1 H1.out (by have := HN.out; simp; omega) hb1.size ?_; intro v2 w2 ho2 hg2; have hb2 := ho1.below hg2 hb1 hb1.size; have H2 := Lib.hid (HB.out.kept hb2); rw [HN.out] at H2; clear hg2)
    | (go_at_call 50; refine (sum_one _ _ _ H2.out).mono ?_; rintro e w' ⟨he, rfl⟩; rw [HX.out] at he; subst he)
    | (at_builtin; refine append_rb rfl (.tmp 15) (.tmp 24) rfl w.heap.size _ _ bs [x / 65536, x / 256 % 256, x % 256] rfl rfl ((ho2.alloc _).alloc _) (rb_top _ _ _ (by simp) hx) (by have := HN.out; simp; omega) (by have := hb2.size; simp; omega) ?_; intro v3 w3 ho3 hg3; have hb3 := ((ho2.alloc _).alloc _).below hg3 ((hb2.alloc hb2.size _).alloc (by have := hb2.size; simp; omega) _) (by have := hb2.size; simp; omega); clear hg3))
  go_ret
  exact ⟨v3, rfl, ho3, hb3⟩
end Go.Proofs.Yteehglaadofidaa

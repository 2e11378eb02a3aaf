/- The disk: the chapter's example. -/
import Derived.Test.YthkjjpkipeeimaaDkY
import Derived.Lib.SlBytesConst
namespace Go.Proofs.Ythkjjpkipeeimaa
open Go.RowKit Go.Maps
theorem rb_new (w : World) (bs : List Nat) (hb : ∀ c ∈ bs, c < 256) (hl : bs.length ≤ 1000) : RB (w.alloc (.cells (cb bs).toArray 5 ((cb bs).toArray.size, (cb bs).toArray.size + 1))) (.slice (some ⟨w.heap.size, 0, none⟩) bs.length bs.length) bs := by
  refine ⟨hb, by omega, .inr ⟨_, _, rfl, Nat.le_refl _, by unfold maxLen; omega, fun i hi => ?_⟩⟩
  rw [add_at, Nat.zero_add, World.cell?_alloc_mark]
  have := cb_get bs i hi
  simpa using this
theorem fr_below {B0 : Nat} {w0 w w' : World} {S S' : Nat → Prop} (hb : Below B0 w0 w) (hB : B0 ≤ w.heap.size) (hs : ∀ k, S k → B0 ≤ k) (hf : Fr S w S' w') : Below B0 w0 w' ∧ ∀ k, S' k → B0 ≤ k :=
  ⟨hb.trans (hf.1.toBelow hB hs), fun k hk => (hf.2.2 k hk).elim (hs k) (fun h => Nat.le_trans hB h)⟩
theorem nmA : validN [97] = true := by decide
set_option maxRecDepth 100000 in
set_option maxHeartbeats 8000000 in
theorem lives23 (w : World) : Calls Try.prog 14 #[] w fun e w' => e = .returned (.bool true) ∧ Below w.heap.size w w' := by
  have kc := fun (w : World) (C : Array Value) (n c : Nat) => Lib.run_convert_bytes_const (P := Try.prog) w 51 5 C n c Try.underlying51 Try.underlying5
  go_enter Try.func14, Try.ntmps14
  go_wp2_with fail
  refine (new_dk 100 w (by decide)).mono ?_
  rintro e w1 ⟨B, rfl, hB, ⟨m, mt, M, V, h⟩, hb⟩
  have H := Lib.hid h
  have HB := Lib.hid hb
  have HS : Hid (∀ k, (fun k => w.heap.size ≤ k ∧ k < w1.heap.size) k → w.heap.size ≤ k) := Lib.hid (fun k hk => hk.1)
  have hw : w.heap.size ≤ w1.heap.size := hb.size
  obtain ⟨S, hS⟩ : ∃ S : Nat → Prop, (fun k => w.heap.size ≤ k ∧ k < w1.heap.size) = S := ⟨_, rfl⟩
  rw [hS] at H HS
  have HW := Lib.hid hw
  clear h hb hB hw hS
  go_wp2_with fail
  have HR1 : Hid (RB (w1.alloc (.cells #[.int .u8 120, .int .u8 121, .int .u8 122] 5 (3, 3 + 1))) (.slice (some ⟨w1.heap.size, 0, none⟩) 3 3) [120, 121, 122]) := Lib.hid (rb_new w1 [120, 121, 122] (by decide) (by decide))
  have A1 : Below w1.heap.size w1 (w1.alloc (.cells #[.int .u8 120, .int .u8 121, .int .u8 122] 5 (3, 3 + 1))) := (Below.refl _ _).alloc (Nat.le_refl _) _
  refine (dappend_ok0 (H.out.below A1) rfl nmA rfl (some ⟨w1.heap.size, 0, none⟩) 3 [120, 121, 122] (by decide) (by decide) HR1.out (by decide)).mono ?_
  rintro e w2 ⟨S', rfl, ⟨m', mt', M', V', h'⟩, hf⟩
  have hD : stepD ((d0 100).files (putF (d0 100).fs [97] ⟨[120, 121, 122], 0⟩)) = (⟨100, [([97], ⟨[120, 121, 122], 0⟩)], 1, false, false, 0⟩ : Dd) := by simp [stepD, Dd.files, putF, d0, crashD, crashF, oneF, tornF, nextT, tearB, tearN]
  rw [hD] at h' ⊢
  clear hD
  have hp : pw (⟨100, [([97], ⟨[120, 121, 122], 0⟩)], 1, false, false, 0⟩ : Dd).down = 0 := rfl
  rw [hp]
  clear hp
  obtain ⟨hb2, hs2⟩ := fr_below (HB.out.trans (A1.mono HB.out.size)) (Nat.le_trans HW.out A1.size) HS.out hf
  have hw2 : w.heap.size ≤ w2.heap.size := hb2.size
  clear HR1 A1 H HB HS HW hf
  have H := Lib.hid h'
  have HB := Lib.hid hb2
  have HS := Lib.hid hs2
  have HW := Lib.hid hw2
  clear h' hb2 hs2 hw2 M V
  go_wp2_with fail
  refine (dsync_ok H.out rfl (n := [97]) (by decide) (f := ⟨[120, 121, 122], 0⟩) (by simp [getF]) (by decide) rfl).mono ?_
  rintro e w3 ⟨rfl, ⟨m2, mt2, M2, V2, h'⟩, ho⟩
  have hf := Fr.same ho
  have hD : (stepD (⟨100, [([97], ⟨[120, 121, 122], 0⟩)], 1, false, false, 0⟩ : Dd)).files (putF (⟨100, [([97], ⟨[120, 121, 122], 0⟩)], 1, false, false, 0⟩ : Dd).fs [97] ⟨[120, 121, 122], List.length [120, 121, 122]⟩) = (⟨100, [([97], ⟨[120, 121, 122], 3⟩)], 2, false, false, 0⟩ : Dd) := by simp [stepD, Dd.files, putF, d0, crashD, crashF, oneF, tornF, nextT, tearB, tearN]
  rw [hD] at h'
  clear hD
  obtain ⟨hb2, hs2⟩ := fr_below HB.out HW.out HS.out hf
  have hw2 : w.heap.size ≤ w3.heap.size := hb2.size
  clear H HB HS HW hf ho
  have H := Lib.hid h'
  have HB := Lib.hid hb2
  have HS := Lib.hid hs2
  have HW := Lib.hid hw2
  clear h' hb2 hs2 hw2
  go_wp2_with fail
  have HR3 : Hid (RB (w3.alloc (.cells #[.int .u8 117, .int .u8 118] 5 (2, 2 + 1))) (.slice (some ⟨w3.heap.size, 0, none⟩) 2 2) [117, 118]) := Lib.hid (rb_new w3 [117, 118] (by decide) (by decide))
  have A3 : Below w3.heap.size w3 (w3.alloc (.cells #[.int .u8 117, .int .u8 118] 5 (2, 2 + 1))) := (Below.refl _ _).alloc (Nat.le_refl _) _
  refine (dappend_ok1 (H.out.below A3) rfl nmA (f := ⟨[120, 121, 122], 3⟩) (by simp [getF]) (some ⟨w3.heap.size, 0, none⟩) 2 [117, 118]  (by decide) HR3.out (by decide)).mono ?_
  rintro e w4 ⟨S', rfl, ⟨m', mt', M', V', h'⟩, hf⟩
  have hD : stepD ((⟨100, [([97], ⟨[120, 121, 122], 3⟩)], 2, false, false, 0⟩ : Dd).files (putF (⟨100, [([97], ⟨[120, 121, 122], 3⟩)], 2, false, false, 0⟩ : Dd).fs [97] ⟨[120, 121, 122] ++ [117, 118], 3⟩)) = (⟨100, [([97], ⟨[120, 121, 122, 117, 118], 3⟩)], 3, false, false, 0⟩ : Dd) := by simp [stepD, Dd.files, putF, d0, crashD, crashF, oneF, tornF, nextT, tearB, tearN]
  rw [hD] at h' ⊢
  clear hD
  have hp : pw (⟨100, [([97], ⟨[120, 121, 122, 117, 118], 3⟩)], 3, false, false, 0⟩ : Dd).down = 0 := rfl
  rw [hp]
  clear hp
  obtain ⟨hb2, hs2⟩ := fr_below (HB.out.trans (A3.mono HB.out.size)) (Nat.le_trans HW.out A3.size) HS.out hf
  have hw2 : w.heap.size ≤ w4.heap.size := hb2.size
  clear HR3 A3 H HB HS HW hf
  have H := Lib.hid h'
  have HB := Lib.hid hb2
  have HS := Lib.hid hs2
  have HW := Lib.hid hw2
  clear h' hb2 hs2 hw2
  go_wp2_with fail
  have A4 : Below w4.heap.size w4 (w4.alloc (.cells #[.int .u16 1, .int .u32 0] 109)) := (Below.refl _ _).alloc (Nat.le_refl _) _
  have hTR : TRow S' (w4.alloc (.cells #[.int .u16 1, .int .u32 0] 109)) (some ⟨w4.heap.size, 0, none⟩) [(1, 0)] := fun i hi => by
    have hi0 : i = 0 := by simpa using hi
    subst hi0
    obtain ⟨-, s4, h4⟩ := box1 w4 #[.int .u16 1, .int .u32 0] 109
    exact ⟨w4.heap.size, 0, rfl, by rw [h4]; omega, fun hs => by have := H.out.bd _ hs; omega, (two_at s4).1, (two_at s4).2.1⟩
  refine (dcrash (H.out.below A4) (some ⟨w4.heap.size, 0, none⟩) 1 [(1, 0)] hTR (by decide) (by decide) ?_).mono ?_
  · intro p hp t ht
    have hp2 : p = ([97], ⟨[120, 121, 122, 117, 118], 3⟩) := by simpa using hp
    subst hp2
    have ht2 : t = (0, 0) ∨ t = (1, 0) := by simpa using ht
    rcases ht2 with rfl | rfl <;> decide
  rintro e w5 ⟨rfl, S5, ⟨m5, mt5, M5, V5, h'⟩, hf⟩
  have hD : crashD (⟨100, [([97], ⟨[120, 121, 122, 117, 118], 3⟩)], 3, false, false, 0⟩ : Dd) [(1, 0)] = (⟨100, [([97], ⟨[120, 121, 122, 117], 4⟩)], 3, true, false, 0⟩ : Dd) := by simp [stepD, Dd.files, putF, d0, crashD, crashF, oneF, tornF, nextT, tearB, tearN]
  rw [hD] at h'
  clear hD hTR
  obtain ⟨hb2, hs2⟩ := fr_below (HB.out.trans (A4.mono HB.out.size)) (Nat.le_trans HW.out A4.size) HS.out hf
  have hw2 : w.heap.size ≤ w5.heap.size := hb2.size
  clear H HB HS HW hf A4
  have H := Lib.hid h'
  have HB := Lib.hid hb2
  have HS := Lib.hid hs2
  have HW := Lib.hid hw2
  clear h' hb2 hs2 hw2
  go_wp2_with fail
  refine (dboot H.out).mono ?_
  rintro e w6 ⟨rfl, h', ho⟩
  obtain ⟨hb2, hs2⟩ := fr_below HB.out HW.out HS.out (Fr.same ho)
  have hw2 : w.heap.size ≤ w6.heap.size := hb2.size
  have hD : bootD (⟨100, [([97], ⟨[120, 121, 122, 117], 4⟩)], 3, true, false, 0⟩ : Dd) = (⟨100, [([97], ⟨[120, 121, 122, 117], 4⟩)], 3, false, false, 0⟩ : Dd) := rfl
  rw [hD] at h'
  clear H HB HS HW ho hD
  have H := Lib.hid h'
  have HB := Lib.hid hb2
  have HW := Lib.hid hw2
  clear h' hb2 hs2 hw2
  go_wp2_with fail
  refine (dread_ok H.out rfl (n := [97]) (by decide) (f := ⟨[120, 121, 122, 117], 4⟩) (by simp [getF])).mono ?_
  rintro e w7 ⟨v, rfl, ho, hb⟩
  obtain ⟨av, cv, rfl⟩ := ho.shp
  have H7 := Lib.hid (H.out.below hb)
  have HB7 := Lib.hid (HB.out.trans (hb.mono HB.out.size))
  have hrb := ho.rb (by decide) (by decide)
  have hcv : (Sem.run Try.prog (convert 51 9 (.slice av 4 cv)) w7) = .ok (.string ⟨#[120, 121, 122, 117]⟩) w7 := rb_string (P := Try.prog) hrb 51 9 5 Try.underlying51 Try.underlying5 Try.underlying9
  clear ho hb H HB HW hrb
  go_wp2_with fail
  refine (dfree H7.out).mono ?_
  rintro e w8 ⟨rfl, hb⟩
  have hfd : freeD (⟨100, [([97], ⟨[120, 121, 122, 117], 4⟩)], 3, false, false, 0⟩ : Dd) = 96 := by decide
  rw [hfd]
  have H8 := Lib.hid (H7.out.below hb)
  have HB8 := Lib.hid (HB7.out.trans (hb.mono HB7.out.size))
  clear hb hfd hcv
  go_wp2_with fail
  refine (dsteps_any H8.out).mono ?_
  rintro e w9 ⟨rfl, rfl⟩
  go_wp2_with fail
  go_ret
  exact ⟨rfl, HB8.out⟩
end Go.Proofs.Ythkjjpkipeeimaa

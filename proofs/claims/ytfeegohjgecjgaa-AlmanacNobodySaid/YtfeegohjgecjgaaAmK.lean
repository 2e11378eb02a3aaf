/- AlmanacNobody, walked. -/
import Derived.Test.YtfeegohjgecjgaaAmH
import Derived.Test.YtfeegohjgecjgaaAmI
namespace Go.Proofs.Ytfeegohjgecjgaa
open Go.RowKit

def zed : Nat → Int := fun _ => 0
theorem nobody30_any (u v : Int) (w : World) : Calls Try.prog 30 #[.int .i64 u, .int .i64 v] w fun e w' => e = .returned (.int .i64 1) ∧ w' = w := by
  go_enter Try.func30, Try.ntmps30
  go_wp2
  go_ret
  exact ⟨rfl, rfl⟩
theorem nobody30_enters : ∀ args w, (callFunc 30 args).run Try.prog w = .ok (.enter 30 args) w := enters_of Try.func30 (by kernel_rfl) rfl

set_option maxRecDepth 100000 in
set_option maxHeartbeats 8000000 in
theorem anobody_any (t x y : Int) (w : World) :
    Calls Try.prog 6 #[.int .i64 t, .int .i64 x, .int .i64 y] w fun e w' => e = .returned (.bool true) ∧ Below w.heap.size w w' := by
  have hl := lives9 w
  have HFT := Lib.hid (free_fits zed zed 0 x y)
  obtain ⟨l, hll⟩ : ∃ l, freeL zed zed 0 (max x 0) (min y 1125899906842624) = l := ⟨_, rfl⟩
  have HL := Lib.hid hll
  rw [hll] at HFT
  clear hll
  go_enter Try.func6, Try.ntmps6
  go_wp2_with fail
  refine hl.mono ?_
  rintro e w1 ⟨rfl, hb1⟩
  have HB1 := Lib.hid hb1
  clear hl hb1
  go_wp2_with fail
  have B2 : Below w1.heap.size w1 ((w1.alloc (.cells #[.slice none 0 0] 49)).alloc (.cells #[.pointer none, .pointer (some ⟨w1.heap.size, 0, none⟩)] 24)) := ((Below.refl _ _).alloc (Nat.le_refl _) _).alloc (by simp) _
  have s0 : ((w1.alloc (.cells #[.slice none 0 0] 49)).alloc (.cells #[.pointer none, .pointer (some ⟨w1.heap.size, 0, none⟩)] 24)).cell? ⟨w1.heap.size + 1, 0, none⟩ = some (.pointer none) := by rw [World.cell?_alloc_at _ _ _ _ (by simp)]; rfl
  have s1 : ((w1.alloc (.cells #[.slice none 0 0] 49)).alloc (.cells #[.pointer none, .pointer (some ⟨w1.heap.size, 0, none⟩)] 24)).cell? ⟨w1.heap.size + 1, 1, none⟩ = some (.pointer (some ⟨w1.heap.size, 0, none⟩)) := by rw [World.cell?_alloc_at _ _ _ _ (by simp)]; rfl
  have s2 : ((w1.alloc (.cells #[.slice none 0 0] 49)).alloc (.cells #[.pointer none, .pointer (some ⟨w1.heap.size, 0, none⟩)] 24)).cell? ⟨w1.heap.size, 0, none⟩ = some (.slice none 0 0) := by rw [World.cell?_alloc_past _ _ _ (by simp)]; simp
  have HB2 := Lib.hid (HB1.out.trans (B2.mono HB1.out.size))
  obtain ⟨S, hS⟩ : ∃ S, w1.heap.size + 1 = S := ⟨_, rfl⟩
  obtain ⟨A, hA⟩ : ∃ S, w1.heap.size = S := ⟨_, rfl⟩
  rw [hS] at s0 s1 ⊢
  rw [hA] at s0 s1 s2 ⊢
  have HP : Hid (∀ (q : Nat) (wr : World), q < 2 → Below ((w1.alloc (.cells #[.slice none 0 0] 49)).alloc (.cells #[.pointer none, .pointer (some ⟨A, 0, none⟩)] 24)).heap.size ((w1.alloc (.cells #[.slice none 0 0] 49)).alloc (.cells #[.pointer none, .pointer (some ⟨A, 0, none⟩)] 24)) wr → ∃ p, wr.cell? ⟨S, q, none⟩ = some (.pointer p) ∧ Alm p none 0 0 zed zed wr) := Lib.hid (by
    intro q wr hq hb
    by_cases e : q = 0
    · subst e
      exact ⟨none, (hb.cell (p := ⟨S, 0, none⟩) (cell_spot s0).2).trans s0, .inl ⟨rfl, rfl, rfl, rfl⟩, Sps.empty rfl, Nat.le_refl _, by omega, rfl⟩
    · obtain rfl : q = 1 := by omega
      exact ⟨_, (hb.cell (p := ⟨S, 1, none⟩) (cell_spot s1).2).trans s1, .inr ⟨A, rfl, (hb.cell (p := ⟨A, 0, none⟩) (cell_spot s2).2).trans s2⟩, Sps.empty rfl, Nat.le_refl _, by omega, rfl⟩)
  rw [hA] at HB2
  clear s0 s1 s2 B2 hS hA
  generalize ((w1.alloc (.cells #[.slice none 0 0] 49)).alloc (.cells #[.pointer none, .pointer (some ⟨A, 0, none⟩)] 24)) = W2 at *
  have hnx : nx zed zed 0 t = 0 := if_neg (by omega)
  have HNX := Lib.hid hnx
  clear hnx
  go_loopw [21] (fun s wr => ∃ q : Nat, s = .int .i64 (q : Int) ∧ q ≤ 2 ∧ Below W2.heap.size W2 wr) (fun s _ => 2 - (intOf s).toNat)
  case atStart => exact ⟨0, rfl, by omega, Below.refl _ _⟩
  case round =>
    obtain ⟨q, rfl, hq, hB⟩ := hrel
    have HB := Lib.hid hB
    by_cases hlt : q < 2
    · obtain ⟨p, c0, hal⟩ := HP.out q wr hlt hB
      have q0 : (0 : Int) ≤ (q : Int) := by omega
      have ql : (q : Int) < 2 := by omega
      have qd : decide ((q : Int) < 2) = true := decide_eq_true ql
      have HAL := Lib.hid hal
      have h1 := next_any t hal
      rw [HNX.out, show (decide (idx zed t 0 < 0)) = false from rfl] at h1
      clear hal hB
      go_wp2_with fail
      refine h1.mono ?_
      rintro e w3 ⟨rfl, hb3⟩
      have BL : Below w3.heap.size w3 (w3.alloc (.cells #[.int .i64 0, .int .i64 0] 30)) := (Below.refl _ _).alloc (Nat.le_refl _) _
      have hb3' := hb3.trans (BL.mono hb3.size)
      have HB3 := Lib.hid (HB.out.trans (hb3'.mono HB.out.size))
      have hal3 := HAL.out.kept hb3'
      have HAL3 := Lib.hid hal3
      have h2 := free_any x y hal3
      rw [HL.out] at h2
      clear h1 hb3 BL hb3' hal3 c0
      go_wp2_with fail
      generalize (w3.alloc (.cells #[.int .i64 0, .int .i64 0] 30)) = W3 at *
      refine h2.mono ?_
      rintro e w4 ⟨v, rfl, hO, hb4⟩
      have HB4 := Lib.hid (HB3.out.trans (hb4.mono HB3.out.size))
      have HAL4 := Lib.hid (HAL3.out.kept hb4)
      have HO4 := Lib.hid hO
      obtain ⟨va, vc, rfl, _, _⟩ := hO.shape
      have h3 := closed_at t HAL4.out
      rw [show closedB zed zed 0 t = false from rfl] at h3
      clear h2 hb4 hO
      go_wp2_with fail
      refine h3.mono ?_
      rintro e w5 ⟨rfl, hb5⟩
      have HB5 := Lib.hid (HB4.out.trans (hb5.mono HB4.out.size))
      have HAL5 := Lib.hid (HAL4.out.kept hb5)
      have HO5 := Lib.hid (HO4.out.kept hb5)
      have h4 := row_alm HAL5.out
      clear h3 hb5
      go_wp2_with fail
      refine h4.mono ?_
      rintro e w6 ⟨v6, rfl, hO6, hb6⟩
      have HB6 := Lib.hid (HB5.out.trans (hb6.mono HB5.out.size))
      have HAL6 := Lib.hid (HAL5.out.kept hb6)
      have HO6 := Lib.hid (HO5.out.kept hb6)
      obtain ⟨va6, vc6, rfl, _, _⟩ := hO6.shape
      rw [pairs_len]
      have h5 := lost_any x y HAL6.out (fun _ _ => 1) 30 #[] nobody30_enters (fun u v W hW => nobody30_any u v W)
      rw [show lostV (fun _ _ => 1) zed zed 0 x y = 0 from rfl] at h5
      clear h4 hb6 hO6
      go_wp2_with fail
      refine h5.mono ?_
      rintro e w7 ⟨rfl, hb7⟩
      have HB7 := Lib.hid (HB6.out.trans (hb7.mono HB6.out.size))
      have HO7 := Lib.hid (HO6.out.kept hb7)
      have h6 := rfree_in none 0 0 zed zed x y w7 (Sps.empty rfl) (by omega) rfl
      rw [HL.out] at h6
      clear h5 hb7
      go_wp2_with fail
      refine h6.mono ?_
      rintro e w8 ⟨v8, rfl, hO8, hb8⟩
      have HB8 := Lib.hid (HB7.out.trans (hb8.mono HB7.out.size))
      have h7 := rsame_own (HO7.out.kept hb8) hO8 HFT.out
      obtain ⟨va8, vc8, rfl, _, _⟩ := hO8.shape
      clear h6 hb8 hO8
      go_wp2_with fail
      refine h7.mono ?_
      rintro e w9 ⟨rfl, d, rfl⟩
      have HB9 := Lib.hid (below_drewN' HB8.out d)
      clear h7
      generalize w8.drewN d = w9 at *
      go_wp2_with fail
      go_roundw
      case rel => exact ⟨q + 1, by go_num, by omega, HB9.out⟩
      case measure => simp [intOf]; omega
    · obtain rfl : q = 2 := by omega
      have HBF := Lib.hid (HB2.out.trans (hB.mono HB2.out.size))
      clear hB
      go_wp2_with fail
      go_ret
      exact ⟨rfl, HBF.out⟩
end Go.Proofs.Ytfeegohjgecjgaa

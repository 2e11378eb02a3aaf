/- The rotation. -/
import Derived.Test.YtfclmbneimbmnaaDoorStE
namespace Go.Proofs.YtfclmbneimbmnaaDoor
open Go.RowKit Go.Lib Go.Sort Go.Shelf

theorem SWk.size {k : Nat} {w0 W : World} {blk off lo hi a b n : Nat} {d X : Array (Th × Nat)} (h : Changed lo hi a b n d X) : X.size = d.size := h.perm.1

set_option maxHeartbeats 4000000 in
set_option maxRecDepth 1000000 in
theorem rotateP {P : Program} {k : Nat} (H : Hat P k) (blk off cap a m b : Nat) (d0 d : Array (Th × Nat)) (w0 w : World) (R : RKk k w0 blk off d0) (hs : d0.size = d.size) (S : SWk k w0 blk off d w)
    (ham : a < m) (hmb : m < b) (hb : b ≤ d.size) (hsz : d.size < 4611686018427387904) :
    Calls P 134 #[.slice (some ⟨blk, off, none⟩) d.size cap, .int .i64 a, .int .i64 m, .int .i64 b, .func (.func 68) #[] #[]] w fun e w' =>
      e = .returned (.tuple #[]) ∧ ∃ X, SWk k w0 blk off X w' ∧ Rotated a m b d X := by
  have S0 : Aside (SWk k w0 blk off d w) := S
  clear S
  have HSR : Hid (∀ (x y n : Nat) (dk : Array (Th × Nat)) (wr : World), dk.size = d.size → SWk k w0 blk off dk wr → a ≤ x → x + n ≤ y → y + n ≤ b → Calls P 135 #[.slice (some ⟨blk, off, none⟩) d.size cap, .int .i64 x, .int .i64 y, .int .i64 n, .func (.func 68) #[] #[]] wr fun e w' =>
      e = .returned (.tuple #[]) ∧ ∃ X, SWk k w0 blk off X w' ∧ Changed a b x y n dk X) := fun x y n dk wr h1 h2 h3 h4 h5 => by
    have := swap_rangeP H blk off cap x y n a b d0 dk w0 wr R (by omega) h2 h3 h4 h5 (by omega) (by omega)
    rw [h1] at this
    exact this
  obtain ⟨mixed, t0, a0, z0, v0, t3, a3, z3, v3, t4, a4, z4, v4, t22, a22, z22, v22, t97, a97, z97, v97, t125, a125, z125, v125, aE, zE, e43, cmp, f76, f77, f79, f80, f68⟩ := H
  have e80 : ∀ args w, (callFunc 135 args).run P w = .ok (.enter 135 args) w := enters_of f80 (by kernel_rfl) rfl
  clear f76 f77 f80 f68 e43 cmp
  go_enter f79, Tryd.ntmps134
  go_wp2
  go_loopg [10, 11] (b - a) (fun kx s10 s11 wr => ∃ (i j : Nat) (dk : Array (Th × Nat)), s10 = .int .i64 i ∧ s11 = .int .i64 j ∧ 0 < i ∧ 0 < j ∧ i + j ≤ kx ∧ Aside (SWk k w0 blk off dk wr) ∧ Hid (Turning a m b i j d dk))
  case atStart => exact ⟨m - a, b - m, d, by go_num, by go_num, by omega, by omega, by omega, S0, Turning.start (by omega) (by omega) d⟩
  case round =>
    clear S0
    obtain ⟨i, j, dk, rfl, rfl, hi0, hj0, hkx, S1, HT⟩ := hrel
    have hds : dk.size = d.size := HT.out.perm.1
    have hi1 := HT.out.hi
    have hj1 := HT.out.hj
    by_cases heq : i = j
    · subst heq
      have hc := HSR.out (m - i) m i dk wr hds S1.out (by omega) (by omega) (by omega)
      have hci : ((m - i : Nat) : Int) = (m : Int) - (i : Int) := by omega
      rw [hci] at hc
      have hwr : IntKind.i64.wrap ((m : Int) - (i : Int)) = (m : Int) - (i : Int) := by rw [IntKind.wrap_i64]; omega
      go_wp2_with (go_at_fn 135; refine hc.mono ?_; rintro e w2 ⟨rfl, X, hX, hC⟩)
      go_end0
      exact ⟨rfl, X, hX, HT.out.done (by omega) (by omega) hC⟩
    · have hne : ¬ (i : Int) = (j : Int) := by omega
      have hneb : ((i : Int) == (j : Int)) = false := by simp; omega
      by_cases hgt : j < i
      · have hgtz : (j : Int) < (i : Int) := by omega
        have hc := HSR.out (m - i) m j dk wr hds S1.out (by omega) (by omega) (by omega)
        have hci : ((m - i : Nat) : Int) = (m : Int) - (i : Int) := by omega
        rw [hci] at hc
        have hwr : IntKind.i64.wrap ((m : Int) - (i : Int)) = (m : Int) - (i : Int) := by rw [IntKind.wrap_i64]; omega
        go_wp2_with (go_at_fn 135; refine hc.mono ?_; rintro e w2 ⟨rfl, X, hX, hC⟩)
        go_roundg (i - j + j)
        case measure => omega
        case rel => exact ⟨i - j, j, X, by go_num, rfl, by omega, by omega, Nat.le_refl _, hX, HT.out.more hgt hC⟩
      · have hlt : i < j := by omega
        have hgtz : ¬ (j : Int) < (i : Int) := by omega
        have hc := HSR.out (m - i) (m + j - i) i dk wr hds S1.out (by omega) (by omega) (by omega)
        have hci : ((m - i : Nat) : Int) = (m : Int) - (i : Int) := by omega
        have hcj : ((m + j - i : Nat) : Int) = (m : Int) + (j : Int) - (i : Int) := by omega
        rw [hci, hcj] at hc
        have hwr : IntKind.i64.wrap ((m : Int) - (i : Int)) = (m : Int) - (i : Int) := by rw [IntKind.wrap_i64]; omega
        go_wp2_with (go_at_fn 135; refine hc.mono ?_; rintro e w2 ⟨rfl, X, hX, hC⟩)
        go_roundg (i + (j - i))
        case measure => omega
        case rel => exact ⟨i, j - i, X, rfl, by go_num, by omega, by omega, Nat.le_refl _, hX, HT.out.less hlt hC⟩
end Go.Proofs.YtfclmbneimbmnaaDoor

/- Walks of the reference for frame: Take. -/
import Derived.Test.YthefnakbpalecaaFrE
import Derived.Test.YthefnakbpalecaaLawsB
namespace Go.Proofs.Ythefnakbpalecaa
open Go.RowKit

/-- Where the head is bad or there are too few bytes. -/
theorem reftake0 (a : Option Addr) (cap : Nat) (w : World) : Calls Try.prog 72 #[.slice a 0 cap] w (Taken w ⟨0, [], 0, 23⟩) := by
  go_enter Try.func72, Try.ntmps72
  go_wp2
  exact bodyPost_ret (v := .tuple #[.int .u8 0, .slice none 0 0, .int .i64 0, .int .i64 23]) (by simp [results, Try.results72, go_sem]) rfl ⟨_, rfl, RB.nil _, Below.refl _ _⟩
theorem reftake1 (b off cap n x0 : Nat) (w : World) (hn : 0 < n) (hm : n ≤ 9223372036854775807) (c0 : w.cell? ⟨b, off, none⟩ = some (.int .u8 (x0 : Int))) (h : x0 ≠ 102) :
    Calls Try.prog 72 #[.slice (some ⟨b, off, none⟩) n cap] w (Taken w ⟨0, [], 0, 20⟩) := by
  have e : ((x0 : Int) != 102) = true := by simp; omega
  have e0 : ((n : Int) == 0) = false := by simp; omega
  go_enter Try.func72, Try.ntmps72
  go_wp2
  exact bodyPost_ret (v := .tuple #[.int .u8 0, .slice none 0 0, .int .i64 0, .int .i64 20]) (by simp [results, Try.results72, go_sem]) rfl ⟨_, rfl, RB.nil _, Below.refl _ _⟩
theorem reftake2 (b off cap : Nat) (w : World) (c0 : w.cell? ⟨b, off, none⟩ = some (.int .u8 102)) :
    Calls Try.prog 72 #[.slice (some ⟨b, off, none⟩) 1 cap] w (Taken w ⟨0, [], 0, 23⟩) := by
  go_enter Try.func72, Try.ntmps72
  go_wp2
  exact bodyPost_ret (v := .tuple #[.int .u8 0, .slice none 0 0, .int .i64 0, .int .i64 23]) (by simp [results, Try.results72, go_sem]) rfl ⟨_, rfl, RB.nil _, Below.refl _ _⟩
theorem reftake3 (b off cap n : Nat) (w : World) (hn : 2 ≤ n) (hm : n ≤ 9223372036854775807) (c0 : w.cell? ⟨b, off, none⟩ = some (.int .u8 102)) (c1 : w.cell? ⟨b, off + 1, none⟩ = some (.int .u8 0)) :
    Calls Try.prog 72 #[.slice (some ⟨b, off, none⟩) n cap] w (Taken w ⟨0, [], 0, 20⟩) := by
  have e0 : ((n : Int) == 0) = false := by simp; omega
  go_enter Try.func72, Try.ntmps72
  go_wp2
  exact bodyPost_ret (v := .tuple #[.int .u8 0, .slice none 0 0, .int .i64 0, .int .i64 20]) (by simp [results, Try.results72, go_sem]) rfl ⟨_, rfl, RB.nil _, Below.refl _ _⟩
theorem reftake4 (b off cap n x1 : Nat) (w : World) (hn : 2 ≤ n) (h5 : n < 5) (c0 : w.cell? ⟨b, off, none⟩ = some (.int .u8 102)) (c1 : w.cell? ⟨b, off + 1, none⟩ = some (.int .u8 (x1 : Int))) (h1 : x1 ≠ 0) :
    Calls Try.prog 72 #[.slice (some ⟨b, off, none⟩) n cap] w (Taken w ⟨0, [], 0, 23⟩) := by
  have e0 : ((n : Int) == 0) = false := by simp; omega
  have e1 : ((x1 : Int) == 0) = false := by simp; omega
  go_enter Try.func72, Try.ntmps72
  go_wp2
  exact bodyPost_ret (v := .tuple #[.int .u8 0, .slice none 0 0, .int .i64 0, .int .i64 23]) (by simp [results, Try.results72, go_sem]) rfl ⟨_, rfl, RB.nil _, Below.refl _ _⟩
set_option maxHeartbeats 1000000 in
theorem reftake5 (b off cap n x1 x2 x3 x4 : Nat) (w : World) (h5 : 5 ≤ n) (hm : n ≤ 140737488351232) (l2 : x2 < 256) (l3 : x3 < 256) (l4 : x4 < 256) (h1 : x1 ≠ 0)
    (c0 : w.cell? ⟨b, off, none⟩ = some (.int .u8 102)) (c1 : w.cell? ⟨b, off + 1, none⟩ = some (.int .u8 (x1 : Int))) (c2 : w.cell? ⟨b, off + 2, none⟩ = some (.int .u8 (x2 : Int)))
    (c3 : w.cell? ⟨b, off + 3, none⟩ = some (.int .u8 (x3 : Int))) (c4 : w.cell? ⟨b, off + 4, none⟩ = some (.int .u8 (x4 : Int)))
    (hs : 65536 < x2 * 65536 + x3 * 256 + x4 ∨ n < x2 * 65536 + x3 * 256 + x4 + 8) :
    Calls Try.prog 72 #[.slice (some ⟨b, off, none⟩) n cap] w (Taken w ⟨0, [], 0, if 65536 < x2 * 65536 + x3 * 256 + x4 then 20 else 23⟩) := by
  have e0 : ((n : Int) == 0) = false := by simp; omega
  have e1 : ((x1 : Int) == 0) = false := by simp; omega
  have hq : (x2 : Int) * 65536 + (x3 : Int) * 256 + (x4 : Int) = ((x2 * 65536 + x3 * 256 + x4 : Nat) : Int) := by omega
  obtain ⟨s, hs0⟩ : ∃ s, x2 * 65536 + x3 * 256 + x4 = s := ⟨_, rfl⟩
  have hsl : s < 16777216 := by omega
  rw [hs0] at hq hs ⊢
  have HQ := Lib.hid hq
  have g1 : IntKind.i64.wrap ((x2 : Int) * 65536) = (x2 : Int) * 65536 := IntWalk.i64_in _ (by omega)
  have g2 : IntKind.i64.wrap ((x3 : Int) * 256) = (x3 : Int) * 256 := IntWalk.i64_in _ (by omega)
  have g3 : IntKind.i64.wrap ((x2 : Int) * 65536 + (x3 : Int) * 256) = (x2 : Int) * 65536 + (x3 : Int) * 256 := IntWalk.i64_in _ (by omega)
  have g4 : IntKind.i64.wrap ((x2 : Int) * 65536 + (x3 : Int) * 256 + (x4 : Int)) = (x2 : Int) * 65536 + (x3 : Int) * 256 + (x4 : Int) := IntWalk.i64_in _ (by omega)
  clear hs0 hq
  by_cases hg : 65536 < s
  · rw [if_pos hg]
    go_enter Try.func72, Try.ntmps72
    go_wp2
    go_quiet (fail)
    clear g1 g2 g3 g4
    rw [HQ.out]
    go_wp2
    exact bodyPost_ret (v := .tuple #[.int .u8 0, .slice none 0 0, .int .i64 0, .int .i64 20]) (by simp [results, Try.results72, go_sem]) rfl ⟨_, rfl, RB.nil _, below_drewN (Below.refl _ _) _⟩
  · rw [if_neg hg]
    have ht : n < s + 8 := by omega
    go_enter Try.func72, Try.ntmps72
    go_wp2
    go_quiet (fail)
    clear g1 g2 g3 g4
    rw [HQ.out]
    go_wp2
    exact bodyPost_ret (v := .tuple #[.int .u8 0, .slice none 0 0, .int .i64 0, .int .i64 23]) (by simp [results, Try.results72, go_sem]) rfl ⟨_, rfl, RB.nil _, below_drewN (Below.refl _ _) _⟩
end Go.Proofs.Ythefnakbpalecaa

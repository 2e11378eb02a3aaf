/- The reference's Join: what its loops keep. -/
import Derived.Test.YthlmeppahcjlgaaBtA
import Derived.Test.YthlmeppahcjlgaaJoD
namespace Go.Proofs.Ythlmeppahcjlgaa
open Go.RowKit

/-- The least of the first k spans that begin behind all that is joined: x is its place, or -1. -/
def Scan (jn : List (Int × Int)) (F : Nat → Int) (k : Nat) (x : Int) : Prop :=
  (x = -1 ∧ ∀ j, j < k → lateB jn (F j) = false) ∨ ∃ p : Nat, p < k ∧ x = p ∧ lateB jn (F p) = true ∧ ∀ j, j < k → lateB jn (F j) = true → F p ≤ F j
theorem Scan.start (jn : List (Int × Int)) (F : Nat → Int) : Scan jn F 0 (-1) := .inl ⟨rfl, fun j hj => by omega⟩
theorem Scan.skip {jn : List (Int × Int)} {F : Nat → Int} {k : Nat} {x : Int} (S : Scan jn F k x) (h : lateB jn (F k) = false) : Scan jn F (k + 1) x := by
  rcases S with ⟨e, S⟩ | ⟨p, hp, e, hl, S⟩
  · refine .inl ⟨e, fun j hj => ?_⟩
    by_cases hjk : j = k
    · rw [hjk]; exact h
    · exact S j (by omega)
  · refine .inr ⟨p, by omega, e, hl, fun j hj h1 => ?_⟩
    by_cases hjk : j = k
    · rw [hjk, h] at h1; cases h1
    · exact S j (by omega) h1
theorem Scan.first {jn : List (Int × Int)} {F : Nat → Int} {k : Nat} (S : Scan jn F k (-1)) (h : lateB jn (F k) = true) : Scan jn F (k + 1) k := by
  rcases S with ⟨_, S⟩ | ⟨p, hp, e, _⟩
  · refine .inr ⟨k, by omega, rfl, h, fun j hj h1 => ?_⟩
    by_cases hjk : j = k
    · rw [hjk]; exact Int.le_refl _
    · rw [S j (by omega)] at h1; cases h1
  · omega
theorem Scan.less {jn : List (Int × Int)} {F : Nat → Int} {k p : Nat} (S : Scan jn F k p) (h : lateB jn (F k) = true) (hl : F k < F p) : Scan jn F (k + 1) k := by
  rcases S with ⟨e, _⟩ | ⟨p', hp, e, _, S⟩
  · omega
  · obtain rfl : p = p' := by omega
    refine .inr ⟨k, by omega, rfl, h, fun j hj h1 => ?_⟩
    by_cases hjk : j = k
    · rw [hjk]; exact Int.le_refl _
    · have := S j (by omega) h1; omega
theorem Scan.keep {jn : List (Int × Int)} {F : Nat → Int} {k p : Nat} (S : Scan jn F k p) (hl : ¬ F k < F p) : Scan jn F (k + 1) p := by
  rcases S with ⟨e, _⟩ | ⟨p', hp, e, h, S⟩
  · omega
  · obtain rfl : p = p' := by omega
    refine .inr ⟨p, by omega, rfl, h, fun j hj h1 => ?_⟩
    by_cases hjk : j = k
    · rw [hjk]; omega
    · exact S j (by omega) h1
theorem Scan.stop {jn : List (Int × Int)} {F T : Nat → Int} {n : Nat} (S : Scan jn F n (-1)) : ∀ s, s ∈ pairs F T n → lateB jn s.1 = false := by
  rcases S with ⟨_, S⟩ | ⟨p, hp, e, _⟩
  · intro s hs
    obtain ⟨k, hk, rfl⟩ := pairs_mem.1 hs
    exact S k hk
  · omega
theorem Scan.seed {jn : List (Int × Int)} {F T : Nat → Int} {n p : Nat} (S : Scan jn F n p) (hr : rights (pairs F T n)) : p < n ∧ Seed (pairs F T n) jn (F p) (T p) := by
  rcases S with ⟨e, _⟩ | ⟨p', hp, e, h, S⟩
  · omega
  · obtain rfl : p = p' := by omega
    refine ⟨hp, Seed.start (a := (F p, T p)) hr (pairs_mem.2 ⟨p, hp, rfl⟩) h fun s hs hl => ?_⟩
    obtain ⟨k, hk, rfl⟩ := pairs_mem.1 hs
    exact S k hk hl
/-- No span of the first k makes the grown one grow further. -/
def Shut5 (F T : Nat → Int) (f m : Int) (k : Nat) : Prop := ∀ j, j < k → ¬ (f ≤ F j ∧ F j ≤ m ∧ m < T j)
theorem Shut5.next {F T : Nat → Int} {f m : Int} {k : Nat} (S : Shut5 F T f m k) (h : ¬ (f ≤ F k ∧ F k ≤ m ∧ m < T k)) : Shut5 F T f m (k + 1) := by
  intro j hj
  by_cases hjk : j = k
  · rw [hjk]; exact h
  · exact S j (by omega)
theorem Shut5.all {F T : Nat → Int} {f m : Int} {n : Nat} (S : Shut5 F T f m n) : ∀ s, s ∈ pairs F T n → f ≤ s.1 → s.1 ≤ m → s.2 ≤ m := by
  intro s hs h1 h2
  obtain ⟨k, hk, rfl⟩ := pairs_mem.1 hs
  have := S k hk
  dsimp only at h1 h2 ⊢
  omega
/-- How far the growing span can still grow. -/
def room (m : Int) : Nat := (1125899906842624 - m).toNat
/-- The growing span in its own block, as the outer loop keeps it. -/
structure Growing (F T : Nat → Int) (n : Nat) (jn : List (Int × Int)) (wo : World) (g : Nat) (f m : Int) (wx : World) : Prop where
  seed : Seed (pairs F T n) jn f m
  below : Below wo.heap.size wo wx
  c0 : wx.cell? ⟨g, 0, none⟩ = some (.int .i64 f)
  c1 : wx.cell? ⟨g, 1, none⟩ = some (.int .i64 m)
  z1 : wx.frozen? ⟨g, 1, none⟩ = false
  lt : g < wx.heap.size
theorem Growing.drewN {F T : Nat → Int} {n : Nat} {jn : List (Int × Int)} {wo wx : World} {g : Nat} {f m : Int} (h : Growing F T n jn wo g f m wx) (q : Nat) : Growing F T n jn wo g f m (wx.drewN q) :=
  ⟨h.seed, below_drewN' h.below q, h.c0, h.c1, h.z1, h.lt⟩
theorem Growing.bounds {F T : Nat → Int} {n : Nat} {jn : List (Int × Int)} {wo wx : World} {g : Nat} {f m : Int} (h : Growing F T n jn wo g f m wx) : 0 ≤ f ∧ f < m ∧ m ≤ 1125899906842624 := h.seed.right
theorem Growing.raise {F T : Nat → Int} {n k : Nat} {jn : List (Int × Int)} {wo wx : World} {g : Nat} {f m : Int} (h : Growing F T n jn wo g f m wx) (hr : rights (pairs F T n)) (hg : wo.heap.size ≤ g) (hk : k < n) (h1 : f ≤ F k) (h2 : F k ≤ m) (h3 : m < T k) :
    Growing F T n jn wo g f (T k) (wx.setCell ⟨g, 1, none⟩ (.int .i64 (T k))) := by
  refine ⟨h.seed.grow hr (s := (F k, T k)) (pairs_mem.2 ⟨k, hk, rfl⟩) h1 h2 h3, h.below.setCell hg _, ?_, ?_, ?_, ?_⟩
  · rw [World.cell?_setCell_other _ _ _ _ (by simp)]; exact h.c0
  · exact World.cell?_setCell_same _ _ _ h.c1
  · rw [World.frozen?_setCell]; exact h.z1
  · simpa using h.lt
end Go.Proofs.Ythlmeppahcjlgaa

/- Spans: how a row of them reads; the small functions, the program's and the reference's. -/
import Derived.Test.YtfeegohjgecjgaaLzA
import Derived.Deep.Slices
import Derived.BigQuiet
import Derived.Deep.QuietTactic
import Derived.LoopTactic
namespace Go.Proofs.Ytfeegohjgecjgaa
open Go.RowKit

/-- All old cells and marks read as before. -/
theorem bcell {W w1 : World} (hb : Below W.heap.size W w1) : (∀ b o, b < W.heap.size → w1.cell? ⟨b, o, none⟩ = W.cell? ⟨b, o, none⟩) ∧ (∀ b o, b < W.heap.size → w1.frozen? ⟨b, o, none⟩ = W.frozen? ⟨b, o, none⟩) :=
  ⟨fun b o h => hb.cell (p := ⟨b, o, none⟩) h, fun b o h => hb.frozen (p := ⟨b, o, none⟩) h⟩

/-- A new block, then a call that leaves what was there. -/
theorem below_call {B : Nat} {w wr w' : World} {o : Obj} (h : Below B w wr) (hB : B ≤ wr.heap.size) (hb : Below (wr.alloc o).heap.size (wr.alloc o) w') : Below B w w' :=
  (h.alloc hB _).trans (hb.mono (by simp; omega))

def rightB (f t : Int) : Bool := decide (0 ≤ f) && (decide (f < t) && decide (t ≤ 1125899906842624))
theorem rightB_iff (f t : Int) : rightB f t = true ↔ 0 ≤ f ∧ f < t ∧ t ≤ 1125899906842624 := by simp [rightB]

theorem right_any (f t : Int) (w : World) : Calls Try.prog 73 #[.agg #[.int .i64 f, .int .i64 t]] w fun e w' => e = .returned (.bool (rightB f t)) ∧ Below w.heap.size w w' := by
  obtain ⟨c1, d1⟩ : ∃ c, decide (0 ≤ f) = c := ⟨_, rfl⟩
  obtain ⟨c2, d2⟩ : ∃ c, decide (f < t) = c := ⟨_, rfl⟩
  obtain ⟨c3, d3⟩ : ∃ c, decide (t ≤ 1125899906842624) = c := ⟨_, rfl⟩
  have e : rightB f t = (c1 && (c2 && c3)) := by rw [← d1, ← d2, ← d3]; rfl
  rw [e]
  clear e
  cases c1 <;> cases c2 <;> cases c3
  all_goals
    go_enter Try.func73, Try.ntmps73
    go_wp2
    go_ret
    exact ⟨rfl, (Below.refl _ _).alloc (Nat.le_refl _) _⟩
theorem rright_any (f t : Int) (w : World) : Calls Try.prog 49 #[.agg #[.int .i64 f, .int .i64 t]] w fun e w' => e = .returned (.bool (rightB f t)) ∧ Below w.heap.size w w' := by
  obtain ⟨c1, d1⟩ : ∃ c, decide (0 ≤ f) = c := ⟨_, rfl⟩
  obtain ⟨c2, d2⟩ : ∃ c, decide (f < t) = c := ⟨_, rfl⟩
  obtain ⟨c3, d3⟩ : ∃ c, decide (t ≤ 1125899906842624) = c := ⟨_, rfl⟩
  have e : rightB f t = (c1 && (c2 && c3)) := by rw [← d1, ← d2, ← d3]; rfl
  rw [e]
  clear e
  cases c1 <;> cases c2 <;> cases c3
  all_goals
    go_enter Try.func49, Try.ntmps49
    go_wp2
    go_ret
    exact ⟨rfl, (Below.refl _ _).alloc (Nat.le_refl _) _⟩

theorem size_any (f t : Int) (w : World) (h1 : -9223372036854775808 ≤ t - f) (h2 : t - f ≤ 9223372036854775807) : Calls Try.prog 105 #[.agg #[.int .i64 f, .int .i64 t]] w fun e w' => e = .returned (.int .i64 (t - f)) ∧ Below w.heap.size w w' := by
  go_enter Try.func105, Try.ntmps105
  go_wp2
  go_ret
  exact ⟨rfl, (Below.refl _ _).alloc (Nat.le_refl _) _⟩

def mx (a b : Int) : Int := if a < b then b else a
def mn (a b : Int) : Int := if b < a then b else a
/-- What two spans have in common: from, to; 0 and 0 where there is nothing. -/
def comF (f t f' t' : Int) : Int := if mn t t' ≤ mx f f' then 0 else mx f f'
def comT (f t f' t' : Int) : Int := if mn t t' ≤ mx f f' then 0 else mn t t'
theorem com_cases (f t f' t' : Int) : (mn t t' ≤ mx f f' ∧ comF f t f' t' = 0 ∧ comT f t f' t' = 0) ∨ (mx f f' < mn t t' ∧ comF f t f' t' = mx f f' ∧ comT f t f' t' = mn t t') := by
  unfold comF comT
  by_cases h : mn t t' ≤ mx f f'
  · exact .inl ⟨h, by simp [h], by simp [h]⟩
  · exact .inr ⟨by omega, by simp [h], by simp [h]⟩
theorem mx_cases (a b : Int) : (a < b ∧ mx a b = b) ∨ (b ≤ a ∧ mx a b = a) := by unfold mx; split <;> omega
theorem mn_cases (a b : Int) : (b < a ∧ mn a b = b) ∨ (a ≤ b ∧ mn a b = a) := by unfold mn; split <;> omega
/-- A span handed back. -/
def GotSpan (x y : Int) (w : World) (e : Ending) (w' : World) : Prop := ∃ u v, e = .returned (.agg #[.int .i64 u, .int .i64 v]) ∧ u = x ∧ v = y ∧ Below w.heap.size w w'

def GotPart (x y : Int) (w : World) (e : Ending) (w' : World) : Prop := ∃ u v b, e = .returned (.tuple #[.agg #[.int .i64 u, .int .i64 v], .bool b]) ∧ u = x ∧ v = y ∧ b = decide (x < y) ∧ Below w.heap.size w w'
set_option maxRecDepth 100000 in
theorem part_any (f t f' t' : Int) (w : World) : Calls Try.prog 77 #[.agg #[.int .i64 f, .int .i64 t], .int .i64 f', .int .i64 t'] w (GotPart (mx f f') (mn t t') w) := by
  have h1 := Lib.hid (mx_cases f f')
  have h2 := Lib.hid (mn_cases t t')
  obtain ⟨x, hx⟩ : ∃ x, mx f f' = x := ⟨_, rfl⟩
  obtain ⟨y, hy⟩ : ∃ y, mn t t' = y := ⟨_, rfl⟩
  rw [hx] at h1 ⊢
  rw [hy] at h2 ⊢
  clear hx hy
  go_enter Try.func77, Try.ntmps77
  go_wp2
  all_goals go_region
  all_goals go_wp2
  all_goals
    have h1 := h1.out
    have h2 := h2.out
    refine bodyPost_ret (v := .tuple #[.agg #[.int .i64 x, .int .i64 y], .bool (decide (x < y))]) (by simp [results, Try.results77, go_sem]; refine ⟨⟨by omega, by omega⟩, ?_⟩; omega) rfl ⟨_, _, _, rfl, rfl, rfl, rfl, ?_⟩
    exact (((Below.refl _ _).alloc (Nat.le_refl _) _).alloc (by simp) _).drew
end Go.Proofs.Ytfeegohjgecjgaa

/- Spans: how a row of them reads; the small functions, the program's and the reference's. -/
import Derived.Test.YthefnakbpalecaaLzA
import Derived.Deep.Slices
import Derived.BigQuiet
import Derived.Deep.QuietTactic
import Derived.LoopTactic
namespace Go.Proofs.Ythefnakbpalecaa
open Go.RowKit

/-- All old cells and marks read as before. -/
theorem bcell {W w1 : World} (hb : Below W.heap.size W w1) : (∀ b o, b < W.heap.size → w1.cell? ⟨b, o, none⟩ = W.cell? ⟨b, o, none⟩) ∧ (∀ b o, b < W.heap.size → w1.frozen? ⟨b, o, none⟩ = W.frozen? ⟨b, o, none⟩) :=
  ⟨fun b o h => hb.cell (p := ⟨b, o, none⟩) h, fun b o h => hb.frozen (p := ⟨b, o, none⟩) h⟩

/-- A new block, then a call that leaves what was there. -/
theorem below_call {B : Nat} {w wr w' : World} {o : Obj} (h : Below B w wr) (hB : B ≤ wr.heap.size) (hb : Below (wr.alloc o).heap.size (wr.alloc o) w') : Below B w w' :=
  (h.alloc hB _).trans (hb.mono (by simp; omega))

def rightB (f t : Int) : Bool := decide (0 ≤ f) && (decide (f < t) && decide (t ≤ 1125899906842624))
theorem rightB_iff (f t : Int) : rightB f t = true ↔ 0 ≤ f ∧ f < t ∧ t ≤ 1125899906842624 := by simp [rightB]

def mx (a b : Int) : Int := if a < b then b else a
def mn (a b : Int) : Int := if b < a then b else a
/-- What two spans have in common: from, to; 0 and 0 where there is nothing. -/
def comF (f t f' t' : Int) : Int := if mn t t' ≤ mx f f' then 0 else mx f f'
def comT (f t f' t' : Int) : Int := if mn t t' ≤ mx f f' then 0 else mn t t'
theorem com_cases (f t f' t' : Int) : (mn t t' ≤ mx f f' ∧ comF f t f' t' = 0 ∧ comT f t f' t' = 0) ∨ (mx f f' < mn t t' ∧ comF f t f' t' = mx f f' ∧ comT f t f' t' = mn t t') := by
  unfold comF comT
  by_cases h : mn t t' ≤ mx f f'
  · exact .inl ⟨h, by simp [h], by simp [h]⟩
  · exact .inr ⟨by omega, by simp [h], by simp [h]⟩
theorem mx_cases (a b : Int) : (a < b ∧ mx a b = b) ∨ (b ≤ a ∧ mx a b = a) := by unfold mx; split <;> omega
theorem mn_cases (a b : Int) : (b < a ∧ mn a b = b) ∨ (a ≤ b ∧ mn a b = a) := by unfold mn; split <;> omega
/-- A span handed back. -/
def GotSpan (x y : Int) (w : World) (e : Ending) (w' : World) : Prop := ∃ u v, e = .returned (.agg #[.int .i64 u, .int .i64 v]) ∧ u = x ∧ v = y ∧ Below w.heap.size w w'

def GotPart (x y : Int) (w : World) (e : Ending) (w' : World) : Prop := ∃ u v b, e = .returned (.tuple #[.agg #[.int .i64 u, .int .i64 v], .bool b]) ∧ u = x ∧ v = y ∧ b = decide (x < y) ∧ Below w.heap.size w w'
end Go.Proofs.Ythefnakbpalecaa

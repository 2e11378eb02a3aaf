/- Tickets: what a ticket's life keeps. -/
import Derived.Test.YthnnbmofpmedhaaGreatTkB
namespace Go.Proofs.YthnnbmofpmedhaaGreat
open Go.RowKit
/-- What a step that runs is. -/
def RunS (D : Cal) (fr lf du : Int) : Prop := 0 ≤ fr ∧ fr < du ∧ 1 ≤ lf ∧ lf ≤ du - fr ∧ du ≤ 1125899906842624 ∧ D.g du = D.g fr + lf ∧ D.opB (du - 1) = true
theorem Ran.runs {D : Cal} {lv b now l f c d e : Int} (h : Ran D lv b now l f c d e) (hb : 1 ≤ b) (he : e = 0) : l = lv ∧ f = now ∧ c = b ∧ RunS D now b d := by
  obtain ⟨v, er, hd, h⟩ := h
  rcases h with ⟨h0, rfl, rfl, rfl, rfl, -⟩ | ⟨h0, -, -, -, -, rfl⟩
  · refine ⟨rfl, rfl, rfl, ?_⟩
    subst h0
    rcases hd with ⟨_, _, h⟩ | ⟨_, _, h, _⟩ | ⟨_, _, _, _, _, h⟩ | ⟨s0, s1, _, ht, h⟩
    · omega
    · omega
    · omega
    rcases h with ⟨h, _, _⟩ | ⟨_, h2, h3, h4, h5⟩
    · omega
    · have := D.g_lip s0 (Int.le_of_lt h4)
      exact ⟨s0, h4, hb, by omega, h5, h2, h3⟩
  · exact absurd he h0
/-- What a ticket may be between two calls. -/
def TS (D : Cal) (n : Nat) (now next st lv fr lf du : Int) : Prop :=
  0 ≤ lv ∧ lv < n ∧ 0 ≤ next ∧
  ((st = 1 ∧ next = lv ∧ fr ≤ now ∧ RunS D fr lf du) ∨
   (st = 2 ∧ next = lv ∧ 0 ≤ fr ∧ fr ≤ 1125899906842624 ∧ 1 ≤ lf ∧ lf ≤ 1125899906842624 ∧ du = 0) ∨
   ((st = 3 ∨ st = 4) ∧ next ≤ n ∧ fr = 0 ∧ lf = 0 ∧ du = 0))
theorem TS.later {D : Cal} {n : Nat} {now next st lv fr lf du : Int} (h : TS D n now next st lv fr lf du) {u : Int} (hu : now ≤ u) : TS D n u next st lv fr lf du := by
  obtain ⟨h0, h1, h2, h3⟩ := h
  refine ⟨h0, h1, h2, ?_⟩
  rcases h3 with ⟨a, b, c, d⟩ | h | h
  · exact .inl ⟨a, b, by omega, d⟩
  · exact .inr (.inl h)
  · exact .inr (.inr h)
theorem TS.opened {D : Cal} {n : Nat} (hn : 1 ≤ n) {b now l f c d e : Int} (hb : 1 ≤ b) (h : Ran D 0 b now l f c d e) (he : e = 0) : TS D n now 0 1 l f c d := by
  obtain ⟨rfl, rfl, rfl, h⟩ := h.runs hb he
  exact ⟨Int.le_refl 0, by omega, Int.le_refl 0, .inl ⟨rfl, rfl, Int.le_refl _, h⟩⟩
theorem TS.paused {D : Cal} {n : Nat} {now next lv fr lf du l f c d e : Int} (h : TS D n now next 1 lv fr lf du) (hs : Stood D lv fr lf du now l f c d e) (he : e = 0) : TS D n now next 2 l f c d := by
  obtain ⟨h0, h1, h2, h3⟩ := h
  rcases h3 with ⟨-, a, b, r0, r1, r2, r3, r4, r5, r6⟩ | ⟨h, _⟩ | ⟨h, _⟩
  · rcases hs with ⟨_, _, _, _, _, h⟩ | ⟨_, _, _, _, _, _, h⟩ | ⟨k0, k1, v, er, hr, hs⟩
    · omega
    · omega
    rcases hs with ⟨z, rfl, rfl, rfl, rfl, -⟩ | ⟨z, _, _, _, _, rfl⟩
    · subst z
      rcases hr with ⟨_, _, h⟩ | ⟨q0, ⟨q1, q2, q3⟩, q4, _⟩
      · omega
      have g1 := D.g_step (du - 1) (by omega)
      rw [r6] at g1
      simp only [if_true] at g1
      rw [show du - 1 + 1 = du by omega] at g1
      have g2 := D.g_mono (a := fr) (b := f) r0 b
      have g3 := D.g_mono (a := f) (b := du - 1) (by omega) (by omega)
      refine ⟨h0, h1, h2, .inr (.inl ⟨rfl, a, by omega, by omega, ?_, ?_, rfl⟩)⟩
      · rw [q4]; omega
      · rw [q4]; omega
    · exact absurd he z
  · omega
  · omega
theorem TS.resumed {D : Cal} {n : Nat} {now next lv fr lf du l f c d e : Int} (h : TS D n now next 2 lv fr lf du) (hs : Went D lv lf du now l f c d e) (he : e = 0) : TS D n now next 1 l f c d := by
  obtain ⟨h0, h1, h2, h3⟩ := h
  rcases h3 with ⟨h, _⟩ | ⟨-, a, b0, b1, b2, b3, b4⟩ | ⟨h, _⟩
  · omega
  · rcases hs with ⟨_, _, _, _, _, h⟩ | ⟨_, _, _, _, _, _, h⟩ | ⟨k0, k1, hr⟩
    · omega
    · omega
    obtain ⟨rfl, rfl, rfl, h⟩ := hr.runs k1 he
    exact ⟨h0, h1, h2, .inl ⟨rfl, a, Int.le_refl _, h⟩⟩
  · omega
theorem TS.resolved {D : Cal} {n : Nat} {now next st lv fr lf du : Int} (h : TS D n now next st lv fr lf du) : TS D n now next 4 lv 0 0 0 := by
  obtain ⟨h0, h1, h2, h3⟩ := h
  refine ⟨h0, h1, h2, .inr (.inr ⟨.inr rfl, ?_, rfl, rfl, rfl⟩)⟩
  rcases h3 with ⟨_, h, _⟩ | ⟨_, h, _⟩ | ⟨_, h, _⟩ <;> omega
theorem TS.next {D : Cal} {n : Nat} {B P : Nat → Int} (hl : lvs B P n = true) {now next lv fr lf du l f c d e : Int} {ok : Bool} (h : TS D n now next 1 lv fr lf du) (hs : Nxtd D n B lv now l f c d ok e) (ho : ok = true) : TS D n now (next + 1) 1 l f c d ∧ l = lv + 1 := by
  obtain ⟨h0, h1, h2, h3⟩ := h
  rcases h3 with ⟨-, a, b, r⟩ | ⟨h, _⟩ | ⟨h, _⟩
  · rcases hs with ⟨_, _, _, _, _, h, _⟩ | ⟨_, _, _, _, _, _, h, _⟩ | ⟨k0, k1, hr, he⟩
    · rw [h] at ho; cases ho
    · rw [h] at ho; cases ho
    rw [ho] at he
    obtain ⟨l1, -, -, -⟩ := lvs_at hl (show (lv + 1).toNat < n by omega)
    obtain ⟨rfl, rfl, rfl, h⟩ := hr.runs l1 (by simpa using he.symm)
    exact ⟨⟨by omega, k1, by omega, .inl ⟨rfl, by omega, Int.le_refl _, h⟩⟩, rfl⟩
  · omega
  · omega
theorem TS.spent {D : Cal} {n : Nat} {now next lv fr lf du : Int} (h : TS D n now next 1 lv fr lf du) : TS D n now (next + 1) 3 lv 0 0 0 := by
  obtain ⟨h0, h1, h2, h3⟩ := h
  refine ⟨h0, h1, by omega, .inr (.inr ⟨.inl rfl, ?_, rfl, rfl, rfl⟩)⟩
  rcases h3 with ⟨_, h, _⟩ | ⟨h, _⟩ | ⟨h, _⟩ <;> omega
end Go.Proofs.YthnnbmofpmedhaaGreat

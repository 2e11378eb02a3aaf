/- A step that stands, and one that goes on, both ways. -/
import Derived.Test.YthnnbmofpmedhaaGreatChE
namespace Go.Proofs.YthnnbmofpmedhaaGreat
open Go.RowKit
def Went (D : Cal) (lv b d now : Int) (l f c x e : Int) : Prop :=
  (d ≠ 0 ∧ l = 0 ∧ f = 0 ∧ c = 0 ∧ x = 0 ∧ e = 33) ∨ (d = 0 ∧ b < 1 ∧ l = 0 ∧ f = 0 ∧ c = 0 ∧ x = 0 ∧ e = 2) ∨ (d = 0 ∧ 1 ≤ b ∧ Ran D lv b now l f c x e)
theorem Went.same {D : Cal} {lv b d now l f c x e l' f' c' x' e' : Int} (h : Went D lv b d now l f c x e) (h' : Went D lv b d now l' f' c' x' e') : l = l' ∧ f = f' ∧ c = c' ∧ x = x' ∧ e = e' := by
  rcases h with ⟨h0, rfl, rfl, rfl, rfl, rfl⟩ | ⟨h0, h1, rfl, rfl, rfl, rfl, rfl⟩ | ⟨h0, h1, h2⟩ <;> rcases h' with ⟨k0, rfl, rfl, rfl, rfl, rfl⟩ | ⟨k0, k1, rfl, rfl, rfl, rfl, rfl⟩ | ⟨k0, k1, k2⟩ <;> first | exact ⟨rfl, rfl, rfl, rfl, rfl⟩ | omega | exact h2.same k2
def RestIs (D : Cal) (x b y v e : Int) : Prop := ((b < 0 ∨ ¬ (instB x = true ∧ instB y = true ∧ x ≤ y)) ∧ v = 0 ∧ e = 2) ∨ (0 ≤ b ∧ (instB x = true ∧ instB y = true ∧ x ≤ y) ∧ v = max 0 (b - (D.g y - D.g x)) ∧ e = 0)
theorem RestIs.same {D : Cal} {x b y v e v' e' : Int} (h : RestIs D x b y v e) (h' : RestIs D x b y v' e') : v = v' ∧ e = e' := by
  rcases h with ⟨h1, rfl, rfl⟩ | ⟨h0, h1, rfl, rfl⟩ <;> rcases h' with ⟨k1, rfl, rfl⟩ | ⟨k0, k1, rfl, rfl⟩
  · exact ⟨rfl, rfl⟩
  · rcases h1 with h1 | h1
    · omega
    · exact absurd k1 h1
  · rcases k1 with k1 | k1
    · omega
    · exact absurd h1 k1
  · exact ⟨rfl, rfl⟩
def Stood (D : Cal) (lv fr b d now : Int) (l f c x e : Int) : Prop :=
  (d = 0 ∧ l = 0 ∧ f = 0 ∧ c = 0 ∧ x = 0 ∧ e = 33) ∨ (d ≠ 0 ∧ d ≤ now ∧ l = 0 ∧ f = 0 ∧ c = 0 ∧ x = 0 ∧ e = 34) ∨
  (d ≠ 0 ∧ now < d ∧ ∃ v er, RestIs D fr b now v er ∧ ((er = 0 ∧ l = lv ∧ f = now ∧ c = v ∧ x = 0 ∧ e = 0) ∨ (er ≠ 0 ∧ l = 0 ∧ f = 0 ∧ c = 0 ∧ x = 0 ∧ e = er)))
theorem Stood.same {D : Cal} {lv fr b d now l f c x e l' f' c' x' e' : Int} (h : Stood D lv fr b d now l f c x e) (h' : Stood D lv fr b d now l' f' c' x' e') : l = l' ∧ f = f' ∧ c = c' ∧ x = x' ∧ e = e' := by
  rcases h with ⟨h0, rfl, rfl, rfl, rfl, rfl⟩ | ⟨h0, h1, rfl, rfl, rfl, rfl, rfl⟩ | ⟨h0, h1, v, er, h2, h3⟩ <;> rcases h' with ⟨k0, rfl, rfl, rfl, rfl, rfl⟩ | ⟨k0, k1, rfl, rfl, rfl, rfl, rfl⟩ | ⟨k0, k1, v', er', k2, k3⟩ <;> first | exact ⟨rfl, rfl, rfl, rfl, rfl⟩ | omega | skip
  obtain ⟨rfl, rfl⟩ := h2.same k2
  rcases h3 with ⟨h3, rfl, rfl, rfl, rfl, rfl⟩ | ⟨h3, rfl, rfl, rfl, rfl, rfl⟩ <;> rcases k3 with ⟨k3, rfl, rfl, rfl, rfl, rfl⟩ | ⟨k3, rfl, rfl, rfl, rfl, rfl⟩
  · exact ⟨rfl, rfl, rfl, rfl, rfl⟩
  · exact absurd h3 k3
  · exact absurd k3 h3
  · exact ⟨rfl, rfl, rfl, rfl, rfl⟩
def GaveC (C : Prop) (L : Loc) (D : Cal) (w : World) (R : Int → Int → Int → Int → Int → Prop) (e : Ending) (w' : World) : Prop :=
  ∃ l f c d er, e = .returned (.tuple #[stepV l f c d, .int .i64 er]) ∧ R l f c d er ∧ (C → Ck L D w') ∧ Only (· = L.C) w w'
end Go.Proofs.YthnnbmofpmedhaaGreat

/- The vow: what the disk of a book is between calls, and what a crash leaves of it. No Go text here. -/
import Derived.Test.YthefnakbpalecaaVyP
namespace Go.Proofs.Ythefnakbpalecaa
open Go.RowKit Go.Maps
/-- X is lines whole, the last one telling t and v. -/
def Wl (X : List Nat) (t : Nat) (v : Int) : Prop := ∀ more, vRows (rowsOf (X ++ more)) 0 (-1) 0 = vRows (rowsOf more) t v X.length
theorem Wl.nil : Wl [] 0 (-1) := fun _ => rfl
theorem Wl.add {X : List Nat} {t : Nat} {v : Int} (h : Wl X t v) (t1 u : Nat) (ht : t1 ≤ 1152921504606846976) (hu : u ≤ 7) : Wl (X ++ lineB t1 u) t1 ((u : Int) - 1) := fun more => by
  rw [List.append_assoc, h, vRows_line t1 u ht hu, List.length_append]
theorem Wl.read {X : List Nat} {t : Nat} {v : Int} (h : Wl X t v) : vRead X = (t, v, X.length) := by
  have := h []
  rw [List.append_nil, rowsOf_nil, vRows_nil] at this
  exact this
theorem Wl.torn {X : List Nat} {t : Nat} {v : Int} (h : Wl X t v) {T : List Nat} (hT : (takeOf T).e ≠ 0) : vRead (X ++ T) = (t, v, X.length) := by
  unfold vRead; rw [h, rows_no hT, vRows_nil]
theorem Wl.empty {t : Nat} {v : Int} (h : Wl [] t v) : t = 0 ∧ v = -1 := by
  have h1 := h.read
  have h2 := Wl.nil.read
  rw [h2] at h1
  simp only [Prod.mk.injEq] at h1
  exact ⟨h1.1.symm, h1.2.1.symm⟩
/-- The files between calls. -/
def Ffs (fs : Ft) (t : Nat) (v : Int) : Prop := (fs = [] ∧ t = 0 ∧ v = -1) ∨ ∃ X, fs = [(nVow, ⟨X, X.length⟩)] ∧ Wl X t v
/-- The files where the power failed within a Keep. -/
def Fhalf (fs : Ft) (t : Nat) (v : Int) (t1 : Nat) (v1 : Int) : Prop :=
  ∃ u : Nat, v1 = (u : Int) - 1 ∧ u ≤ 7 ∧ t1 ≤ 1152921504606846976 ∧ ((∃ X, fs = [(nVow, ⟨X ++ lineB t1 u, X.length⟩)] ∧ Wl X t v) ∨ ∃ X Y k, fs = [(nVow, ⟨X, X.length⟩), (nNew, ⟨Y, k⟩)] ∧ Wl X t v)
theorem vow_ne : (nNew = nVow) = False := by simp [nNew, nVow]
theorem vow_ne' : (nVow = nNew) = False := by simp [nNew, nVow]
theorem vow_lt : (nVow < nNew) = True := by simp; decide
theorem nVow_ok : validN nVow = true := by decide
theorem nNew_ok : validN nNew = true := by decide
theorem put_none (f : Fl) : putF [] nVow f = [(nVow, f)] := rfl
theorem put_one (f g : Fl) : putF [(nVow, f)] nVow g = [(nVow, g)] := by simp [putF]
theorem put_new (f g : Fl) : putF [(nVow, f)] nNew g = [(nVow, f), (nNew, g)] := by
  simp only [putF]
  rw [if_neg (by rw [vow_ne]; exact id), if_neg (by decide)]
theorem put_new2 (f g g2 : Fl) : putF [(nVow, f), (nNew, g)] nNew g2 = [(nVow, f), (nNew, g2)] := by
  simp only [putF]
  rw [if_neg (by rw [vow_ne]; exact id), if_neg (by decide), if_pos trivial]
theorem del_new (f g : Fl) : delF [(nVow, f), (nNew, g)] nNew = [(nVow, f)] := by
  simp only [delF]
  rw [if_neg (by rw [vow_ne']; exact id), if_pos trivial]
theorem get_vow (f : Fl) (r : Ft) : getF ((nVow, f) :: r) nVow = some f := by simp [getF]
theorem get_new (f g : Fl) : getF [(nVow, f), (nNew, g)] nNew = some g := by
  simp only [getF]
  rw [if_neg (by rw [vow_ne']; exact id), if_pos trivial]
theorem get_new_no (f : Fl) : getF [(nVow, f)] nNew = none := by
  simp only [getF]
  rw [if_neg (by rw [vow_ne']; exact id)]
/-- A crash of what lies between calls leaves it. -/
theorem Ffs.crash {fs : Ft} {t : Nat} {v : Int} (h : Ffs fs t v) (ts : List (Nat × Nat)) : Ffs (crashF fs ts) t v := by
  rcases h with ⟨rfl, h1, h2⟩ | ⟨X, rfl, hw⟩
  · exact .inl ⟨rfl, h1, h2⟩
  · simp only [crashF]
    rw [if_neg (by omega)]
    unfold oneF
    by_cases hx : X = []
    · subst hx
      rw [if_pos rfl]
      exact .inl ⟨rfl, hw.empty⟩
    · dsimp only
      rw [if_neg hx]
      exact .inr ⟨X, rfl, hw⟩
/-- The files after a crash, before Open: X whole, then what is not read; and perhaps a new file that nobody has moved. -/
def Ftorn (fs : Ft) (t : Nat) (v : Int) : Prop := (Ffs fs t v) ∨ (∃ X T, fs = [(nVow, ⟨X ++ T, (X ++ T).length⟩)] ∧ Wl X t v ∧ (takeOf T).e ≠ 0) ∨ (∃ X Y k, fs = [(nVow, ⟨X, X.length⟩), (nNew, ⟨Y, k⟩)] ∧ Wl X t v) ∨ (∃ Y k, fs = [(nNew, ⟨Y, k⟩)] ∧ t = 0 ∧ v = -1)
theorem Fhalf.crash {fs : Ft} {t : Nat} {v : Int} {t1 : Nat} {v1 : Int} (h : Fhalf fs t v t1 v1) (ts : List (Nat × Nat)) : Ftorn (crashF fs ts) t v ∨ Ftorn (crashF fs ts) t1 v1 := by
  obtain ⟨u, rfl, hu, ht, ⟨X, rfl, hw⟩ | ⟨X, Y, k, rfl, hw⟩⟩ := h
  · have hl := line_one t1 u
    simp only [crashF]
    rw [if_pos (by simp; omega)]
    have e1 : (X ++ lineB t1 u).take X.length = X := List.take_left'  rfl
    have e2 : (X ++ lineB t1 u).drop X.length = lineB t1 u := List.drop_left' rfl
    unfold tornF oneF
    dsimp only
    rw [e1, e2]
    rcases tear_take 3 (num 0 t1 ++ num 0 u) (by omega) (by omega) (by have := body_len t1 u (by omega) (by omega); omega) (body_lt t1 u (by omega) (by omega)) (nextT ts).1.1 (nextT ts).1.2 with he | he
    · right; left; right
      have he2 : tearB (lineB t1 u) (nextT ts).1.1 (nextT ts).1.2 = lineB t1 u := he
      rw [he2, if_neg (by intro h; have h2 := (List.append_eq_nil_iff.1 h).2; rw [h2] at hl; simp at hl), List.append_nil]
      exact ⟨_, rfl, hw.add t1 u ht hu⟩
    · left
      have he2 : (takeOf (tearB (lineB t1 u) (nextT ts).1.1 (nextT ts).1.2)).e ≠ 0 := he
      by_cases hx : X ++ tearB (lineB t1 u) (nextT ts).1.1 (nextT ts).1.2 = []
      · rw [if_pos hx]
        obtain ⟨hx1, -⟩ := List.append_eq_nil_iff.1 hx
        subst hx1
        exact .inl (.inl ⟨rfl, hw.empty⟩)
      · rw [if_neg hx, List.append_nil]
        exact .inr (.inl ⟨X, _, rfl, hw, he2⟩)
  · left
    have hone : ∀ (f : Fl), oneF nNew f = [] ∨ oneF nNew f = [(nNew, f)] := fun f => by
      unfold oneF; split
      · exact .inl rfl
      · exact .inr rfl
    have hsec : ∀ us, ∃ r, crashF [(nNew, (⟨Y, k⟩ : Fl))] us = r ∧ (r = [] ∨ ∃ Y' k', r = [(nNew, ⟨Y', k'⟩)]) := fun us => by
      refine ⟨_, rfl, ?_⟩
      simp only [crashF]
      split
      · rw [List.append_nil]
        rcases hone (tornF ⟨Y, k⟩ (nextT us).1) with h | h
        · exact .inl h
        · exact .inr ⟨_, _, h⟩
      · rw [List.append_nil]
        rcases hone ⟨Y, k⟩ with h | h
        · exact .inl h
        · exact .inr ⟨_, _, h⟩
    obtain ⟨r, hr, hor⟩ := hsec ts
    have hc : crashF [(nVow, (⟨X, X.length⟩ : Fl)), (nNew, ⟨Y, k⟩)] ts = oneF nVow ⟨X, X.length⟩ ++ r := by
      rw [← hr]
      simp only [crashF]
      rw [if_neg (by omega)]
    rw [hc]
    unfold oneF
    by_cases hx : X = []
    · subst hx
      rw [if_pos rfl, List.nil_append]
      rcases hor with rfl | ⟨Y', k', rfl⟩
      · exact .inl (.inl ⟨rfl, hw.empty⟩)
      · exact .inr (.inr (.inr ⟨Y', k', rfl, hw.empty⟩))
    · dsimp only
      rw [if_neg hx]
      rcases hor with rfl | ⟨Y', k', rfl⟩
      · exact .inl (.inr ⟨X, rfl, hw⟩)
      · exact .inr (.inr (.inl ⟨X, Y', k', rfl, hw⟩))
end Go.Proofs.Ythefnakbpalecaa

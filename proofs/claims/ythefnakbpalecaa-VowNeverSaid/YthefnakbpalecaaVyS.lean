/- The vow: what Keep leaves. No Go text here. -/
import Derived.Test.YthefnakbpalecaaVyR
namespace Go.Proofs.Ythefnakbpalecaa
open Go.RowKit Go.Maps
/-- Append of a line to the book's file. -/
theorem write_vow {D : Dd} (hd : D.down = false) {X L : List Nat} (hf : (D.fs = [] ∧ X = []) ∨ D.fs = [(nVow, ⟨X, X.length⟩)]) :
    writeD D nVow L = (D, 30) ∨ (∃ D', writeD D nVow L = (D', 50) ∧ D'.down = true ∧ D'.fs = [(nVow, ⟨X ++ L, X.length⟩)]) ∨ (∃ D', writeD D nVow L = (D', 0) ∧ D'.down = false ∧ D'.fs = [(nVow, ⟨X ++ L, (X ++ L).length⟩)]) := by
  have happ : appendD D nVow L = (D, 30) ∨ ∃ D1, appendD D nVow L = (D1, pw D1.down) ∧ D1.fs = [(nVow, ⟨X ++ L, X.length⟩)] := by
    unfold appendD
    rw [hd, nVow_ok, if_neg (by simp), if_neg (by simp)]
    rcases hf with ⟨hf, rfl⟩ | hf
    · rw [hf]
      show (if 128 ≤ (([] : Ft)).length then _ else if freeD D < (L.length : Int) then _ else _) = _ ∨ _
      rw [if_neg (by decide)]
      by_cases h : freeD D < (L.length : Int)
      · rw [if_pos h]; exact .inl rfl
      · rw [if_neg h]
        refine .inr ⟨stepD (D.files (putF [] nVow ⟨L, 0⟩)), ?_, by show putF [] nVow _ = _; rw [put_none]; rfl⟩
        rfl
    · rw [hf, get_vow]
      dsimp only
      by_cases h : freeD D < (L.length : Int)
      · rw [if_pos h]; exact .inl rfl
      · rw [if_neg h]
        exact .inr ⟨_, rfl, by show putF [(nVow, (⟨X, X.length⟩ : Fl))] nVow ⟨X ++ L, X.length⟩ = _; rw [put_one]⟩
  unfold writeD
  rcases happ with h | ⟨D1, h, h1⟩
  · rw [h]; exact .inl rfl
  · rw [h]
    cases hdn : D1.down with
    | true => exact .inr (.inl ⟨D1, rfl, hdn, h1⟩)
    | false =>
      show syncD D1 nVow = _ ∨ _
      have hg : getF D1.fs nVow = some ⟨X ++ L, X.length⟩ := by rw [h1]; exact get_vow _ _
      unfold syncD
      rw [hdn, hg]
      dsimp only
      cases hs : (stepD D1).down with
      | true => exact .inr (.inl ⟨stepD D1, rfl, hs, h1⟩)
      | false => exact .inr (.inr ⟨_, rfl, hs, by show putF D1.fs nVow _ = _; rw [h1, put_one]⟩)
/-- Append of a line to the new file. -/
theorem write_new {D : Dd} (hd : D.down = false) {X L : List Nat} (hf : D.fs = [(nVow, ⟨X, X.length⟩)]) :
    writeD D nNew L = (D, 30) ∨ (∃ D', writeD D nNew L = (D', 50) ∧ D'.down = true ∧ ∃ k, D'.fs = [(nVow, ⟨X, X.length⟩), (nNew, ⟨L, k⟩)]) ∨ (∃ D', writeD D nNew L = (D', 0) ∧ D'.down = false ∧ D'.fs = [(nVow, ⟨X, X.length⟩), (nNew, ⟨L, L.length⟩)]) := by
  have happ : appendD D nNew L = (D, 30) ∨ ∃ D1, appendD D nNew L = (D1, pw D1.down) ∧ D1.fs = [(nVow, ⟨X, X.length⟩), (nNew, ⟨L, 0⟩)] := by
    unfold appendD
    rw [hd, nNew_ok, if_neg (by simp), if_neg (by simp), hf, get_new_no]
    dsimp only
    rw [if_neg (show ¬ 128 ≤ [(nVow, (⟨X, X.length⟩ : Fl))].length by simp)]
    by_cases h : freeD D < (L.length : Int)
    · rw [if_pos h]; exact .inl rfl
    · rw [if_neg h]
      exact .inr ⟨_, rfl, by show putF [(nVow, (⟨X, X.length⟩ : Fl))] nNew ⟨L, 0⟩ = _; rw [put_new]⟩
  unfold writeD
  rcases happ with h | ⟨D1, h, h1⟩
  · rw [h]; exact .inl rfl
  · rw [h]
    cases hdn : D1.down with
    | true => exact .inr (.inl ⟨D1, rfl, hdn, 0, h1⟩)
    | false =>
      show syncD D1 nNew = _ ∨ _
      have hg : getF D1.fs nNew = some ⟨L, 0⟩ := by rw [h1]; exact get_new _ _
      unfold syncD
      rw [hdn, hg]
      dsimp only
      cases hs : (stepD D1).down with
      | true => exact .inr (.inl ⟨stepD D1, rfl, hs, 0, h1⟩)
      | false => exact .inr (.inr ⟨_, rfl, hs, by show putF D1.fs nNew _ = _; rw [h1, put_new2]⟩)
/-- What Keep leaves: all is as between calls, or the power has failed. -/
def KeptOk (t : Nat) (v : Int) (t1 : Nat) (v1 : Int) (r : Dd × Int × Nat × Int) : Prop :=
  (r.1.down = false ∧ r.2.1 ≠ 50 ∧ Ffs r.1.fs r.2.2.1 r.2.2.2 ∧ ((r.2.1 = 0 ∧ r.2.2.1 = t1 ∧ r.2.2.2 = v1 ∧ mayB t v t1 v1 = true) ∨ (r.2.1 ≠ 0 ∧ r.2.2.1 = t ∧ r.2.2.2 = v))) ∨
  (r.1.down = true ∧ r.2.1 = 50 ∧ r.2.2.1 = t ∧ r.2.2.2 = v ∧ mayB t v t1 v1 = true ∧ Fhalf r.1.fs t v t1 v1)
theorem keep_ok {D : Dd} (hd : D.down = false) {t : Nat} {v : Int} (h : Ffs D.fs t v) (t1 : Nat) (v1 : Int) : KeptOk t v t1 v1 (keepV D t v t1 v1) := by
  unfold keepV
  cases hs : sdB t1 v1 with
  | false =>
    rw [if_pos rfl]
    exact .inl ⟨hd, (show (2 : Int) ≠ 50 by decide), h, .inr ⟨(show (2 : Int) ≠ 0 by decide), rfl, rfl⟩⟩
  | true =>
    rw [if_neg (by simp)]
    cases hm : mayB t v t1 v1 with
    | false =>
      rw [if_pos rfl]
      exact .inl ⟨hd, (show (34 : Int) ≠ 50 by decide), h, .inr ⟨(show (34 : Int) ≠ 0 by decide), rfl, rfl⟩⟩
    | true =>
      rw [if_neg (by simp)]
      by_cases he : t1 = t ∧ v1 = v
      · rw [if_pos he]
        obtain ⟨rfl, rfl⟩ := he
        exact .inl ⟨hd, (show (0 : Int) ≠ 50 by decide), h, .inl ⟨rfl, rfl, rfl, hm⟩⟩
      · rw [if_neg he]
        have hs2 := hs
        unfold sdB at hs2
        simp only [Bool.and_eq_true, decide_eq_true_eq] at hs2
        obtain ⟨u, hu⟩ : ∃ u, (v1 + 1).toNat = u := ⟨_, rfl⟩
        have hv1 : v1 = (u : Int) - 1 := by omega
        have hu7 : u ≤ 7 := by omega
        have ht1 : t1 ≤ 1152921504606846976 := by omega
        rw [hu]
        have hhalf : ∀ X, Wl X t v → ∀ D' : Dd, D'.fs = [(nVow, ⟨X ++ lineB t1 u, X.length⟩)] → Fhalf D'.fs t v t1 v1 := fun X hw D' hf' => ⟨u, hv1, hu7, ht1, .inl ⟨X, hf', hw⟩⟩
        have hhalf2 : ∀ X, Wl X t v → ∀ D' : Dd, (∃ k, D'.fs = [(nVow, ⟨X, X.length⟩), (nNew, ⟨lineB t1 u, k⟩)]) → Fhalf D'.fs t v t1 v1 := fun X hw D' ⟨k, hf'⟩ => ⟨u, hv1, hu7, ht1, .inr ⟨X, _, k, hf', hw⟩⟩
        have key : (∃ D', storeD D (lineB t1 u) = (D', 0) ∧ D'.down = false ∧ Ffs D'.fs t1 v1) ∨ (storeD D (lineB t1 u) = (D, 30)) ∨ (∃ D', storeD D (lineB t1 u) = (D', 50) ∧ D'.down = true ∧ Fhalf D'.fs t v t1 v1) := by
          have few : ∀ X, Wl X t v → ((D.fs = [] ∧ X = []) ∨ D.fs = [(nVow, ⟨X, X.length⟩)]) → storeD D (lineB t1 u) = writeD D nVow (lineB t1 u) → (∃ D', storeD D (lineB t1 u) = (D', 0) ∧ D'.down = false ∧ Ffs D'.fs t1 v1) ∨ (storeD D (lineB t1 u) = (D, 30)) ∨ (∃ D', storeD D (lineB t1 u) = (D', 50) ∧ D'.down = true ∧ Fhalf D'.fs t v t1 v1) := by
            intro X hw hf hst
            rw [hst]
            rcases write_vow hd (L := lineB t1 u) hf with h1 | ⟨D', h1, h2, h3⟩ | ⟨D', h1, h2, h3⟩
            · exact .inr (.inl h1)
            · exact .inr (.inr ⟨D', h1, h2, hhalf X hw D' h3⟩)
            · refine .inl ⟨D', h1, h2, .inr ⟨_, h3, ?_⟩⟩
              rw [hv1]; exact hw.add t1 u ht1 hu7
          rcases h with ⟨hf, rfl, rfl⟩ | ⟨X, hf, hw⟩
          · refine few [] Wl.nil (.inl ⟨hf, rfl⟩) ?_
            unfold storeD
            rw [read_up hd nVow, hf]
            rfl
          · have hr : readD D nVow = (X, 0) := by rw [read_up hd nVow, hf, get_vow]
            by_cases hl : X.length < 256
            · refine few X hw (.inr hf) ?_
              unfold storeD
              rw [hr, if_neg (by simp), if_pos hl]
            · have hst : storeD D (lineB t1 u) = if (writeD D nNew (lineB t1 u)).2 = 0 then moveD (writeD D nNew (lineB t1 u)).1 nNew nVow else ((writeD D nNew (lineB t1 u)).1, (writeD D nNew (lineB t1 u)).2) := by
                unfold storeD
                rw [hr, if_neg (by simp), if_neg hl, disc_none hd (by rw [hf]; exact get_new_no _), if_pos rfl]
              rw [hst]
              rcases write_new hd (L := lineB t1 u) hf with h1 | ⟨D', h1, h2, h3⟩ | ⟨D', h1, h2, h3⟩
              · rw [h1]; exact .inr (.inl rfl)
              · rw [h1]; exact .inr (.inr ⟨D', rfl, h2, hhalf2 X hw D' h3⟩)
              · rw [h1, if_pos rfl]
                have hg : getF D'.fs nNew = some ⟨lineB t1 u, (lineB t1 u).length⟩ := by rw [h3]; exact get_new _ _
                unfold moveD
                rw [h2, hg]
                dsimp only
                rw [nVow_ok, if_neg (by simp), if_neg (by simp)]
                cases hsd : (stepD D').down with
                | true => exact .inr (.inr ⟨stepD D', rfl, hsd, hhalf2 X hw _ ⟨_, h3⟩⟩)
                | false =>
                  refine .inl ⟨_, rfl, hsd, .inr ⟨lineB t1 u, ?_, ?_⟩⟩
                  · show putF (delF D'.fs nNew) nVow _ = _
                    rw [h3, del_new, put_one]
                  · have := Wl.nil.add t1 u ht1 hu7
                    rw [List.nil_append] at this
                    rw [hv1]; exact this
        rcases key with ⟨D', h1, h2, h3⟩ | h1 | ⟨D', h1, h2, h3⟩
        · rw [h1, if_pos rfl]
          exact .inl ⟨h2, (show (0 : Int) ≠ 50 by decide), h3, .inl ⟨rfl, rfl, rfl, hm⟩⟩
        · rw [h1, if_neg (show ¬ (30 : Int) = 0 by decide)]
          exact .inl ⟨hd, (show (30 : Int) ≠ 50 by decide), h, .inr ⟨(show (30 : Int) ≠ 0 by decide), rfl, rfl⟩⟩
        · rw [h1, if_neg (show ¬ (50 : Int) = 0 by decide)]
          exact .inr ⟨h2, rfl, rfl, rfl, hm, h3⟩
theorem store_st (D : Dd) (bs : List Nat) : (storeD D bs).1.st ≤ D.st + 4 := by
  unfold storeD
  split
  · dsimp only; omega
  · split
    · have := write_st D nVow bs; omega
    · have h1 := disc_st D
      split
      · have h2 := write_st (discD D).1 nNew bs
        split
        · have h3 := move_st (writeD (discD D).1 nNew bs).1 nNew nVow; omega
        · dsimp only; omega
      · dsimp only; omega
theorem keep_st (D : Dd) (t : Nat) (v : Int) (t1 : Nat) (v1 : Int) : (keepV D t v t1 v1).1.st ≤ D.st + 4 := by
  have := store_st D (lineB t1 (v1 + 1).toNat)
  unfold keepV
  split
  · dsimp only; omega
  · split
    · dsimp only; omega
    · split
      · dsimp only; omega
      · split
        · dsimp only; omega
        · dsimp only; omega
end Go.Proofs.Ythefnakbpalecaa

/- The vow: Open after a crash, and Keep, over the files of a book. No Go text here. -/
import Derived.Test.YthefnakbpalecaaVyQ
namespace Go.Proofs.Ythefnakbpalecaa
open Go.RowKit Go.Maps
theorem step_up {D : Dd} (h : D.armed = false) : (stepD D).down = false := by simp [stepD, h]
theorem stepf (D : Dd) : (stepD D).fs = D.fs := rfl
theorem disc_none {D : Dd} (hd : D.down = false) (hn : getF D.fs nNew = none) : discD D = (D, 0) := by
  unfold discD removeD
  rw [hd, hn]; rfl
theorem sync_at {D : Dd} (hd : D.down = false) (ha : D.armed = false) {f : Fl} (hf : getF D.fs nVow = some f) : syncD D nVow = ((stepD D).files (putF D.fs nVow ⟨f.all, f.all.length⟩), 0) := by
  unfold syncD
  rw [hd, hf]
  dsimp only
  rw [step_up ha]; rfl
theorem load_whole {D : Dd} {t : Nat} {v : Int} {X : List Nat} (hd : D.down = false) (ha : D.armed = false) (hf : D.fs = [(nVow, ⟨X, X.length⟩)]) (hw : Wl X t v) : ∃ D', loadV D = (D', 0, t, v) ∧ Ffs D'.fs t v ∧ D'.down = false ∧ D'.armed = false ∧ D'.st ≤ D.st + 1 := by
  have hg : getF D.fs nVow = some ⟨X, X.length⟩ := by rw [hf]; exact get_vow _ _
  refine ⟨(stepD D).files (putF D.fs nVow ⟨X, X.length⟩), ?_, ?_, step_up ha, ha, Nat.le_refl _⟩
  · unfold loadV
    rw [hg]
    dsimp only
    rw [hw.read]
    dsimp only
    rw [if_neg (by omega), sync_at hd ha hg]
  · exact .inr ⟨X, by show putF D.fs nVow _ = _; rw [hf, put_one], hw⟩
theorem open_torn {D : Dd} {t : Nat} {v : Int} (hd : D.down = false) (ha : D.armed = false) (h : Ftorn D.fs t v) : ∃ D', openV D = (D', 0, t, v) ∧ Ffs D'.fs t v ∧ D'.down = false ∧ D'.armed = false ∧ D'.st ≤ D.st + 3 := by
  rcases h with (⟨hf, rfl, rfl⟩ | ⟨X, hf, hw⟩) | ⟨X, T, hf, hw, hT⟩ | ⟨X, Y, k, hf, hw⟩ | ⟨Y, k, hf, rfl, rfl⟩
  · have hdi := disc_none hd (show getF D.fs nNew = none by rw [hf]; rfl)
    refine ⟨D, ?_, .inl ⟨hf, rfl, rfl⟩, hd, ha, by omega⟩
    unfold openV
    rw [hdi, if_pos rfl]
    unfold loadV
    rw [show getF D.fs nVow = none by rw [hf]; rfl]
  · have hdi := disc_none hd (show getF D.fs nNew = none by rw [hf]; exact get_new_no _)
    obtain ⟨D', h1, h2, h3, h4, h5⟩ := load_whole hd ha hf hw
    refine ⟨D', ?_, h2, h3, h4, by omega⟩
    unfold openV
    rw [hdi, if_pos rfl]
    exact h1
  · have hdi := disc_none hd (show getF D.fs nNew = none by rw [hf]; exact get_new_no _)
    have hg : getF D.fs nVow = some ⟨X ++ T, (X ++ T).length⟩ := by rw [hf]; exact get_vow _ _
    by_cases hT0 : T = []
    · subst hT0
      rw [List.append_nil] at hf
      obtain ⟨D', h1, h2, h3, h4, h5⟩ := load_whole hd ha hf hw
      refine ⟨D', ?_, h2, h3, h4, by omega⟩
      unfold openV
      rw [hdi, if_pos rfl]
      exact h1
    · have hTl : 0 < T.length := List.length_pos_iff.2 hT0
      have hcut : cutD D nVow ((X.length : Nat) : Int) = ((stepD D).files [(nVow, ⟨X, X.length⟩)], 0) := by
        unfold cutD
        rw [hd, hg]
        dsimp only
        rw [if_neg (show ¬ ((X.length : Int) < 0 ∨ (((X ++ T).length : Nat) : Int) < (X.length : Int)) by rw [List.length_append]; omega), step_up ha, hf, put_one]
        have e1 : (X ++ T).take ((X.length : Nat) : Int).toNat = X := by rw [Int.toNat_natCast]; exact List.take_left' rfl
        have e2 : min (X ++ T).length ((X.length : Nat) : Int).toNat = X.length := by rw [Int.toNat_natCast, List.length_append]; omega
        rw [e1, e2]; rfl
      obtain ⟨D2, hD2⟩ : ∃ D2, (stepD D).files [(nVow, ⟨X, X.length⟩)] = D2 := ⟨_, rfl⟩
      have d1 : D2.down = false := by rw [← hD2]; exact step_up ha
      have d2 : D2.armed = false := by rw [← hD2]; exact ha
      have d3 : D2.fs = [(nVow, ⟨X, X.length⟩)] := by rw [← hD2]; rfl
      have d4 : D2.st = D.st + 1 := by rw [← hD2]; rfl
      rw [hD2] at hcut
      have hg2 : getF D2.fs nVow = some ⟨X, X.length⟩ := by rw [d3]; exact get_vow _ _
      refine ⟨(stepD D2).files (putF D2.fs nVow ⟨X, X.length⟩), ?_, .inr ⟨X, by show putF D2.fs nVow _ = _; rw [d3, put_one], hw⟩, step_up d2, d2, by show D2.st + 1 ≤ _; omega⟩
      unfold openV
      rw [hdi, if_pos rfl]
      unfold loadV
      rw [hg]
      dsimp only
      rw [hw.torn hT]
      dsimp only
      rw [if_pos (by rw [List.length_append]; omega), hcut]
      dsimp only
      rw [if_pos rfl, sync_at d1 d2 hg2]
  · have hgn : getF D.fs nNew = some ⟨Y, k⟩ := by rw [hf]; exact get_new _ _
    have hdi : discD D = ((stepD D).files [(nVow, ⟨X, X.length⟩)], 0) := by
      unfold discD removeD
      rw [hd, hgn]
      dsimp only
      rw [step_up ha, hf, del_new]; rfl
    obtain ⟨D2, hD2⟩ : ∃ D2, (stepD D).files [(nVow, ⟨X, X.length⟩)] = D2 := ⟨_, rfl⟩
    have d1 : D2.down = false := by rw [← hD2]; exact step_up ha
    have d2 : D2.armed = false := by rw [← hD2]; exact ha
    have d3 : D2.fs = [(nVow, ⟨X, X.length⟩)] := by rw [← hD2]; rfl
    have d4 : D2.st = D.st + 1 := by rw [← hD2]; rfl
    obtain ⟨D', h1, h2, h3, h4, h5⟩ := load_whole d1 d2 d3 hw
    refine ⟨D', ?_, h2, h3, h4, by omega⟩
    unfold openV
    rw [hdi, hD2, if_pos rfl]
    exact h1
  · have hgn : getF D.fs nNew = some ⟨Y, k⟩ := by rw [hf]; simp [getF]
    have hdl : delF [(nNew, (⟨Y, k⟩ : Fl))] nNew = [] := by simp [delF]
    have hdi : discD D = ((stepD D).files [], 0) := by
      unfold discD removeD
      rw [hd, hgn]
      dsimp only
      rw [step_up ha, hf, hdl]; rfl
    refine ⟨(stepD D).files [], ?_, .inl ⟨rfl, rfl, rfl⟩, step_up ha, ha, by show D.st + 1 ≤ _; omega⟩
    unfold openV
    rw [hdi, if_pos rfl]
    rfl
/-- A crash, Boot and Open, where the files are such as lie between calls. -/
theorem reopen_fs {D : Dd} {t : Nat} {v : Int} (h : Ffs D.fs t v) (ts : List (Nat × Nat)) : ∃ D', openV (bootD (crashD D ts)) = (D', 0, t, v) ∧ Ffs D'.fs t v ∧ D'.down = false ∧ D'.armed = false ∧ D'.st ≤ D.st + 3 :=
  open_torn (D := bootD (crashD D ts)) rfl rfl (.inl (h.crash ts))
theorem reopen_half {D : Dd} {t : Nat} {v : Int} {t1 : Nat} {v1 : Int} (h : Fhalf D.fs t v t1 v1) (ts : List (Nat × Nat)) : ∃ D' t' v', openV (bootD (crashD D ts)) = (D', 0, t', v') ∧ Ffs D'.fs t' v' ∧ D'.down = false ∧ D'.armed = false ∧ D'.st ≤ D.st + 3 ∧ ((t' = t ∧ v' = v) ∨ (t' = t1 ∧ v' = v1)) := by
  rcases h.crash ts with h | h
  · obtain ⟨D', h1, h2, h3, h4, h5⟩ := open_torn (D := bootD (crashD D ts)) rfl rfl h
    exact ⟨D', t, v, h1, h2, h3, h4, h5, .inl ⟨rfl, rfl⟩⟩
  · obtain ⟨D', h1, h2, h3, h4, h5⟩ := open_torn (D := bootD (crashD D ts)) rfl rfl h
    exact ⟨D', t1, v1, h1, h2, h3, h4, h5, .inr ⟨rfl, rfl⟩⟩
end Go.Proofs.Ythefnakbpalecaa

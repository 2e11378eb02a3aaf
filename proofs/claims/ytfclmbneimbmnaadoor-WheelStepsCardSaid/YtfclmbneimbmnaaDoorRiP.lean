/- A ring's map and its rows: what a put and a drop make of them. No model in this text but two words of its own. -/
import Derived.Test.YtfclmbneimbmnaaDoorRgD
namespace Go.Proofs.YtfclmbneimbmnaaDoor
variable {α : Type}

/-- l without its i-th, whose place the last one takes. -/
def swr (l : List α) (i : Nat) (z : α) : List α := (l.set i (l.getD (l.length - 1) z)).take (l.length - 1)
theorem swr_len (l : List α) (i : Nat) (z : α) : (swr l i z).length = l.length - 1 := by simp [swr]
theorem swr_at (l : List α) (i : Nat) (z : α) (hi : i < l.length) (j : Nat) : (swr l i z)[j]? = if j < l.length - 1 then (if j = i then l[l.length - 1]? else l[j]?) else none := by
  unfold swr
  rw [List.getElem?_take]
  by_cases h : j < l.length - 1
  · rw [if_pos h, if_pos h, List.getElem?_set]
    by_cases e : j = i
    · subst e
      rw [if_pos rfl, if_pos rfl, if_pos hi, List.getD_eq_getElem?_getD, List.getElem?_eq_getElem (by omega)]
      rfl
    · rw [if_neg (Ne.symm e), if_neg e]
  · rw [if_neg h, if_neg h]
theorem swr_perm (l : List α) (i : Nat) (z : α) (hi : i < l.length) : (l[i] :: swr l i z).Perm l := by
  obtain ⟨l', x, rfl⟩ : ∃ l' x, l = l' ++ [x] := by
    have : l ≠ [] := by rintro rfl; simp at hi
    exact ⟨l.dropLast, l.getLast this, (List.dropLast_concat_getLast this).symm⟩
  have e1 : (l' ++ [x]).getD ((l' ++ [x]).length - 1) z = x := by simp
  unfold swr
  rw [e1]
  by_cases e : i = l'.length
  · subst e
    have : (l' ++ [x])[l'.length] = x := by simp
    rw [this]
    have e2 : ((l' ++ [x]).set l'.length x).take ((l' ++ [x]).length - 1) = l' := by simp
    rw [e2]
    exact (List.perm_append_singleton x l').symm
  · have hi' : i < l'.length := by simp at hi; omega
    have e3 : (l' ++ [x])[i] = l'[i] := by rw [List.getElem_append_left hi']
    rw [e3]
    have e2 : ((l' ++ [x]).set i x).take ((l' ++ [x]).length - 1) = l'.set i x := by
      rw [List.set_append_left _ _ hi']
      simp
    rw [e2]
    have e4 : l'.set i x = l'.take i ++ x :: l'.drop (i + 1) := by rw [List.set_eq_take_append_cons_drop, if_pos hi']
    have e5 : l' = l'.take i ++ l'[i] :: l'.drop (i + 1) := by rw [List.getElem_cons_drop, List.take_append_drop]
    rw [e4]
    conv => rhs; rw [e5]
    generalize l'[i] = y
    generalize l'.take i = A
    generalize l'.drop (i + 1) = B
    refine (List.Perm.cons y (List.perm_middle)).trans ?_
    refine (List.Perm.swap x y _).trans ?_
    have : (y :: (A ++ B)).Perm (A ++ y :: B) := List.perm_middle.symm
    exact (List.Perm.cons x this).trans (List.perm_append_singleton x _).symm

/-- The map M tells of each ID where it waits in the rows S. -/
def Cons (kf : α → Int) (S : Nat → List α) (M : Int → Option (Nat × Nat)) : Prop := ∀ id s i, M id = some (s, i) ↔ s < 64 ∧ ((S s)[i]?).map kf = some id

theorem Cons.none {kf : α → Int} : Cons kf (fun _ => []) (fun _ => none) := fun id s i => by simp
theorem Cons.put {kf : α → Int} {S : Nat → List α} {M : Int → Option (Nat × Nat)} (h : Cons kf S M) {t : α} {s : Nat} (hs : s < 64) (hM : M (kf t) = Option.none) :
    Cons kf (upd S s (S s ++ [t])) (updM M (kf t) (some (s, (S s).length))) := by
  intro x s' i
  have hx := h x s' i
  have ht := h (kf t) s' i
  rw [hM] at ht
  unfold upd updM
  by_cases e : x = kf t
  · subst e
    rw [if_pos rfl]
    by_cases e2 : s' = s
    · subst e2
      rw [if_pos rfl]
      rw [List.getElem?_append]
      by_cases hi : i < (S s').length
      · rw [if_pos hi]
        constructor
        · intro hh; injection hh with hh; injection hh with _ hh; omega
        · intro hh; have := ht.2 hh; simp at this
      · rw [if_neg hi]
        constructor
        · intro hh; injection hh with hh; injection hh with _ hh; subst hh; simp [hs]
        · rintro ⟨_, hh⟩
          have : i - (S s').length = 0 := by
            cases e3 : i - (S s').length with
            | zero => rfl
            | succ k => rw [e3] at hh; simp at hh
          rw [show i = (S s').length by omega]
    · rw [if_neg e2]
      constructor
      · intro hh; injection hh with hh; injection hh with hh _; omega
      · intro hh; have := ht.2 hh; simp at this
  · rw [if_neg e]
    by_cases e2 : s' = s
    · subst e2
      rw [if_pos rfl, hx, List.getElem?_append]
      by_cases hi : i < (S s').length
      · rw [if_pos hi]
      · rw [if_neg hi, List.getElem?_eq_none (by omega)]
        constructor
        · rintro ⟨_, hh⟩; simp at hh
        · rintro ⟨_, hh⟩
          cases e3 : i - (S s').length with
          | zero => rw [e3] at hh; simp at hh; exact absurd hh.symm e
          | succ k => rw [e3] at hh; simp at hh
    · rw [if_neg e2]; exact hx
theorem Cons.drop {kf : α → Int} {S : Nat → List α} {M : Int → Option (Nat × Nat)} (h : Cons kf S M) {s i : Nat} (z : α) {t y : α} (hs : s < 64) (ht : (S s)[i]? = some t) (hy : (S s)[(S s).length - 1]? = some y) :
    Cons kf (upd S s (swr (S s) i z)) (updM (updM M (kf y) (some (s, i))) (kf t) Option.none) := by
  have hi : i < (S s).length := (List.getElem?_eq_some_iff.1 ht).1
  have mt : M (kf t) = some (s, i) := (h _ _ _).2 ⟨hs, by rw [ht]; rfl⟩
  have my : M (kf y) = some (s, (S s).length - 1) := (h _ _ _).2 ⟨hs, by rw [hy]; rfl⟩
  intro x s' j
  have hx := h x s' j
  unfold upd updM
  by_cases e2 : s' = s
  · subst e2
    rw [if_pos rfl, swr_at _ _ _ hi]
    by_cases e : x = kf t
    · subst e
      rw [if_pos rfl]
      constructor
      · intro hh; cases hh
      · rintro ⟨_, hh⟩
        rw [mt] at hx
        by_cases hj : j < (S s').length - 1
        · rw [if_pos hj] at hh
          by_cases ej : j = i
          · rw [if_pos ej, hy] at hh
            simp only [Option.map_some, Option.some.injEq] at hh
            rw [hh, mt] at my
            injection my with my; injection my with _ my; omega
          · rw [if_neg ej] at hh
            have := hx.2 ⟨hs, hh⟩
            injection this with this; injection this with _ this; omega
        · rw [if_neg hj] at hh; simp at hh
    · rw [if_neg e]
      by_cases e3 : x = kf y
      · subst e3
        rw [if_pos rfl]
        have hin : i ≠ (S s').length - 1 := by
          rintro hin; rw [← hin, ht] at hy; injection hy with hy; exact e (by rw [hy])
        constructor
        · intro hh; injection hh with hh; injection hh with _ hh; subst hh
          rw [if_pos (by omega), if_pos rfl, hy]; exact ⟨hs, rfl⟩
        · rintro ⟨_, hh⟩
          by_cases hj : j < (S s').length - 1
          · rw [if_pos hj] at hh
            by_cases ej : j = i
            · rw [ej]
            · rw [if_neg ej] at hh
              have := hx.2 ⟨hs, hh⟩
              rw [my] at this
              injection this with this; injection this with _ this; omega
          · rw [if_neg hj] at hh; simp at hh
      · rw [if_neg e3, hx]
        constructor
        · rintro ⟨_, hh⟩
          have hjl : j < (S s').length := by
            cases e4 : (S s')[j]? with
            | none => rw [e4] at hh; simp at hh
            | some v => exact (List.getElem?_eq_some_iff.1 e4).1
          have j1 : j ≠ i := by rintro rfl; rw [ht] at hh; simp at hh; exact e hh.symm
          have j2 : j ≠ (S s').length - 1 := by rintro j2; rw [j2, hy] at hh; simp at hh; exact e3 hh.symm
          rw [if_pos (by omega), if_neg j1]; exact ⟨hs, hh⟩
        · rintro ⟨_, hh⟩
          by_cases hj : j < (S s').length - 1
          · rw [if_pos hj] at hh
            by_cases ej : j = i
            · rw [if_pos ej, hy] at hh; simp at hh; exact absurd hh.symm e3
            · rw [if_neg ej] at hh; exact ⟨hs, hh⟩
          · rw [if_neg hj] at hh; simp at hh
  · rw [if_neg e2]
    by_cases e : x = kf t
    · subst e
      rw [if_pos rfl]
      constructor
      · intro hh; cases hh
      · intro hh
        have := hx.2 hh
        rw [mt] at this
        injection this with this; injection this with this _; omega
    · rw [if_neg e]
      by_cases e3 : x = kf y
      · subst e3
        rw [if_pos rfl]
        constructor
        · intro hh; injection hh with hh; injection hh with hh _; omega
        · intro hh
          have := hx.2 hh
          rw [my] at this
          injection this with this; injection this with this _; omega
      · rw [if_neg e3]; exact hx
end Go.Proofs.YtfclmbneimbmnaaDoor

/- The frames with which bytes begin, one after the other. No Go text here. -/
import Derived.Test.YteehglaadofidaaFrA
namespace Go.Proofs.Yteehglaadofidaa

theorem take_ok_n {bs : List Nat} (h : (takeOf bs).e = 0) : (takeOf bs).n = (takeOf bs).body.length + 8 ∧ (takeOf bs).n ≤ bs.length ∧ (takeOf bs).body.length ≤ 65536 := by
  unfold takeOf at *
  by_cases h1 : badHead bs
  · rw [if_pos h1] at h; cases h
  · rw [if_neg h1] at h ⊢
    by_cases h2 : bs.length < szAt bs + 8
    · rw [if_pos h2] at h; cases h
    · rw [if_neg h2] at h ⊢
      have hz : szAt bs = szOf bs := by unfold szAt; rw [if_pos (by omega)]
      have hm : szOf bs ≤ 65536 := by unfold badHead at h1; omega
      by_cases h3 : sumFits (bs.take (szOf bs + 8)) (szOf bs + 5)
      · rw [if_pos h3]
        refine ⟨?_, by show szOf bs + 8 ≤ bs.length; omega, ?_⟩
        · show szOf bs + 8 = _
          rw [List.length_take, List.length_drop]; omega
        · show ((bs.drop 5).take (szOf bs)).length ≤ _
          rw [List.length_take]; omega
      · rw [if_neg h3] at h; cases h
theorem take_ok_n0 {bs : List Nat} (h : (takeOf bs).e = 0) : 8 ≤ (takeOf bs).n := by have := (take_ok_n h).1; omega
def rowsF : Nat → List Nat → List (Nat × List Nat)
  | 0, _ => []
  | f + 1, bs => if (takeOf bs).e = 0 then ((takeOf bs).kind, (takeOf bs).body) :: rowsF f (bs.drop (takeOf bs).n) else []
def rowsOf (bs : List Nat) : List (Nat × List Nat) := rowsF bs.length bs
theorem take_nil : (takeOf []).e = 23 := by decide
theorem rowsF_nil : ∀ f, rowsF f [] = []
  | 0 => rfl
  | f + 1 => by rw [rowsF, take_nil]; rfl
theorem rowsF_same : ∀ (f g : Nat) (bs : List Nat), bs.length ≤ f → bs.length ≤ g → rowsF f bs = rowsF g bs := by
  intro f
  induction f with
  | zero =>
    intro g bs h _
    have : bs = [] := List.length_eq_zero_iff.1 (by omega)
    subst this
    rw [rowsF_nil, rowsF_nil]
  | succ f ih =>
    intro g bs hf hg
    cases g with
    | zero =>
      have : bs = [] := List.length_eq_zero_iff.1 (by omega)
      subst this
      rw [rowsF_nil, rowsF_nil]
    | succ g =>
      rw [rowsF, rowsF]
      by_cases he : (takeOf bs).e = 0
      · rw [if_pos he, if_pos he]
        have h8 := take_ok_n0 he
        rw [ih g _ (by rw [List.length_drop]; omega) (by rw [List.length_drop]; omega)]
      · rw [if_neg he, if_neg he]
theorem rowsF_eq (f : Nat) (bs : List Nat) (h : bs.length ≤ f) : rowsF f bs = rowsOf bs := rowsF_same f _ bs h (Nat.le_refl _)
theorem rows_no {bs : List Nat} (h : (takeOf bs).e ≠ 0) : rowsOf bs = [] := by
  unfold rowsOf
  cases bs.length with
  | zero => rfl
  | succ m => rw [rowsF, if_neg h]
theorem rows_yes {bs : List Nat} (h : (takeOf bs).e = 0) : rowsOf bs = ((takeOf bs).kind, (takeOf bs).body) :: rowsOf (bs.drop (takeOf bs).n) := by
  have h8 := take_ok_n0 h
  have hl := (take_ok_n h).2.1
  have e : rowsOf bs = rowsF bs.length bs := rfl
  rw [e]
  obtain ⟨m, hm⟩ : ∃ m, bs.length = m + 1 := ⟨bs.length - 1, by omega⟩
  rw [hm, rowsF, if_pos h, rowsF_eq m _ (by rw [List.length_drop]; omega)]
/-- How many bytes rows take. -/
def sizeR (rows : List (Nat × List Nat)) : Nat := (rows.map fun r => r.2.length + 8).sum
theorem sizeR_cons (r : Nat × List Nat) (rows : List (Nat × List Nat)) : sizeR (r :: rows) = r.2.length + 8 + sizeR rows := by simp [sizeR]
theorem sizeR_take (rows : List (Nat × List Nat)) (k : Nat) (r : Nat × List Nat) (h : rows[k]? = some r) : sizeR (rows.take (k + 1)) = sizeR (rows.take k) + (r.2.length + 8) := by
  unfold sizeR
  rw [List.take_add_one, h]
  simp
def endAt (bs : List Nat) : Nat := sizeR (rowsOf bs)
/-- Where the frames end, and what there is behind them. -/
theorem end_facts : ∀ (m : Nat) (bs : List Nat), bs.length ≤ m → endAt bs ≤ bs.length ∧ (takeOf (bs.drop (endAt bs))).e ≠ 0 := by
  intro m
  induction m with
  | zero =>
    intro bs h
    have : bs = [] := List.length_eq_zero_iff.1 (by omega)
    subst this
    have : endAt [] = 0 := rfl
    rw [this]
    exact ⟨Nat.le_refl _, by rw [List.drop_nil, take_nil]; omega⟩
  | succ m ih =>
    intro bs h
    unfold endAt
    by_cases he : (takeOf bs).e = 0
    · rw [rows_yes he, sizeR_cons]
      have h8 := take_ok_n he
      have := ih (bs.drop (takeOf bs).n) (by rw [List.length_drop]; omega)
      unfold endAt at this
      rw [List.length_drop, List.drop_drop] at this
      dsimp only
      rw [← h8.1]
      exact ⟨by omega, this.2⟩
    · rw [rows_no he]
      have : sizeR [] = 0 := rfl
      rw [this, List.drop_zero]
      exact ⟨by omega, he⟩
theorem end_le (bs : List Nat) : endAt bs ≤ bs.length := (end_facts bs.length bs (Nat.le_refl _)).1
theorem end_e (bs : List Nat) : (takeOf (bs.drop (endAt bs))).e ≠ 0 := (end_facts bs.length bs (Nat.le_refl _)).2
/-- Why they end. -/
def whyEnd (bs : List Nat) : Nat := if endAt bs = bs.length then 0 else (takeOf (bs.drop (endAt bs))).e
theorem sizeR_take_le (bs : List Nat) (k : Nat) : sizeR ((rowsOf bs).take k) ≤ bs.length := by
  have h1 : sizeR ((rowsOf bs).take k) ≤ endAt bs := by
    unfold endAt
    have : sizeR (rowsOf bs) = sizeR ((rowsOf bs).take k) + sizeR ((rowsOf bs).drop k) := by
      unfold sizeR
      rw [← List.sum_append, ← List.map_append, List.take_append_drop]
    omega
  exact Nat.le_trans h1 (end_le bs)
end Go.Proofs.Yteehglaadofidaa

/- The disk: tables of files by their names. -/
import Derived.Test.YthefnakbpalecaaBytes
import Derived.Sort.KeysCollected
namespace Go.Proofs.Ythefnakbpalecaa
/-- A file: all its bytes, and how many of them are kept. -/
structure Fl where
  (all : List Nat)
  (kept : Nat)
abbrev Nm := List UInt8
abbrev Ft := List (Nm × Fl)
def getF : Ft → Nm → Option Fl
  | [], _ => none
  | (m, g) :: r, n => if m = n then some g else getF r n
def putF : Ft → Nm → Fl → Ft
  | [], n, f => [(n, f)]
  | (m, g) :: r, n, f => if n = m then (n, f) :: r else if n < m then (n, f) :: (m, g) :: r else (m, g) :: putF r n f
def delF : Ft → Nm → Ft
  | [], _ => []
  | (m, g) :: r, n => if m = n then delF r n else (m, g) :: delF r n
def SrtF (L : Ft) : Prop := L.Pairwise (fun a b => a.1 < b.1)
def sumF : Ft → Nat
  | [] => 0
  | (_, f) :: r => f.all.length + sumF r
theorem nm_trans {a b c : Nm} (h : a < b) (k : b < c) : a < c := List.lt_trans h k
theorem nm_irrefl (a : Nm) : ¬ a < a := List.lt_irrefl a
theorem nm_cases {a b : Nm} (h1 : ¬ a = b) (h2 : ¬ a < b) : b < a := by
  rcases List.le_total a b with h | h
  · apply Classical.byContradiction
    intro h3
    exact h1 (List.le_antisymm h (List.not_lt.1 h2))
  · apply Classical.byContradiction
    intro h3
    exact h1 (List.le_antisymm (List.not_lt.1 h3) (List.not_lt.1 h2))
theorem getF_none : ∀ {L : Ft} {n : Nm}, getF L n = none → ∀ p ∈ L, p.1 ≠ n
  | [], _, _, p, hp => by simp at hp
  | (m, g) :: r, n, h, p, hp => by
    unfold getF at h
    by_cases e : m = n
    · rw [if_pos e] at h; cases h
    · rw [if_neg e] at h
      rcases List.mem_cons.1 hp with rfl | hp
      · exact e
      · exact getF_none h p hp
theorem getF_none_of : ∀ {L : Ft} {n : Nm}, (∀ p ∈ L, p.1 ≠ n) → getF L n = none
  | [], _, _ => rfl
  | (m, g) :: r, n, h => by
    unfold getF
    rw [if_neg (h (m, g) List.mem_cons_self)]
    exact getF_none_of (fun p hp => h p (List.mem_cons_of_mem _ hp))
theorem getF_mem : ∀ {L : Ft} {n : Nm} {f : Fl}, getF L n = some f → (n, f) ∈ L
  | [], _, _, h => by simp [getF] at h
  | (m, g) :: r, n, f, h => by
    unfold getF at h
    by_cases e : m = n
    · rw [if_pos e] at h
      injection h with h
      subst e h
      exact List.mem_cons_self
    · rw [if_neg e] at h
      exact List.mem_cons_of_mem _ (getF_mem h)
theorem getF_of_mem : ∀ {L : Ft} {n : Nm} {f : Fl}, SrtF L → (n, f) ∈ L → getF L n = some f
  | [], _, _, _, h => by simp at h
  | (m, g) :: r, n, f, hs, h => by
    have hs' := List.pairwise_cons.1 hs
    unfold getF
    rcases List.mem_cons.1 h with e | h
    · injection e with e1 e2
      subst e1 e2
      rw [if_pos rfl]
    · rw [if_neg (fun e => by
        have := hs'.1 _ h
        subst e
        exact nm_irrefl _ this)]
      exact getF_of_mem hs'.2 h
theorem getF_put_same : ∀ (L : Ft) (n : Nm) (f : Fl), getF (putF L n f) n = some f
  | [], n, f => by simp [putF, getF]
  | (m, g) :: r, n, f => by
    unfold putF
    by_cases e : n = m
    · rw [if_pos e]; simp [getF]
    · rw [if_neg e]
      by_cases h : n < m
      · rw [if_pos h]; simp [getF]
      · rw [if_neg h]
        unfold getF
        rw [if_neg (fun e2 => e e2.symm)]
        exact getF_put_same r n f
theorem getF_put_other : ∀ (L : Ft) (n : Nm) (f : Fl) {k : Nm}, k ≠ n → getF (putF L n f) k = getF L k
  | [], n, f, k, hk => by simp [putF, getF, Ne.symm hk]
  | (m, g) :: r, n, f, k, hk => by
    unfold putF
    by_cases e : n = m
    · rw [if_pos e]
      subst e
      simp [getF, Ne.symm hk]
    · rw [if_neg e]
      by_cases h : n < m
      · rw [if_pos h]
        conv => lhs; unfold getF
        rw [if_neg (Ne.symm hk)]
      · rw [if_neg h]
        unfold getF
        rw [getF_put_other r n f hk]
theorem getF_del_same : ∀ (L : Ft) (n : Nm), getF (delF L n) n = none
  | [], _ => rfl
  | (m, g) :: r, n => by
    unfold delF
    by_cases e : m = n
    · rw [if_pos e]; exact getF_del_same r n
    · rw [if_neg e]
      unfold getF
      rw [if_neg e]
      exact getF_del_same r n
theorem getF_del_other : ∀ (L : Ft) (n : Nm) {k : Nm}, k ≠ n → getF (delF L n) k = getF L k
  | [], _, _, _ => rfl
  | (m, g) :: r, n, k, hk => by
    unfold delF
    by_cases e : m = n
    · rw [if_pos e, getF_del_other r n hk]
      conv => rhs; unfold getF
      rw [if_neg (fun e2 => hk (by rw [← e2, e]))]
    · rw [if_neg e]
      unfold getF
      rw [getF_del_other r n hk]
theorem mem_putF : ∀ {L : Ft} {n : Nm} {f : Fl} {p : Nm × Fl}, p ∈ putF L n f → p = (n, f) ∨ p ∈ L
  | [], n, f, p, h => by simp [putF] at h; exact .inl h
  | (m, g) :: r, n, f, p, h => by
    unfold putF at h
    by_cases e : n = m
    · rw [if_pos e] at h
      rcases List.mem_cons.1 h with h | h
      · exact .inl h
      · exact .inr (List.mem_cons_of_mem _ h)
    · rw [if_neg e] at h
      by_cases hl : n < m
      · rw [if_pos hl] at h
        rcases List.mem_cons.1 h with h | h
        · exact .inl h
        · exact .inr h
      · rw [if_neg hl] at h
        rcases List.mem_cons.1 h with h | h
        · exact .inr (by rw [h]; exact List.mem_cons_self)
        · rcases mem_putF h with h | h
          · exact .inl h
          · exact .inr (List.mem_cons_of_mem _ h)
theorem mem_delF : ∀ {L : Ft} {n : Nm} {p : Nm × Fl}, p ∈ delF L n → p ∈ L
  | [], _, _, h => h
  | (m, g) :: r, n, p, h => by
    unfold delF at h
    by_cases e : m = n
    · rw [if_pos e] at h
      exact List.mem_cons_of_mem _ (mem_delF h)
    · rw [if_neg e] at h
      rcases List.mem_cons.1 h with h | h
      · rw [h]; exact List.mem_cons_self
      · exact List.mem_cons_of_mem _ (mem_delF h)
theorem SrtF.put : ∀ {L : Ft} (n : Nm) (f : Fl), SrtF L → SrtF (putF L n f)
  | [], n, f, _ => List.pairwise_singleton _ _
  | (m, g) :: r, n, f, h => by
    have h' := List.pairwise_cons.1 h
    unfold putF
    by_cases e : n = m
    · rw [if_pos e]
      subst e
      exact List.pairwise_cons.2 ⟨h'.1, h'.2⟩
    · rw [if_neg e]
      by_cases hl : n < m
      · rw [if_pos hl]
        refine List.pairwise_cons.2 ⟨fun p hp => ?_, h⟩
        rcases List.mem_cons.1 hp with rfl | hp
        · exact hl
        · exact nm_trans hl (h'.1 p hp)
      · rw [if_neg hl]
        refine List.pairwise_cons.2 ⟨fun p hp => ?_, SrtF.put n f h'.2⟩
        rcases mem_putF hp with rfl | hp
        · exact nm_cases e hl
        · exact h'.1 p hp
theorem SrtF.del : ∀ {L : Ft} (n : Nm), SrtF L → SrtF (delF L n)
  | [], _, _ => List.Pairwise.nil
  | (m, g) :: r, n, h => by
    have h' := List.pairwise_cons.1 h
    unfold delF
    by_cases e : m = n
    · rw [if_pos e]; exact SrtF.del n h'.2
    · rw [if_neg e]
      exact List.pairwise_cons.2 ⟨fun p hp => h'.1 p (mem_delF hp), SrtF.del n h'.2⟩
theorem len_put_none : ∀ {L : Ft} {n : Nm} (f : Fl), getF L n = none → (putF L n f).length = L.length + 1
  | [], _, _, _ => rfl
  | (m, g) :: r, n, f, h => by
    unfold getF at h
    by_cases e : m = n
    · rw [if_pos e] at h; cases h
    · rw [if_neg e] at h
      unfold putF
      rw [if_neg (fun e2 => e e2.symm)]
      by_cases hl : n < m
      · rw [if_pos hl]; rfl
      · rw [if_neg hl, List.length_cons, len_put_none f h]; rfl
theorem len_put_some : ∀ {L : Ft} {n : Nm} (f : Fl) {g : Fl}, SrtF L → getF L n = some g → (putF L n f).length = L.length
  | [], _, _, _, _, h => by simp [getF] at h
  | (m, g) :: r, n, f, g', hs, h => by
    have hs' := List.pairwise_cons.1 hs
    unfold putF
    by_cases e : n = m
    · rw [if_pos e]; rfl
    · unfold getF at h
      rw [if_neg (fun e2 => e e2.symm)] at h
      have hlt := hs'.1 _ (getF_mem h)
      rw [if_neg e, if_neg (fun hl => nm_irrefl _ (nm_trans hl hlt)), List.length_cons, len_put_some f hs'.2 h]; rfl
theorem delF_none : ∀ {L : Ft} {n : Nm}, getF L n = none → delF L n = L
  | [], _, _ => rfl
  | (m, g) :: r, n, h => by
    unfold getF at h
    by_cases e : m = n
    · rw [if_pos e] at h; cases h
    · rw [if_neg e] at h
      unfold delF
      rw [if_neg e, delF_none h]
theorem len_del_some : ∀ {L : Ft} {n : Nm} {g : Fl}, SrtF L → getF L n = some g → (delF L n).length + 1 = L.length
  | [], _, _, _, h => by simp [getF] at h
  | (m, g) :: r, n, g', hs, h => by
    have hs' := List.pairwise_cons.1 hs
    unfold getF at h
    unfold delF
    by_cases e : m = n
    · rw [if_pos e, delF_none (getF_none_of (fun p hp e2 => by
        have := hs'.1 p hp
        rw [e2, e] at this
        exact nm_irrefl _ this))]
      rfl
    · rw [if_neg e] at h ⊢
      rw [List.length_cons, len_del_some hs'.2 h]; rfl
theorem sum_put_none : ∀ {L : Ft} {n : Nm} (f : Fl), getF L n = none → sumF (putF L n f) = sumF L + f.all.length
  | [], _, _, _ => by simp [putF, sumF]
  | (m, g) :: r, n, f, h => by
    unfold getF at h
    by_cases e : m = n
    · rw [if_pos e] at h; cases h
    · rw [if_neg e] at h
      unfold putF
      rw [if_neg (fun e2 => e e2.symm)]
      by_cases hl : n < m
      · rw [if_pos hl]; simp only [sumF]; omega
      · rw [if_neg hl]
        simp only [sumF]
        rw [sum_put_none f h]
        omega
theorem sum_put_some : ∀ {L : Ft} {n : Nm} (f : Fl) {g : Fl}, SrtF L → getF L n = some g → sumF (putF L n f) + g.all.length = sumF L + f.all.length
  | [], _, _, _, _, h => by simp [getF] at h
  | (m, g) :: r, n, f, g', hs, h => by
    have hs' := List.pairwise_cons.1 hs
    unfold putF
    by_cases e : n = m
    · rw [if_pos e]
      unfold getF at h
      rw [if_pos e.symm] at h
      injection h with h
      subst h
      simp only [sumF]
      omega
    · unfold getF at h
      rw [if_neg (fun e2 => e e2.symm)] at h
      have hlt := hs'.1 _ (getF_mem h)
      rw [if_neg e, if_neg (fun hl => nm_irrefl _ (nm_trans hl hlt))]
      have := sum_put_some f hs'.2 h
      simp only [sumF]
      omega
theorem sum_del : ∀ {L : Ft} {n : Nm} {g : Fl}, SrtF L → getF L n = some g → sumF (delF L n) + g.all.length = sumF L
  | [], _, _, _, h => by simp [getF] at h
  | (m, g) :: r, n, g', hs, h => by
    have hs' := List.pairwise_cons.1 hs
    unfold getF at h
    unfold delF
    by_cases e : m = n
    · rw [if_pos e] at h ⊢
      injection h with h
      subst h
      rw [delF_none (getF_none_of (fun p hp e2 => by
        have := hs'.1 p hp
        rw [e2, e] at this
        exact nm_irrefl _ this))]
      simp only [sumF]
      omega
    · rw [if_neg e] at h ⊢
      have := sum_del hs'.2 h
      simp only [sumF]
      omega
theorem sum_le : ∀ {L : Ft} {p : Nm × Fl}, p ∈ L → p.2.all.length ≤ sumF L
  | [], _, h => by simp at h
  | (m, g) :: r, p, h => by
    rcases List.mem_cons.1 h with rfl | h
    · simp only [sumF]; omega
    · have := sum_le h
      simp only [sumF]
      omega
/-- What of a table is still to come. -/
def leftF (q : Nm → Bool) : Ft → Nat
  | [] => 0
  | (n, f) :: r => (if q n then f.all.length else 0) + leftF q r
theorem leftF_all {q : Nm → Bool} : ∀ {L : Ft}, (∀ p ∈ L, q p.1 = true) → leftF q L = sumF L
  | [], _ => rfl
  | (n, f) :: r, h => by
    simp only [leftF, sumF]
    rw [if_pos (h (n, f) List.mem_cons_self), leftF_all (fun p hp => h p (List.mem_cons_of_mem _ hp))]
theorem leftF_none {q : Nm → Bool} : ∀ {L : Ft}, (∀ p ∈ L, q p.1 = false) → leftF q L = 0
  | [], _ => rfl
  | (n, f) :: r, h => by
    simp only [leftF]
    rw [h (n, f) List.mem_cons_self, leftF_none (fun p hp => h p (List.mem_cons_of_mem _ hp))]
    rfl
theorem leftF_congr {q q' : Nm → Bool} : ∀ {L : Ft}, (∀ p ∈ L, q p.1 = q' p.1) → leftF q L = leftF q' L
  | [], _ => rfl
  | (n, f) :: r, h => by
    simp only [leftF]
    rw [h (n, f) List.mem_cons_self, leftF_congr (fun p hp => h p (List.mem_cons_of_mem _ hp))]
theorem leftF_step {q q' : Nm → Bool} {n : Nm} : ∀ {L : Ft} {f : Fl}, SrtF L → getF L n = some f → q n = true → q' n = false → (∀ k, k ≠ n → q' k = q k) → leftF q L = f.all.length + leftF q' L
  | [], _, _, h, _, _, _ => by simp [getF] at h
  | (m, g) :: r, f, hs, h, h1, h2, h3 => by
    have hs' := List.pairwise_cons.1 hs
    unfold getF at h
    simp only [leftF]
    by_cases e : m = n
    · rw [if_pos e] at h
      injection h with h
      subst h e
      rw [if_pos h1, h2, leftF_congr (q := q) (q' := q') (fun p hp => (h3 p.1 (fun e2 => by
        have := hs'.1 p hp
        rw [e2] at this
        exact nm_irrefl _ this)).symm)]
      simp
    · rw [if_neg e] at h
      rw [h3 m e, leftF_step hs'.2 h h1 h2 h3]
      omega
theorem leftF_le {q : Nm → Bool} : ∀ (L : Ft), leftF q L ≤ sumF L
  | [] => Nat.le_refl _
  | (n, f) :: r => by
    have := leftF_le (q := q) r
    simp only [leftF, sumF]
    split <;> omega
end Go.Proofs.Ythefnakbpalecaa

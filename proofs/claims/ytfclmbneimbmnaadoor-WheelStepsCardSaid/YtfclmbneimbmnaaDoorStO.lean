/- The stable sort's result as a list: what insertion from the left gives. No model in this text. -/
import Derived.Test.YtfclmbneimbmnaaDoorStN
namespace Go.Proofs.YtfclmbneimbmnaaDoor
open Go.Sort
variable {α : Type}

/-- Where x goes, of the first k of l: behind the last of which it is not less. -/
def rp (lt : α → α → Bool) (x : α) (l : List α) (z : α) : Nat → Nat
  | 0 => 0
  | k + 1 => if lt x (l.getD k z) then rp lt x l z k else k + 1
def insR (lt : α → α → Bool) (z x : α) (l : List α) : List α := l.take (rp lt x l z l.length) ++ x :: l.drop (rp lt x l z l.length)
/-- Insertion from the left. -/
def srt (lt : α → α → Bool) (z : α) (l : List α) : List α := l.foldl (fun out x => insR lt z x out) []

theorem rp_le (lt : α → α → Bool) (x : α) (l : List α) (z : α) : ∀ k, rp lt x l z k ≤ k
  | 0 => Nat.le_refl _
  | k + 1 => by
    unfold rp
    split
    · exact Nat.le_succ_of_le (rp_le lt x l z k)
    · exact Nat.le_refl _
theorem rp_above (lt : α → α → Bool) (x : α) (l : List α) (z : α) : ∀ k j, rp lt x l z k ≤ j → j < k → lt x (l.getD j z) = true
  | 0, j, _, h => by omega
  | k + 1, j, h, hj => by
    unfold rp at h
    by_cases c : lt x (l.getD k z) = true
    · rw [if_pos c] at h
      by_cases e : j = k
      · rw [e]; exact c
      · exact rp_above lt x l z k j h (by omega)
    · rw [if_neg c] at h; omega
theorem rp_at (lt : α → α → Bool) (x : α) (l : List α) (z : α) : ∀ k, 0 < rp lt x l z k → lt x (l.getD (rp lt x l z k - 1) z) = false
  | 0, h => by simp [rp] at h
  | k + 1, h => by
    unfold rp at h ⊢
    by_cases c : lt x (l.getD k z) = true
    · rw [if_pos c] at h ⊢; exact rp_at lt x l z k h
    · rw [if_neg c]; simpa using c

theorem insR_perm (lt : α → α → Bool) (z x : α) (l : List α) : (insR lt z x l).Perm (x :: l) := by
  unfold insR
  have := List.perm_middle (a := x) (l₁ := l.take (rp lt x l z l.length)) (l₂ := l.drop (rp lt x l z l.length))
  rwa [List.take_append_drop] at this

theorem foldl_perm (lt : α → α → Bool) (z : α) : ∀ (l out : List α), (l.foldl (fun out x => insR lt z x out) out).Perm (out ++ l)
  | [], out => by simp
  | x :: l, out => by
    refine (foldl_perm lt z l _).trans ?_
    have h : (insR lt z x out ++ l).Perm ((x :: out) ++ l) := (insR_perm lt z x out).append_right l
    refine h.trans ?_
    simpa using (List.perm_middle (a := x) (l₁ := out) (l₂ := l)).symm
theorem srt_perm (lt : α → α → Bool) (z : α) (l : List α) : (srt lt z l).Perm l := by simpa [srt] using foldl_perm lt z l []

/-- None before is greater. -/
def Up (lt : α → α → Bool) (l : List α) : Prop := l.Pairwise fun a b => lt b a = false

theorem insR_up {lt : α → α → Bool} (h : SWO lt) (z x : α) {l : List α} (hl : Up lt l) : Up lt (insR lt z x l) := by
  unfold Up insR at *
  have hs : (l.take (rp lt x l z l.length) ++ l.drop (rp lt x l z l.length)).Pairwise fun a b => lt b a = false := by rw [List.take_append_drop]; exact hl
  rw [List.pairwise_append] at hs
  obtain ⟨h1, h2, h3⟩ := hs
  have hle := rp_le lt x l z l.length
  rw [List.pairwise_append]
  refine ⟨h1, ?_, ?_⟩
  · rw [List.pairwise_cons]
    refine ⟨fun b hb => ?_, h2⟩
    obtain ⟨j, hj, rfl⟩ := List.getElem_of_mem hb
    simp only [List.length_drop] at hj
    have := rp_above lt x l z l.length (rp lt x l z l.length + j) (by omega) (by omega)
    rw [List.getElem_drop]
    rw [List.getD_eq_getElem?_getD, List.getElem?_eq_getElem (by omega)] at this
    exact asymm' h this
  · intro a ha b hb
    rcases List.mem_cons.1 hb with rfl | hb
    · have h0 : 0 < rp lt b l z l.length := by
        cases e : rp lt b l z l.length with
        | zero => rw [e] at ha; simp at ha
        | succ k => omega
      have hat := rp_at lt b l z l.length h0
      obtain ⟨j, hj, rfl⟩ := List.getElem_of_mem ha
      simp only [List.length_take] at hj
      rw [List.getElem_take]
      rw [List.getD_eq_getElem?_getD, List.getElem?_eq_getElem (by omega)] at hat
      simp only [Option.getD_some] at hat
      by_cases e : j = rp lt b l z l.length - 1
      · subst e; exact hat
      · have := List.pairwise_iff_getElem.1 hl j (rp lt b l z l.length - 1) (by omega) (by omega) (by omega)
        exact h.ntrans _ _ _ hat this
    · exact h3 a ha b hb

theorem foldl_up {lt : α → α → Bool} (h : SWO lt) (z : α) : ∀ (l out : List α), Up lt out → Up lt (l.foldl (fun out x => insR lt z x out) out)
  | [], _, ho => ho
  | x :: l, _, ho => foldl_up h z l _ (insR_up h z x ho)
theorem srt_up {lt : α → α → Bool} (h : SWO lt) (z : α) (l : List α) : Up lt (srt lt z l) := foldl_up h z l [] List.Pairwise.nil

/-- Two rows of the same things, both ascending, are one, if of two things one is less. -/
theorem up_unique {lt : α → α → Bool} : ∀ (l1 l2 : List α), l1.Perm l2 → Up lt l1 → Up lt l2 → (∀ x ∈ l1, ∀ y ∈ l1, lt x y = false → lt y x = false → x = y) → l1 = l2
  | [], l2, hp, _, _, _ => (List.nil_perm.1 hp).symm
  | a :: l1, [], hp, _, _, _ => absurd hp.length_eq (by simp)
  | a :: l1, b :: l2, hp, h1, h2, ha => by
    unfold Up at h1 h2
    rw [List.pairwise_cons] at h1 h2
    have e : a = b := by
      have ha2 : a ∈ b :: l2 := hp.mem_iff.1 (by simp)
      have hb1 : b ∈ a :: l1 := hp.mem_iff.2 (by simp)
      rcases List.mem_cons.1 ha2 with e | ha2
      · exact e
      · rcases List.mem_cons.1 hb1 with e | hb1
        · exact e.symm
        · exact ha a (by simp) b (by simp [hb1]) (h2.1 a ha2) (h1.1 b hb1)
    subst e
    rw [up_unique l1 l2 (List.Perm.cons_inv hp) h1.2 h2.2 (fun x hx y hy => ha x (by simp [hx]) y (by simp [hy]))]

/-- Insertion of things with their places, the places left out. -/
theorem rp_fst {lt : α → α → Bool} (x : α × Nat) (z : α × Nat) (l : List (α × Nat)) : ∀ k, k ≤ l.length → (∀ y ∈ l, y.2 < x.2) → rp (lexB lt) x l z k = rp lt x.1 (l.map (·.1)) z.1 k
  | 0, _, _ => rfl
  | k + 1, hk, h => by
    unfold rp
    have e1 : l.getD k z = l[k]'(by omega) := by rw [List.getD_eq_getElem?_getD, List.getElem?_eq_getElem (by omega)]; rfl
    have e2 : (l.map (·.1)).getD k z.1 = (l[k]'(by omega)).1 := by rw [List.getD_eq_getElem?_getD, List.getElem?_eq_getElem (by simp; omega)]; simp
    rw [e1, e2, lexB_fst (h _ (List.getElem_mem _)), rp_fst x z l k (by omega) h]
theorem insR_fst {lt : α → α → Bool} (x z : α × Nat) (l : List (α × Nat)) (h : ∀ y ∈ l, y.2 < x.2) : (insR (lexB lt) z x l).map (·.1) = insR lt z.1 x.1 (l.map (·.1)) := by
  unfold insR
  rw [rp_fst x z l l.length (Nat.le_refl _) h]
  simp [List.map_take, List.map_drop]
theorem foldl_fst {lt : α → α → Bool} (z : α × Nat) : ∀ (l : List α) (i : Nat) (out : List (α × Nat)), (∀ y ∈ out, y.2 < i) →
    ((l.zipIdx i).foldl (fun out x => insR (lexB lt) z x out) out).map (·.1) = l.foldl (fun out x => insR lt z.1 x out) (out.map (·.1))
  | [], _, _, _ => rfl
  | x :: l, i, out, h => by
    rw [List.zipIdx_cons, List.foldl_cons, List.foldl_cons, foldl_fst z l (i + 1) _ (fun y hy => ?_), insR_fst (x, i) z out h]
    rcases List.mem_cons.1 ((insR_perm _ _ _ _).mem_iff.1 hy) with rfl | hy
    · simp
    · have := h y hy; omega
theorem srt_fst {lt : α → α → Bool} (z : α × Nat) (l : List α) : (srt (lexB lt) z l.zipIdx).map (·.1) = srt lt z.1 l := foldl_fst z l 0 [] (fun _ h => by simp at h)

/-- THE STABLE SORT'S RESULT: whatever is a permutation of the things with their places, ascending, is what insertion from the left gives. -/
theorem stable_srt {lt : α → α → Bool} (h : SWO lt) (z : α) (l : List α) (X : List (α × Nat)) (hp : X.Perm l.zipIdx) (hu : Up (lexB lt) X) : X.map (·.1) = srt lt z l := by
  rw [← srt_fst (z, 0) l]
  congr 1
  refine up_unique X _ (hp.trans (srt_perm _ _ _).symm) hu (srt_up (lexB_swo h) _ _) fun x hx y hy h1 h2 => ?_
  by_cases e : x.2 = y.2
  · have mx := List.mem_zipIdx_iff_getElem?.1 (hp.mem_iff.1 hx)
    have my := List.mem_zipIdx_iff_getElem?.1 (hp.mem_iff.1 hy)
    rw [e] at mx
    have := mx.symm.trans my
    simp only [Option.some.injEq] at this
    exact Prod.ext this e
  · have := lexB_total e h1
    rw [this] at h2; cases h2
end Go.Proofs.YtfclmbneimbmnaaDoor

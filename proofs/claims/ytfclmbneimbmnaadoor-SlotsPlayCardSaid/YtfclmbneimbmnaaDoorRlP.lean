/- What a ring's rows bear, beside the reference's row. No model in this text. -/
import Derived.Test.YtfclmbneimbmnaaDoorRiG
namespace Go.Proofs.YtfclmbneimbmnaaDoor
/-- The reference's things of a slot. -/
def atS (s : Nat) (L : List Rt) : List Th := (L.filter (fun x => x.2 == (s : Int))).map (·.1)
def idR (x : Rt) : Int := x.1.1

/-- The ring's rows S bear what the reference's row L says. -/
structure Rel (S : Nat → List Th) (L : List Rt) : Prop where
  perm : ∀ s, s < 64 → (S s).Perm (atS s L)
  ok : ∀ x ∈ L, (0 ≤ x.2 ∧ x.2 < 64) ∧ IdOk x.1.1
  nd : (L.map idR).Nodup

theorem Rel.nil : Rel (fun _ => []) [] := ⟨fun _ _ => List.Perm.nil, by simp, by simp⟩
theorem Rel.mem {S : Nat → List Th} {L : List Rt} (h : Rel S L) {s : Nat} (hs : s < 64) {t : Th} : t ∈ S s ↔ (t, (s : Int)) ∈ L := by
  rw [(h.perm s hs).mem_iff]
  unfold atS
  simp only [List.mem_map, List.mem_filter, beq_iff_eq]
  constructor
  · rintro ⟨⟨t', k⟩, ⟨h1, h2⟩, rfl⟩
    simp only at h2
    rw [← h2]; exact h1
  · intro h1; exact ⟨(t, (s : Int)), ⟨h1, rfl⟩, rfl⟩
theorem Rel.put {S : Nat → List Th} {L : List Rt} (h : Rel S L) {s : Nat} (hs : s < 64) (t : Th) (ht : IdOk t.1) (hn : ∀ x ∈ L, idR x ≠ t.1) : Rel (upd S s (S s ++ [t])) (L ++ [(t, (s : Int))]) := by
  refine ⟨fun k hk => ?_, fun x hx => ?_, ?_⟩
  · unfold atS upd
    rw [List.filter_append, List.map_append]
    by_cases e : k = s
    · subst e
      rw [if_pos rfl]
      have : (([(t, (k : Int))] : List Rt).filter (fun x => x.2 == (k : Int))).map (·.1) = [t] := by simp
      rw [this]
      exact (h.perm k hk).append_right _
    · rw [if_neg e]
      have : (([(t, (s : Int))] : List Rt).filter (fun x => x.2 == (k : Int))).map (·.1) = [] := by
        have : ¬ (s : Int) = (k : Int) := by omega
        simp [this]
      rw [this, List.append_nil]
      exact h.perm k hk
  · rcases List.mem_append.1 hx with h1 | h1
    · exact h.ok x h1
    · rw [List.mem_singleton] at h1; subst h1; exact ⟨⟨by show 0 ≤ (s : Int); omega, by show (s : Int) < 64; omega⟩, ht⟩
  · rw [List.map_append, List.nodup_append]
    refine ⟨h.nd, by simp, ?_⟩
    intro a ha b hb e
    simp only [List.map_cons, List.map_nil, List.mem_singleton] at hb
    obtain ⟨x, hx, rfl⟩ := List.mem_map.1 ha
    exact hn x hx (by rw [e, hb]; rfl)
theorem eraseIdx_perm {α : Type} : ∀ (L : List α) (k : Nat) (hk : k < L.length), (L[k] :: L.eraseIdx k).Perm L
  | x :: L, 0, _ => by simp
  | x :: L, k + 1, hk => by
    have ih := eraseIdx_perm L k (by simpa using hk)
    simp only [List.getElem_cons_succ, List.eraseIdx_cons_succ]
    exact (List.Perm.swap x _ _).trans (List.Perm.cons x ih)
theorem Rel.drop {S : Nat → List Th} {L : List Rt} (h : Rel S L) {k : Nat} (hk : k < L.length) {s : Nat} (hs : s < 64) (e : (L[k]).2 = (s : Int)) (l' : List Th) (hl : (((L[k]).1) :: l').Perm (S s)) : Rel (upd S s l') (L.eraseIdx k) := by
  have hp := eraseIdx_perm L k hk
  have hsub : ∀ x ∈ L.eraseIdx k, x ∈ L := fun x hx => hp.mem_iff.1 (List.mem_cons_of_mem _ hx)
  refine ⟨fun j hj => ?_, fun x hx => h.ok x (hsub x hx), ?_⟩
  · have h1 : (atS j (L[k] :: L.eraseIdx k)).Perm (atS j L) := (hp.filter _).map _
    unfold upd
    by_cases ej : j = s
    · subst ej
      rw [if_pos rfl]
      have h2 : atS j (L[k] :: L.eraseIdx k) = (L[k]).1 :: atS j (L.eraseIdx k) := by
        unfold atS
        rw [List.filter_cons_of_pos (by simp [e])]
        rfl
      rw [h2] at h1
      exact (List.perm_cons _).1 ((hl.trans (h.perm j hj)).trans h1.symm)
    · rw [if_neg ej]
      have h2 : atS j (L[k] :: L.eraseIdx k) = atS j (L.eraseIdx k) := by
        unfold atS
        rw [List.filter_cons_of_neg (by simp [e]; omega)]
      rw [h2] at h1
      exact (h.perm j hj).trans h1.symm
  · have h3 := (hp.map idR).nodup_iff.2 h.nd
    rw [List.map_cons, List.nodup_cons] at h3
    exact h3.2
theorem Rel.take {S : Nat → List Th} {L : List Rt} (h : Rel S L) {s : Nat} : Rel (upd S s []) (L.filter (fun x => !(x.2 == (s : Int)))) := by
  refine ⟨fun j hj => ?_, fun x hx => h.ok x (List.mem_filter.1 hx).1, ?_⟩
  · unfold upd atS
    rw [List.filter_filter]
    by_cases ej : j = s
    · subst ej
      rw [if_pos rfl]
      have : (L.filter fun x => (x.2 == (j : Int)) && !(x.2 == (j : Int))) = [] := by
        rw [List.filter_eq_nil_iff]; intro x _; cases (x.2 == (j : Int)) <;> simp
      rw [this]
      exact List.Perm.nil
    · rw [if_neg ej]
      have : (L.filter fun x => (x.2 == (j : Int)) && !(x.2 == (s : Int))) = L.filter fun x => x.2 == (j : Int) := by
        apply List.filter_congr
        intro x _
        by_cases e : x.2 = (j : Int)
        · have : ¬ (j : Int) = (s : Int) := by omega
          simp [e, this]
        · simp [e]
      rw [this]
      exact h.perm j hj
  · exact List.Sublist.nodup ((List.filter_sublist).map idR) h.nd
theorem tot_zero {α : Type} (S : Nat → List α) : ∀ n, (∀ k, k < n → S k = []) → tot S n = 0
  | 0, _ => rfl
  | n + 1, h => by unfold tot; rw [tot_zero S n (fun k hk => h k (by omega)), h n (by omega)]; rfl
/-- How many of a row lie in the first n slots. -/
theorem tot_len {L : List Rt} : ∀ (n : Nat) (S : Nat → List Th), (∀ s, s < n → (S s).length = (atS s L).length) → tot S n = (L.filter (fun x => decide (0 ≤ x.2 ∧ x.2 < (n : Int)))).length
  | 0, S, _ => by
    unfold tot
    symm
    rw [List.length_eq_zero_iff, List.filter_eq_nil_iff]
    intro x _
    have : ¬ (0 ≤ x.2 ∧ x.2 < ((0 : Nat) : Int)) := by omega
    simp [this]
  | n + 1, S, h => by
    have ih := tot_len n S (fun s hs => h s (by omega))
    unfold tot
    rw [ih, h n (by omega)]
    unfold atS
    rw [List.length_map]
    clear ih h
    induction L with
    | nil => rfl
    | cons x L ihl =>
      rw [List.filter_cons, List.filter_cons, List.filter_cons]
      by_cases e1 : x.2 = (n : Int)
      · have a1 : (x.2 == (n : Int)) = true := by simp [e1]
        have a2 : decide (0 ≤ x.2 ∧ x.2 < (n : Int)) = false := decide_eq_false (by omega)
        have a3 : decide (0 ≤ x.2 ∧ x.2 < ((n + 1 : Nat) : Int)) = true := decide_eq_true (by omega)
        rw [a1, a2, a3]
        simp only [if_true, if_false, List.length_cons, Bool.false_eq_true]
        omega
      · have a1 : (x.2 == (n : Int)) = false := by simp [e1]
        rw [a1]
        by_cases e2 : 0 ≤ x.2 ∧ x.2 < (n : Int)
        · have a2 : decide (0 ≤ x.2 ∧ x.2 < (n : Int)) = true := decide_eq_true e2
          have a3 : decide (0 ≤ x.2 ∧ x.2 < ((n + 1 : Nat) : Int)) = true := decide_eq_true (by omega)
          rw [a2, a3]
          simp only [if_true, if_false, List.length_cons, Bool.false_eq_true]
          omega
        · have a2 : decide (0 ≤ x.2 ∧ x.2 < (n : Int)) = false := decide_eq_false e2
          have a3 : decide (0 ≤ x.2 ∧ x.2 < ((n + 1 : Nat) : Int)) = false := decide_eq_false (by omega)
          rw [a2, a3]
          simp only [if_false, Bool.false_eq_true]
          omega
theorem Rel.len {S : Nat → List Th} {L : List Rt} (h : Rel S L) : tot S 64 = L.length := by
  rw [tot_len 64 S (fun s hs => (h.perm s hs).length_eq), List.filter_eq_self.2]
  intro x hx
  have := (h.ok x hx).1
  exact decide_eq_true (by omega)
end Go.Proofs.YtfclmbneimbmnaaDoor

/- Spans joined: lists of pairs of integers; no word of the program. -/
namespace Go.Proofs.Ythlmeppahcjlgaa

/-- A second that some span has. -/
def cov (l : List (Int × Int)) (t : Int) : Prop := ∃ s, s ∈ l ∧ s.1 ≤ t ∧ t < s.2
def rights (l : List (Int × Int)) : Prop := ∀ s, s ∈ l → 0 ≤ s.1 ∧ s.1 < s.2 ∧ s.2 ≤ 1125899906842624
def sep (l : List (Int × Int)) : Prop := l.Pairwise fun a b => a.2 < b.1
structure Joined (l j : List (Int × Int)) : Prop where
  sep : sep j
  rights : rights j
  cov : ∀ t, cov j t ↔ cov l t
theorem cov_append (a b : List (Int × Int)) (t : Int) : cov (a ++ b) t ↔ cov a t ∨ cov b t := by
  unfold cov
  constructor
  · rintro ⟨s, hs, h⟩
    rcases List.mem_append.1 hs with h1 | h1
    · exact .inl ⟨s, h1, h⟩
    · exact .inr ⟨s, h1, h⟩
  · rintro (⟨s, hs, h⟩ | ⟨s, hs, h⟩)
    · exact ⟨s, List.mem_append.2 (.inl hs), h⟩
    · exact ⟨s, List.mem_append.2 (.inr hs), h⟩
theorem cov_one (s : Int × Int) (t : Int) : cov [s] t ↔ s.1 ≤ t ∧ t < s.2 := by
  unfold cov
  constructor
  · rintro ⟨x, hx, h⟩
    obtain rfl := List.mem_singleton.1 hx
    exact h
  · intro h; exact ⟨s, List.mem_singleton.2 rfl, h⟩
theorem cov_cons (s : Int × Int) (l : List (Int × Int)) (t : Int) : cov (s :: l) t ↔ (s.1 ≤ t ∧ t < s.2) ∨ cov l t := by
  rw [show s :: l = [s] ++ l from rfl, cov_append, cov_one]
theorem rights_append {a b : List (Int × Int)} (ha : rights a) (hb : rights b) : rights (a ++ b) := fun s hs => by
  rcases List.mem_append.1 hs with h | h
  · exact ha s h
  · exact hb s h
theorem rights_tail {x : Int × Int} {a : List (Int × Int)} (h : rights (x :: a)) : rights a := fun s hs => h s (List.mem_cons_of_mem _ hs)
theorem sep_head {x : Int × Int} {a : List (Int × Int)} (h : sep (x :: a)) : ∀ s, s ∈ a → x.2 < s.1 := (List.pairwise_cons.1 h).1
theorem first_le {x y : Int × Int} {a b : List (Int × Int)} (hb : sep (y :: b)) (rb : rights (y :: b)) (ra : rights (x :: a))
    (h : ∀ t, cov (x :: a) t → cov (y :: b) t) : y.1 ≤ x.1 := by
  have hx := ra x (List.mem_cons_self ..)
  obtain ⟨s, hs, h1, h2⟩ := h x.1 ⟨x, List.mem_cons_self .., by omega, by omega⟩
  rcases List.mem_cons.1 hs with rfl | hs
  · exact h1
  · have := sep_head hb s hs
    have := rb y (List.mem_cons_self ..)
    omega
theorem end_le {x y : Int × Int} {a b : List (Int × Int)} (ha : sep (x :: a)) (ra : rights (x :: a)) (e : x.1 = y.1)
    (h : ∀ t, cov (y :: b) t → cov (x :: a) t) : y.2 ≤ x.2 := by
  rcases Int.lt_or_le x.2 y.2 with hlt | hle
  · exfalso
    have hx := ra x (List.mem_cons_self ..)
    obtain ⟨s, hs, h1, h2⟩ := h x.2 ⟨y, List.mem_cons_self .., by omega, by omega⟩
    rcases List.mem_cons.1 hs with rfl | hs
    · omega
    · have := sep_head ha s hs
      omega
  · exact hle
theorem joined_uniq : ∀ (a b : List (Int × Int)), sep a → rights a → sep b → rights b → (∀ t, cov a t ↔ cov b t) → a = b
  | [], [], _, _, _, _, _ => rfl
  | [], y :: b, _, _, _, rb, h => by
    have hy := rb y (List.mem_cons_self ..)
    obtain ⟨s, hs, _⟩ := (h y.1).2 ⟨y, List.mem_cons_self .., by omega, by omega⟩
    cases hs
  | x :: a, [], _, ra, _, _, h => by
    have hx := ra x (List.mem_cons_self ..)
    obtain ⟨s, hs, _⟩ := (h x.1).1 ⟨x, List.mem_cons_self .., by omega, by omega⟩
    cases hs
  | x :: a, y :: b, ha, ra, hb, rb, h => by
    have e1 : x.1 = y.1 := by
      have := first_le hb rb ra fun t => (h t).1
      have := first_le ha ra rb fun t => (h t).2
      omega
    have e2 : x.2 = y.2 := by
      have := end_le ha ra e1 fun t => (h t).2
      have := end_le hb rb e1.symm fun t => (h t).1
      omega
    obtain rfl : x = y := Prod.ext e1 e2
    have ht : a = b := by
      refine joined_uniq a b (List.pairwise_cons.1 ha).2 (rights_tail ra) (List.pairwise_cons.1 hb).2 (rights_tail rb) fun t => ?_
      have h0 := h t
      rw [cov_cons, cov_cons] at h0
      have p1 : cov a t → ¬ (x.1 ≤ t ∧ t < x.2) := by
        rintro ⟨s, hs, h1, _⟩ h2
        have := sep_head ha s hs
        omega
      have p2 : cov b t → ¬ (x.1 ≤ t ∧ t < x.2) := by
        rintro ⟨s, hs, h1, _⟩ h2
        have := sep_head hb s hs
        omega
      constructor
      · intro hc
        rcases h0.1 (.inr hc) with h1 | h1
        · exact absurd h1 (p1 hc)
        · exact h1
      · intro hc
        rcases h0.2 (.inr hc) with h1 | h1
        · exact absurd h1 (p2 hc)
        · exact h1
    rw [ht]
theorem Joined.uniq {l a b : List (Int × Int)} (ha : Joined l a) (hb : Joined l b) : a = b :=
  joined_uniq a b ha.sep ha.rights hb.sep hb.rights fun t => (ha.cov t).trans (hb.cov t).symm

/-- A span that begins within the last one, or at its end. -/
theorem Joined.merge {l ini : List (Int × Int)} {x s : Int × Int} (h : Joined l (ini ++ [x])) (h1 : x.1 ≤ s.1) (h2 : s.1 ≤ x.2) (hs : 0 ≤ s.1 ∧ s.1 < s.2 ∧ s.2 ≤ 1125899906842624) (m : Int) (hm : (x.2 < s.2 ∧ m = s.2) ∨ (s.2 ≤ x.2 ∧ m = x.2)) :
    Joined (l ++ [s]) (ini ++ [(x.1, m)]) := by
  have hx := h.rights x (List.mem_append.2 (.inr (List.mem_singleton.2 rfl)))
  refine ⟨?_, ?_, fun t => ?_⟩
  · have h0 := h.sep
    unfold Go.Proofs.Ythlmeppahcjlgaa.sep at h0 ⊢
    rw [List.pairwise_append] at h0 ⊢
    refine ⟨h0.1, List.pairwise_singleton .., fun a ha b hb => ?_⟩
    obtain rfl := List.mem_singleton.1 hb
    exact h0.2.2 a ha x (List.mem_singleton.2 rfl)
  · refine rights_append (fun a ha => h.rights a (List.mem_append.2 (.inl ha))) fun a ha => ?_
    obtain rfl := List.mem_singleton.1 ha
    show 0 ≤ x.1 ∧ x.1 < m ∧ m ≤ _
    omega
  · have h0 := h.cov t
    rw [cov_append, cov_one] at h0 ⊢
    rw [cov_append, cov_one]
    show _ ∨ (x.1 ≤ t ∧ t < m) ↔ _
    constructor
    · rintro (h3 | h3)
      · exact .inl (h0.1 (.inl h3))
      · by_cases h4 : t < x.2
        · exact .inl (h0.1 (.inr ⟨h3.1, h4⟩))
        · exact .inr (by omega)
    · rintro (h3 | h3)
      · rcases h0.2 h3 with h4 | h4
        · exact .inl h4
        · exact .inr (by omega)
      · exact .inr (by omega)
/-- A span that begins behind the last one. -/
theorem Joined.snoc {l j : List (Int × Int)} {s : Int × Int} (h : Joined l j) (h1 : ∀ x, x ∈ j → x.2 < s.1) (hs : 0 ≤ s.1 ∧ s.1 < s.2 ∧ s.2 ≤ 1125899906842624) : Joined (l ++ [s]) (j ++ [s]) := by
  refine ⟨?_, rights_append h.rights fun a ha => by obtain rfl := List.mem_singleton.1 ha; exact hs, fun t => ?_⟩
  · unfold Go.Proofs.Ythlmeppahcjlgaa.sep
    rw [List.pairwise_append]
    refine ⟨h.sep, List.pairwise_singleton .., fun a ha b hb => ?_⟩
    obtain rfl := List.mem_singleton.1 hb
    exact h1 a ha
  · rw [cov_append, cov_append, h.cov t]
theorem sep_last {ini : List (Int × Int)} {x : Int × Int} (h : sep (ini ++ [x])) (hr : rights (ini ++ [x])) : ∀ y, y ∈ ini ++ [x] → y.2 ≤ x.2 := by
  intro y hy
  rcases List.mem_append.1 hy with h1 | h1
  · have := (List.pairwise_append.1 h).2.2 y h1 x (List.mem_singleton.2 rfl)
    have := hr x (List.mem_append.2 (.inr (List.mem_singleton.2 rfl)))
    omega
  · obtain rfl := List.mem_singleton.1 h1
    exact Int.le_refl _
theorem Joined.nil : Joined [] [] := ⟨List.Pairwise.nil, (fun s h => by cases h), fun t => Iff.rfl⟩
theorem cov_perm {a b : List (Int × Int)} (h : a.Perm b) (t : Int) : cov a t ↔ cov b t := by
  unfold cov
  constructor
  · rintro ⟨s, hs, h1⟩; exact ⟨s, h.mem_iff.1 hs, h1⟩
  · rintro ⟨s, hs, h1⟩; exact ⟨s, h.mem_iff.2 hs, h1⟩
theorem Joined.perm {a b j : List (Int × Int)} (hj : Joined a j) (h : a.Perm b) : Joined b j := ⟨hj.sep, hj.rights, fun t => (hj.cov t).trans (cov_perm h t)⟩
end Go.Proofs.Ythlmeppahcjlgaa

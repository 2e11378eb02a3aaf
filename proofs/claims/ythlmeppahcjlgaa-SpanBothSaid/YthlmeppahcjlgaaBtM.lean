/- Rows that meet, spans that grow: lists of pairs; no word of the program. -/
import Derived.Test.YthlmeppahcjlgaaJnM
import Derived.Test.YthlmeppahcjlgaaRfA
namespace Go.Proofs.Ythlmeppahcjlgaa

/-- What a span has in common with each of a row; what each span of the one has in common with each of the other. -/
def one (x : Int × Int) (B : List (Int × Int)) : List (Int × Int) := B.flatMap fun y => cutOne x.1 x.2 y.1 y.2
def meets (A B : List (Int × Int)) : List (Int × Int) := A.flatMap fun x => one x B
theorem one_cons (x y : Int × Int) (B : List (Int × Int)) : one x (y :: B) = cutOne x.1 x.2 y.1 y.2 ++ one x B := List.flatMap_cons ..
theorem meets_cons (x : Int × Int) (A B : List (Int × Int)) : meets (x :: A) B = one x B ++ meets A B := List.flatMap_cons ..
/-- The spans follow one another. -/
def rowed (l : List (Int × Int)) : Prop := rights l ∧ l.Pairwise fun a b => a.2 ≤ b.1
theorem rowed_tail {x : Int × Int} {l : List (Int × Int)} (h : rowed (x :: l)) : rowed l := ⟨rights_tail h.1, (List.pairwise_cons.1 h.2).2⟩
theorem cutOne_nil {a b c d : Int} (h : b ≤ c ∨ d ≤ a) : cutOne a b c d = [] := by
  unfold cutOne
  rw [if_neg]
  rcases mx_cases a c with ⟨h1, h2⟩ | ⟨h1, h2⟩ <;> rcases mn_cases b d with ⟨h3, h4⟩ | ⟨h3, h4⟩ <;> omega
theorem cutOne_len (a b c d : Int) : (cutOne a b c d).length ≤ 1 := by
  unfold cutOne
  split <;> simp
theorem flat_nil {α β : Type} {f : α → List β} : ∀ {l : List α}, (∀ x, x ∈ l → f x = []) → l.flatMap f = []
  | [], _ => rfl
  | x :: l, h => by rw [List.flatMap_cons, h x (List.mem_cons_self ..), flat_nil fun y hy => h y (List.mem_cons_of_mem _ hy)]; rfl
theorem meets_left {x y : Int × Int} {A B : List (Int × Int)} (hb : rowed (y :: B)) (h : x.2 ≤ y.2) : meets (x :: A) (y :: B) = cutOne x.1 x.2 y.1 y.2 ++ meets A (y :: B) := by
  rw [meets_cons, one_cons, show one x B = [] from flat_nil fun z hz => cutOne_nil (.inl (Int.le_trans h ((List.pairwise_cons.1 hb.2).1 z hz))), List.append_nil]
theorem meets_right {x y : Int × Int} {A B : List (Int × Int)} (ha : rowed (x :: A)) (h : y.2 < x.2) : meets (x :: A) (y :: B) = cutOne x.1 x.2 y.1 y.2 ++ meets (x :: A) B := by
  have : ∀ (L : List (Int × Int)), (∀ z ∈ L, y.2 ≤ z.1) → meets L (y :: B) = meets L B := by
    intro L
    induction L with
    | nil => intro _; rfl
    | cons z L ih =>
      intro hz
      rw [meets_cons, meets_cons, ih fun w hw => hz w (List.mem_cons_of_mem _ hw), one_cons, cutOne_nil (.inr (hz z (List.mem_cons_self ..)))]
      rfl
  rw [meets_cons, one_cons, this A fun z hz => by have := (List.pairwise_cons.1 ha.2).1 z hz; omega, List.append_assoc, meets_cons]
theorem meets_nil_right (A : List (Int × Int)) : meets A [] = [] := by
  exact flat_nil fun _ _ => rfl
theorem meets_nil_left (B : List (Int × Int)) : meets [] B = [] := rfl
theorem cutOne_right {a b c d : Int} (h : 0 ≤ a ∧ a < b ∧ b ≤ 1125899906842624) : rights (cutOne a b c d) := by
  intro s hs
  unfold cutOne at hs
  split at hs
  · rename_i h1
    obtain rfl := List.mem_singleton.1 hs
    show 0 ≤ mx a c ∧ mx a c < mn b d ∧ mn b d ≤ _
    rcases mx_cases a c with ⟨h2, h3⟩ | ⟨h2, h3⟩ <;> rcases mn_cases b d with ⟨h4, h5⟩ | ⟨h4, h5⟩ <;> omega
  · cases hs
theorem rights_meets {A B : List (Int × Int)} (h : rights A) : rights (meets A B) := by
  intro s hs
  unfold meets at hs
  obtain ⟨x, hx, hs⟩ := List.mem_flatMap.1 hs
  unfold one at hs
  obtain ⟨y, _, hs⟩ := List.mem_flatMap.1 hs
  exact cutOne_right (h x hx) s hs
theorem one_len (x : Int × Int) (L : List (Int × Int)) : (one x L).length ≤ L.length := by
  induction L with
  | nil => exact Nat.le_refl _
  | cons y L ih =>
    rw [one_cons, List.length_append]
    have := cutOne_len x.1 x.2 y.1 y.2
    simp only [List.length_cons]
    omega
theorem meets_len (A B : List (Int × Int)) : (meets A B).length ≤ A.length * B.length := by
  induction A with
  | nil => simp [meets]
  | cons x A ih =>
    rw [meets_cons, List.length_append]
    have := one_len x B
    simp only [List.length_cons, Nat.add_mul, Nat.one_mul]
    omega
/-- The state of the merge: what is done, and what is left of either row. -/
theorem meets_step_left {A B : List (Int × Int)} {i j : Nat} (hi : i < A.length) (hj : j < B.length) (hb : rowed B) (h : (A[i]).2 ≤ (B[j]).2) :
    meets (A.drop i) (B.drop j) = cutOne (A[i]).1 (A[i]).2 (B[j]).1 (B[j]).2 ++ meets (A.drop (i + 1)) (B.drop j) := by
  rw [List.drop_eq_getElem_cons hi, List.drop_eq_getElem_cons hj]
  refine meets_left ?_ h
  rw [← List.drop_eq_getElem_cons hj]
  exact ⟨fun s hs => hb.1 s (List.mem_of_mem_drop hs), hb.2.sublist (List.drop_sublist _ _)⟩
theorem meets_step_right {A B : List (Int × Int)} {i j : Nat} (hi : i < A.length) (hj : j < B.length) (ha : rowed A) (h : (B[j]).2 < (A[i]).2) :
    meets (A.drop i) (B.drop j) = cutOne (A[i]).1 (A[i]).2 (B[j]).1 (B[j]).2 ++ meets (A.drop i) (B.drop (j + 1)) := by
  rw [List.drop_eq_getElem_cons hi, List.drop_eq_getElem_cons hj]
  refine meets_right ?_ h
  rw [← List.drop_eq_getElem_cons hi]
  exact ⟨fun s hs => ha.1 s (List.mem_of_mem_drop hs), ha.2.sublist (List.drop_sublist _ _)⟩
/-- Row after row, span after span. -/
theorem meets_take {A B : List (Int × Int)} {i : Nat} (hi : i < A.length) : meets (A.take (i + 1)) B = meets (A.take i) B ++ one (A[i]) B := by
  unfold meets
  rw [List.take_add_one, List.getElem?_eq_getElem hi, Option.toList_some, List.flatMap_append]
  simp
theorem one_take {x : Int × Int} {B : List (Int × Int)} {k : Nat} (hk : k < B.length) : one x (B.take (k + 1)) = one x (B.take k) ++ cutOne x.1 x.2 (B[k]).1 (B[k]).2 := by
  unfold one
  rw [List.take_add_one, List.getElem?_eq_getElem hk, Option.toList_some, List.flatMap_append]
  simp

/-- A span that begins behind all that is joined. -/
def lateB (jn : List (Int × Int)) (f : Int) : Bool := jn.all fun y => decide (y.2 < f)
theorem lateB_iff {jn : List (Int × Int)} {f : Int} : lateB jn f = true ↔ ∀ y ∈ jn, y.2 < f := by
  unfold lateB
  rw [List.all_eq_true]
  exact forall₂_congr fun y _ => decide_eq_true_iff
theorem lateB_nil (f : Int) : lateB [] f = true := rfl
theorem lateB_last {ini : List (Int × Int)} {z : Int × Int} (h : sep (ini ++ [z])) (hr : rights (ini ++ [z])) (f : Int) : lateB (ini ++ [z]) f = decide (z.2 < f) := by
  rw [Bool.eq_iff_iff, lateB_iff, decide_eq_true_iff]
  constructor
  · intro h1; exact h1 z (List.mem_append.2 (.inr (List.mem_singleton.2 rfl)))
  · intro h1 y hy; exact Int.lt_of_le_of_lt (sep_last h hr y hy) h1
/-- How many spans are still to come. -/
def lateN (l jn : List (Int × Int)) : Nat := (l.filter fun s => lateB jn s.1).length
theorem filter_le {α : Type} {p q : α → Bool} (h : ∀ x, q x = true → p x = true) : ∀ l : List α, (l.filter q).length ≤ (l.filter p).length := by
  intro l
  induction l with
  | nil => exact Nat.le_refl _
  | cons x l ih =>
    by_cases hq : q x = true
    · rw [List.filter_cons_of_pos hq, List.filter_cons_of_pos (h x hq)]; simp; exact ih
    · rw [List.filter_cons_of_neg hq]
      by_cases hp : p x = true
      · rw [List.filter_cons_of_pos hp]; simp; omega
      · rw [List.filter_cons_of_neg hp]; exact ih
theorem filter_lt {α : Type} {p q : α → Bool} (h : ∀ x, q x = true → p x = true) {a : α} (hp : p a = true) (hq : q a = false) : ∀ {l : List α}, a ∈ l → (l.filter q).length < (l.filter p).length := by
  intro l
  induction l with
  | nil => intro ha; cases ha
  | cons x l ih =>
    intro ha
    have hle := filter_le h l
    rcases List.mem_cons.1 ha with rfl | ha
    · rw [List.filter_cons_of_pos hp, List.filter_cons_of_neg (by simp [hq])]; simp; omega
    · have := ih ha
      by_cases hq' : q x = true
      · rw [List.filter_cons_of_pos hq', List.filter_cons_of_pos (h x hq')]; simp; exact this
      · rw [List.filter_cons_of_neg hq']
        by_cases hp' : p x = true
        · rw [List.filter_cons_of_pos hp']; simp; omega
        · rw [List.filter_cons_of_neg hp']; exact this
/-- What is joined so far: the spans that begin no later are all in it. -/
structure Grow (l jn : List (Int × Int)) : Prop where
  sep : sep jn
  rights : rights jn
  inl : ∀ t, cov jn t → cov l t
  done : ∀ s, s ∈ l → lateB jn s.1 = false → ∀ t, s.1 ≤ t → t < s.2 → cov jn t
  len : jn.length + lateN l jn ≤ l.length
theorem Grow.start (l : List (Int × Int)) : Grow l [] := by
  refine ⟨List.Pairwise.nil, (fun s h => by cases h), fun t h => ?_, (fun s _ h => by simp [lateB] at h), ?_⟩
  · obtain ⟨s, hs, _⟩ := h; cases hs
  · have : lateN l [] ≤ l.length := List.length_filter_le _ _
    simp; omega
theorem Grow.stop {l jn : List (Int × Int)} (G : Grow l jn) (h : ∀ s, s ∈ l → lateB jn s.1 = false) : Joined l jn := by
  refine ⟨G.sep, G.rights, fun t => ⟨G.inl t, ?_⟩⟩
  rintro ⟨s, hs, h1, h2⟩
  exact G.done s hs (h s hs) t h1 h2
/-- A span that grows out of the least one that is left. -/
structure Seed (l jn : List (Int × Int)) (f m : Int) : Prop where
  late : lateB jn f = true
  mem : ∃ s, s ∈ l ∧ s.1 = f
  least : ∀ s, s ∈ l → lateB jn s.1 = true → f ≤ s.1
  right : 0 ≤ f ∧ f < m ∧ m ≤ 1125899906842624
  inl : ∀ t, f ≤ t → t < m → cov l t
theorem Seed.start {l jn : List (Int × Int)} {a : Int × Int} (hr : rights l) (ha : a ∈ l) (hl : lateB jn a.1 = true) (h : ∀ s, s ∈ l → lateB jn s.1 = true → a.1 ≤ s.1) : Seed l jn a.1 a.2 :=
  ⟨hl, ⟨a, ha, rfl⟩, h, hr a ha, fun _ h1 h2 => ⟨a, ha, h1, h2⟩⟩
theorem Seed.grow {l jn : List (Int × Int)} {f m : Int} (S : Seed l jn f m) (hr : rights l) {s : Int × Int} (hs : s ∈ l) (h1 : f ≤ s.1) (h2 : s.1 ≤ m) (h3 : m < s.2) : Seed l jn f s.2 := by
  have h4 := hr s hs
  have h5 := S.right
  refine ⟨S.late, S.mem, S.least, by omega, fun t ht1 ht2 => ?_⟩
  by_cases h : t < m
  · exact S.inl t ht1 h
  · exact ⟨s, hs, by omega, ht2⟩
theorem Grow.step {l jn : List (Int × Int)} (G : Grow l jn) {f m : Int} (S : Seed l jn f m) (hc : ∀ s, s ∈ l → f ≤ s.1 → s.1 ≤ m → s.2 ≤ m) :
    Grow l (jn ++ [(f, m)]) ∧ lateN l (jn ++ [(f, m)]) < lateN l jn := by
  have hr := S.right
  have hl := lateB_iff.1 S.late
  have hm : ∀ g, lateB (jn ++ [(f, m)]) g = true → lateB jn g = true := fun g h => lateB_iff.2 fun y hy => lateB_iff.1 h y (List.mem_append.2 (.inl hy))
  have hlt : lateN l (jn ++ [(f, m)]) < lateN l jn := by
    obtain ⟨a, ha, e⟩ := S.mem
    refine filter_lt (fun s => hm s.1) (a := a) (by rw [e]; exact S.late) ?_ ha
    rw [e]
    have : ¬ lateB (jn ++ [(f, m)]) f = true := fun h => by
      have := lateB_iff.1 h (f, m) (List.mem_append.2 (.inr (List.mem_singleton.2 rfl)))
      dsimp only at this
      omega
    simpa using this
  refine ⟨⟨?_, ?_, ?_, ?_, ?_⟩, hlt⟩
  · unfold Go.Proofs.Ythlmeppahcjlgaa.sep
    rw [List.pairwise_append]
    refine ⟨G.sep, List.pairwise_singleton .., fun a ha b hb => ?_⟩
    obtain rfl := List.mem_singleton.1 hb
    exact hl a ha
  · exact rights_append G.rights fun a ha => by obtain rfl := List.mem_singleton.1 ha; exact hr
  · intro t h
    rw [cov_append, cov_one] at h
    rcases h with h | h
    · exact G.inl t h
    · exact S.inl t h.1 h.2
  · intro s hs h t h1 h2
    rw [cov_append, cov_one]
    by_cases hj : lateB jn s.1 = true
    · have h3 := S.least s hs hj
      have h4 : s.1 ≤ m := by
        rcases Int.lt_or_le m s.1 with h5 | h5
        · exfalso
          have : lateB (jn ++ [(f, m)]) s.1 = true := lateB_iff.2 fun y hy => by
            rcases List.mem_append.1 hy with h6 | h6
            · exact lateB_iff.1 hj y h6
            · obtain rfl := List.mem_singleton.1 h6; exact h5
          rw [this] at h; cases h
        · exact h5
      exact .inr ⟨by show f ≤ t; omega, by show t < m; have := hc s hs h3 h4; omega⟩
    · exact .inl (G.done s hs (by simpa using hj) t h1 h2)
  · have := G.len
    simp only [List.length_append, List.length_singleton]
    omega
end Go.Proofs.Ythlmeppahcjlgaa

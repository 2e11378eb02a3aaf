/- The stable sort of Go's library in plain Lean: an order made strict by the places that the elements had, insertion by the one order and the other alike, a merge, a rotation, blocks; and that the result is the one that insertion from the left gives. No model in this text. -/
import Derived.Sort.LotA
namespace Go.Proofs.YtfclmbneimbmnaaDoor
open Go.Sort
variable {α : Type} [Inhabited α]

/-- Less; of those of which neither is less, the one that lay before. -/
def lexB (lt : α → α → Bool) (x y : α × Nat) : Bool := lt x.1 y.1 || (!lt y.1 x.1 && decide (x.2 < y.2))
def fstB (lt : α → α → Bool) (x y : α × Nat) : Bool := lt x.1 y.1

omit [Inhabited α] in
theorem lexB_true {lt : α → α → Bool} {x y : α × Nat} : lexB lt x y = true ↔ (lt x.1 y.1 = true ∨ (lt y.1 x.1 = false ∧ x.2 < y.2)) := by
  unfold lexB
  simp

omit [Inhabited α] in
theorem lexB_false {lt : α → α → Bool} {x y : α × Nat} : lexB lt x y = false ↔ (lt x.1 y.1 = false ∧ (lt y.1 x.1 = true ∨ y.2 ≤ x.2)) := by
  unfold lexB
  simp only [Bool.or_eq_false_iff, Bool.and_eq_false_imp, Bool.not_eq_true', decide_eq_false_iff_not, Nat.not_lt]
  constructor
  · rintro ⟨h1, h2⟩
    refine ⟨h1, ?_⟩
    cases h : lt y.1 x.1
    · exact Or.inr (h2 h)
    · exact Or.inl rfl
  · rintro ⟨h1, h2⟩
    refine ⟨h1, fun h => ?_⟩
    rcases h2 with h2 | h2
    · rw [h] at h2; cases h2
    · exact h2

omit [Inhabited α] in
theorem lexB_swo {lt : α → α → Bool} (h : SWO lt) : SWO (lexB lt) where
  irrefl x := lexB_false.2 ⟨h.irrefl _, Or.inr (Nat.le_refl _)⟩
  trans x y z := by
    rw [lexB_true, lexB_true, lexB_true]
    have tr : ∀ a b c : α, lt a b = true → lt c b = false → lt a c = true := fun a b c h1 h2 => by
      cases e : lt a c
      · have := h.ntrans _ _ _ e h2; rw [this] at h1; cases h1
      · rfl
    have tl : ∀ a b c : α, lt b a = false → lt b c = true → lt a c = true := fun a b c h1 h2 => by
      cases e : lt a c
      · have := h.ntrans _ _ _ h1 e; rw [this] at h2; cases h2
      · rfl
    rintro (h1 | ⟨h1, i1⟩) (h2 | ⟨h2, i2⟩)
    · exact Or.inl (h.trans _ _ _ h1 h2)
    · exact Or.inl (tr _ _ _ h1 h2)
    · exact Or.inl (tl _ _ _ h1 h2)
    · exact Or.inr ⟨h.ntrans _ _ _ h2 h1, by omega⟩
  ntrans x y z := by
    rw [lexB_false, lexB_false, lexB_false]
    rintro ⟨h1, i1⟩ ⟨h2, i2⟩
    refine ⟨h.ntrans _ _ _ h1 h2, ?_⟩
    cases e : lt z.1 x.1
    · right
      rcases i1 with i1 | i1
      · have := h.ntrans _ _ _ h2 e; rw [this] at i1; cases i1
      · rcases i2 with i2 | i2
        · have := h.ntrans _ _ _ e h1; rw [this] at i2; cases i2
        · omega
    · exact Or.inl rfl

omit [Inhabited α] in
/-- Where the second lay before the first, both orders say the same. -/
theorem lexB_fst {lt : α → α → Bool} {x y : α × Nat} (h : y.2 < x.2) : lexB lt x y = lt x.1 y.1 := by
  unfold lexB
  rw [decide_eq_false (by omega)]
  simp

omit [Inhabited α] in
theorem asymm' {lt : α → α → Bool} (h : SWO lt) {x y : α} (hxy : lt x y = true) : lt y x = false := by
  cases e : lt y x
  · rfl
  · have := h.trans _ _ _ hxy e; rw [h.irrefl] at this; cases this

/-! ### Insertion -/
theorem insInner_lex (lt : α → α → Bool) (a : Nat) : ∀ (j : Nat) (d : Array (α × Nat)), j < d.size → (∀ p, a ≤ p → p < j → (d[p]!).2 < (d[j]!).2) →
    insInner (fstB lt) a j d = insInner (lexB lt) a j d
  | 0, d, _, _ => by unfold insInner; rfl
  | j + 1, d, hj, h => by
    unfold insInner
    by_cases ha : j + 1 > a
    · have e : lexB lt d[j + 1]! d[j]! = lt (d[j + 1]!).1 (d[j]!).1 := lexB_fst (h j (by omega) (by omega))
      rw [e]
      show (if j + 1 > a && lt (d[j + 1]!).1 (d[j]!).1 then _ else _) = _
      split
      · refine insInner_lex lt a j _ (by rw [Go.Sort.swp_size]; omega) fun p hp hpj => ?_
        rw [swp_get d hj (by omega), swp_get d hj (by omega), if_neg (by omega), if_neg (by omega), if_pos rfl]
        exact h p hp (by omega)
      · rfl
    · simp [ha]

theorem insInner_perm (lt : α → α → Bool) (a : Nat) : ∀ (j i : Nat) (d : Array α), j ≤ i → i < d.size → PermIn a (i + 1) d (insInner lt a j d)
  | 0, i, d, _, _ => by unfold insInner; exact permIn_refl _ _ _
  | j + 1, i, d, hj, hi => by
    unfold insInner
    split
    · rename_i hc
      simp only [Bool.and_eq_true, decide_eq_true_eq] at hc
      have h1 : PermIn a (i + 1) d (swp d (j + 1) j) := swp_permIn d a (i + 1) (j + 1) j (by omega) (by omega) (by omega) (by omega) (by omega)
      exact permIn_trans _ _ _ _ _ h1 (insInner_perm lt a j i _ (by omega) (by rw [Go.Sort.swp_size]; exact hi))
    · exact permIn_refl _ _ _

theorem insOuter_lex (lt : α → α → Bool) (a b : Nat) : ∀ (n i : Nat) (d : Array (α × Nat)), b - i = n → b ≤ d.size →
    (∀ p q, a ≤ p → p < q → i ≤ q → q < b → (d[p]!).2 < (d[q]!).2) → insOuter (fstB lt) a b i d = insOuter (lexB lt) a b i d
  | 0, i, d, hn, _, _ => by
    rw [insOuter, if_neg (by omega), insOuter, if_neg (by omega)]
  | n + 1, i, d, hn, hb, h => by
    have e1 : insOuter (fstB lt) a b i d = insOuter (fstB lt) a b (i + 1) (insInner (fstB lt) a i d) := by rw [insOuter, if_pos (by omega)]
    have e2 : insOuter (lexB lt) a b i d = insOuter (lexB lt) a b (i + 1) (insInner (lexB lt) a i d) := by rw [insOuter, if_pos (by omega)]
    rw [e1, e2, insInner_lex lt a i d (by omega) (fun p hp hpi => h p i hp hpi (Nat.le_refl _) (by omega))]
    have hP := insInner_perm (lexB lt) a i i d (Nat.le_refl _) (by omega)
    refine insOuter_lex lt a b n (i + 1) _ (by omega) (by rw [hP.1]; exact hb) fun p q hp hpq hiq hqb => ?_
    rw [hP.2.1 q (Or.inr (by omega))]
    by_cases hpi : i + 1 ≤ p
    · rw [hP.2.1 p (Or.inr (by omega))]
      exact h p q hp hpq (by omega) hqb
    · exact permIn_all d _ a (i + 1) (fun x => x.2 < (d[q]!).2) (by omega) hP (fun t ht hti => h t q ht (by omega) (by omega) hqb) p hp (by omega)

/-- A part in order, and what lies there lay there. -/
structure Seg (lt : α → α → Bool) (a b : Nat) (d : Array (α × Nat)) : Prop where
  up : SortedIn (lexB lt) a b d
  own : ∀ p, a ≤ p → p < b → a ≤ (d[p]!).2 ∧ (d[p]!).2 < b

/-- Insertion over a part of what still lies as it lay. -/
theorem insertion_seg {lt : α → α → Bool} (h : SWO lt) (d : Array (α × Nat)) (a b : Nat) (hab : a ≤ b) (hb : b ≤ d.size) (hd : ∀ p, a ≤ p → p < b → (d[p]!).2 = p) :
    PermIn a b d (insertionSort (fstB lt) d a b) ∧ Seg lt a b (insertionSort (fstB lt) d a b) := by
  have e : insertionSort (fstB lt) d a b = insertionSort (lexB lt) d a b := by
    unfold insertionSort
    refine insOuter_lex lt a b _ (a + 1) d rfl hb fun p q hp hpq hiq hqb => ?_
    rw [hd p hp (by omega), hd q (by omega) hqb]; exact hpq
  rw [e]
  have hh := insertionSort_holds (lexB_swo h) d a b hab hb
  exact ⟨hh.1, hh.2, permIn_all d _ a b (fun x => a ≤ x.2 ∧ x.2 < b) hb hh.1 (fun p hp hpb => by rw [hd p hp hpb]; exact ⟨hp, hpb⟩)⟩

theorem Seg.other {lt : α → α → Bool} {a b x y : Nat} {d d' : Array (α × Nat)} (h : Seg lt x y d) (hP : PermIn a b d d') (ho : y ≤ a ∨ b ≤ x) : Seg lt x y d' := by
  have e : ∀ p, x ≤ p → p < y → d'[p]! = d[p]! := fun p hp hpy => hP.2.1 p (by omega)
  exact ⟨fun i j hi hij hj => by rw [e i hi (by omega), e j (by omega) hj]; exact h.up i j hi hij hj, fun p hp hpy => by rw [e p hp hpy]; exact h.own p hp hpy⟩

/-- What a merge says: in order, and the same things. -/
structure Merged (lt : α → α → Bool) (a b : Nat) (d d' : Array (α × Nat)) : Prop where
  perm : PermIn a b d d'
  up : SortedIn (lexB lt) a b d'

/-- What a merge asks: both parts in order, and what lies left lay left. -/
structure Mergeable (lt : α → α → Bool) (a m b : Nat) (d : Array (α × Nat)) : Prop where
  left : SortedIn (lexB lt) a m d
  right : SortedIn (lexB lt) m b d
  across : ∀ p q, a ≤ p → p < m → m ≤ q → q < b → (d[p]!).2 < (d[q]!).2

theorem Seg.mergeable {lt : α → α → Bool} {a m b : Nat} {d : Array (α × Nat)} (h : Seg lt a m d) (h' : Seg lt m b d) : Mergeable lt a m b d :=
  ⟨h.up, h'.up, fun p q hp hpm hq hqb => by have := h.own p hp hpm; have := h'.own q hq hqb; omega⟩

theorem Seg.merged {lt : α → α → Bool} {a m b : Nat} {d d' : Array (α × Nat)} (h : Seg lt a m d) (h' : Seg lt m b d) (ham : a ≤ m) (hmb : m ≤ b) (hb : b ≤ d.size) (hM : Merged lt a b d d') : Seg lt a b d' :=
  ⟨hM.up, permIn_all d d' a b (fun x => a ≤ x.2 ∧ x.2 < b) hb hM.perm fun p hp hpb => by
    by_cases hpm : p < m
    · have := h.own p hp hpm; omega
    · have := h'.own p (by omega) hpb; omega⟩

/-- Within what may be merged the plain test between right and left is the strict one. -/
theorem Mergeable.test {lt : α → α → Bool} {a m b : Nat} {d : Array (α × Nat)} (h : Mergeable lt a m b d) {p q : Nat} (hp : a ≤ p) (hpm : p < m) (hq : m ≤ q) (hqb : q < b) :
    lexB lt d[q]! d[p]! = lt (d[q]!).1 (d[p]!).1 := lexB_fst (h.across p q hp hpm hq hqb)

omit [Inhabited α] in
/-- Of two that lay apart one is less. -/
theorem lexB_total {lt : α → α → Bool} {x y : α × Nat} (hne : x.2 ≠ y.2) (h : lexB lt x y = false) : lexB lt y x = true := by
  rw [lexB_false] at h
  rw [lexB_true]
  rcases h with ⟨h1, h2 | h2⟩
  · exact Or.inl h2
  · cases e : lt y.1 x.1
    · exact Or.inr ⟨h1, by omega⟩
    · exact Or.inl rfl

/-! ### A rotation -/
/-- d' is d with [a, m) and [m, b) changed about. -/
structure Rotated (a m b : Nat) (d d' : Array α) : Prop where
  perm : PermIn a b d d'
  first : ∀ t, t < b - m → d'[a + t]! = d[m + t]!
  last : ∀ t, t < m - a → d'[a + (b - m) + t]! = d[a + t]!

/-- Two runs of n changed with each other. -/
structure Changed (lo hi a b n : Nat) (d d' : Array α) : Prop where
  perm : PermIn lo hi d d'
  fst : ∀ t, t < n → d'[a + t]! = d[b + t]!
  snd : ∀ t, t < n → d'[b + t]! = d[a + t]!
  rest : ∀ p, (p < a ∨ a + n ≤ p) → (p < b ∨ b + n ≤ p) → d'[p]! = d[p]!

theorem Changed.start (lo hi a b : Nat) (d : Array α) : Changed lo hi a b 0 d d := ⟨permIn_refl _ _ _, fun _ h => by omega, fun _ h => by omega, fun _ _ _ => rfl⟩

theorem Changed.step {lo hi a b n : Nat} {d d' : Array α} (h : Changed lo hi a b n d d') (ha : lo ≤ a) (hab : a + n < b) (hb : b + n < hi) (hh : hi ≤ d.size) : Changed lo hi a b (n + 1) d (swp d' (a + n) (b + n)) := by
  have hs : d'.size = d.size := h.perm.1
  have g := fun k => swp_get d' (show a + n < d'.size by omega) (show b + n < d'.size by omega) k
  refine ⟨permIn_trans _ _ _ _ _ h.perm (swp_permIn d' lo hi (a + n) (b + n) (by omega) (by omega) (by omega) (by omega) (by omega)), fun t ht => ?_, fun t ht => ?_, fun p hp hp' => ?_⟩
  · rw [g]
    by_cases e : t = n
    · subst e
      rw [if_neg (by omega), if_pos rfl]
      exact h.rest _ (by omega) (by omega)
    · rw [if_neg (by omega), if_neg (by omega)]
      exact h.fst t (by omega)
  · rw [g]
    by_cases e : t = n
    · subst e
      rw [if_pos rfl]
      exact h.rest _ (by omega) (by omega)
    · rw [if_neg (by omega), if_neg (by omega)]
      exact h.snd t (by omega)
  · rw [g, if_neg (by omega), if_neg (by omega)]
    exact h.rest p (by omega) (by omega)

/-- On the way: [m - i, m) and [m, m + j) are still to be changed about. -/
structure Turning (a m b i j : Nat) (d d' : Array α) : Prop where
  perm : PermIn a b d d'
  hi : a + i ≤ m
  hj : m + j ≤ b
  fin : ∀ p, a ≤ p → p < b → (p < m - i ∨ m + j ≤ p) → d'[p]! = if p < a + (b - m) then d[m + (p - a)]! else d[p - (b - m)]!
  fst : ∀ t, t < j → d'[m + t]! = if m - i + t < a + (b - m) then d[m + (m - i + t - a)]! else d[m - i + t - (b - m)]!
  snd : ∀ t, t < i → d'[m - i + t]! = if m - i + j + t < a + (b - m) then d[m + (m - i + j + t - a)]! else d[m - i + j + t - (b - m)]!

theorem Turning.start {a m b : Nat} (ham : a ≤ m) (hmb : m ≤ b) (d : Array α) : Turning a m b (m - a) (b - m) d d := by
  refine ⟨permIn_refl _ _ _, by omega, by omega, fun p h1 h2 h3 => by omega, fun t ht => ?_, fun t ht => ?_⟩
  · rw [if_pos (by omega)]; congr 1; omega
  · rw [if_neg (by omega)]; congr 1; omega

theorem Turning.more {a m b i j : Nat} {d d' d'' : Array α} (h : Turning a m b i j d d') (hij : j < i) (hC : Changed a b (m - i) m j d' d'') : Turning a m b (i - j) j d d'' := by
  have := h.hi; have := h.hj
  refine ⟨permIn_trans _ _ _ _ _ h.perm hC.perm, by omega, by omega, fun p h1 h2 h3 => ?_, fun t ht => ?_, fun t ht => ?_⟩
  · by_cases e : p < m - i
    · rw [hC.rest p (by omega) (by omega)]; exact h.fin p h1 h2 (by omega)
    · by_cases e2 : m + j ≤ p
      · rw [hC.rest p (by omega) (by omega)]; exact h.fin p h1 h2 (by omega)
      · have := hC.fst (p - (m - i)) (by omega)
        rw [show m - i + (p - (m - i)) = p by omega] at this
        rw [this, h.fst _ (by omega), show m - i + (p - (m - i)) = p by omega]
  · rw [hC.snd t ht, h.snd t (by omega), show m - (i - j) + t = m - i + j + t by omega]
  · rw [hC.rest _ (by omega) (by omega), show m - (i - j) + t = m - i + (j + t) by omega, h.snd (j + t) (by omega), show m - i + j + (j + t) = m - (i - j) + j + t by omega]

theorem Turning.less {a m b i j : Nat} {d d' d'' : Array α} (h : Turning a m b i j d d') (hij : i < j) (hC : Changed a b (m - i) (m + j - i) i d' d'') : Turning a m b i (j - i) d d'' := by
  have := h.hi; have := h.hj
  refine ⟨permIn_trans _ _ _ _ _ h.perm hC.perm, by omega, by omega, fun p h1 h2 h3 => ?_, fun t ht => ?_, fun t ht => ?_⟩
  · by_cases e : p < m - i ∨ m + j ≤ p
    · rw [hC.rest p (by omega) (by omega)]; exact h.fin p h1 h2 e
    · have := hC.snd (p - (m + j - i)) (by omega)
      rw [show m + j - i + (p - (m + j - i)) = p by omega] at this
      rw [this, h.snd _ (by omega), show m - i + j + (p - (m + j - i)) = p by omega]
  · rw [hC.rest _ (by omega) (by omega), h.fst t (by omega)]
  · rw [hC.fst t ht, show m + j - i + t = m + (j - i + t) by omega, h.fst _ (by omega), show m - i + (j - i + t) = m - i + (j - i) + t by omega]

theorem Turning.done {a m b i : Nat} {d d' d'' : Array α} (ham : a ≤ m) (hmb : m ≤ b) (h : Turning a m b i i d d') (hC : Changed a b (m - i) m i d' d'') : Rotated a m b d d'' := by
  have := h.hi; have := h.hj
  have key : ∀ p, a ≤ p → p < b → d''[p]! = if p < a + (b - m) then d[m + (p - a)]! else d[p - (b - m)]! := fun p h1 h2 => by
    by_cases e : p < m - i ∨ m + i ≤ p
    · rw [hC.rest p (by omega) (by omega)]; exact h.fin p h1 h2 e
    · by_cases e2 : p < m
      · have := hC.fst (p - (m - i)) (by omega)
        rw [show m - i + (p - (m - i)) = p by omega] at this
        rw [this, h.fst _ (by omega), show m - i + (p - (m - i)) = p by omega]
      · have := hC.snd (p - m) (by omega)
        rw [show m + (p - m) = p by omega] at this
        rw [this, h.snd _ (by omega), show m - i + i + (p - m) = p by omega]
  refine ⟨permIn_trans _ _ _ _ _ h.perm hC.perm, fun t ht => ?_, fun t ht => ?_⟩
  · rw [key _ (by omega) (by omega), if_pos (by omega)]; congr 1; omega
  · rw [key _ (by omega) (by omega), if_neg (by omega)]; congr 1; omega
end Go.Proofs.YtfclmbneimbmnaaDoor

/- Go's merge in place (symMerge), in plain Lean: the searches, the shifts, the two halves. And the passes over blocks. No model in this text. -/
import Derived.Test.YtfclmbneimbmnaaDoorStM
namespace Go.Proofs.YtfclmbneimbmnaaDoor
open Go.Sort
variable {α : Type} [Inhabited α] {lt : α → α → Bool}

theorem up_le (h : SWO lt) {a b : Nat} {d : Array α} (hs : SortedIn lt a b d) {p q : Nat} (hp : a ≤ p) (hpq : p ≤ q) (hq : q < b) : lt d[q]! d[p]! = false := by
  by_cases e : p = q
  · subst e; exact h.irrefl _
  · exact hs p q hp (by omega) hq

/-! ### One on the left -/
/-- On the way: all right ones below lo are less than the left one, none from hi on is. -/
structure Srch1 (lt : α → α → Bool) (a m b lo hi : Nat) (d : Array (α × Nat)) : Prop where
  h1 : m ≤ lo
  h2 : lo ≤ hi
  h3 : hi ≤ b
  low : ∀ q, m ≤ q → q < lo → lexB lt d[q]! d[a]! = true
  high : ∀ q, hi ≤ q → q < b → lexB lt d[q]! d[a]! = false

theorem Srch1.start (a m b : Nat) (d : Array (α × Nat)) (h : m ≤ b) : Srch1 lt a m b m b d :=
  ⟨Nat.le_refl _, h, Nat.le_refl _, fun _ _ _ => by omega, fun _ _ _ => by omega⟩

theorem Srch1.yes (h : SWO lt) {a m b lo hi c : Nat} {d : Array (α × Nat)} (hM : Mergeable lt a m b d) (hS : Srch1 lt a m b lo hi d) (hc : lo ≤ c) (hc' : c < hi) (ht : lexB lt d[c]! d[a]! = true) : Srch1 lt a m b (c + 1) hi d := by
  have := hS.h1; have := hS.h3
  refine ⟨by omega, by omega, by omega, fun q hq hqc => ?_, hS.high⟩
  cases e : lexB lt d[q]! d[a]!
  · have h1 := up_le (lexB_swo h) hM.right hq (show q ≤ c by omega) (by omega)
    rw [(lexB_swo h).ntrans _ _ _ h1 e] at ht; cases ht
  · rfl

theorem Srch1.no (h : SWO lt) {a m b lo hi c : Nat} {d : Array (α × Nat)} (hM : Mergeable lt a m b d) (hS : Srch1 lt a m b lo hi d) (hc : lo ≤ c) (hc' : c < hi) (ht : lexB lt d[c]! d[a]! = false) : Srch1 lt a m b lo c d := by
  have := hS.h1; have := hS.h3
  exact ⟨hS.h1, hc, by omega, hS.low, fun q hq hqb => (lexB_swo h).ntrans _ _ _ (up_le (lexB_swo h) hM.right (by omega) hq hqb) ht⟩

/-- [a + 1, k] moved down by one, what lay at a lies at k. -/
structure ShUp (a b k : Nat) (d d' : Array α) : Prop where
  perm : PermIn a b d d'
  mov : ∀ p, a ≤ p → p < k → d'[p]! = d[p + 1]!
  at_ : d'[k]! = d[a]!
  rest : ∀ p, (p < a ∨ k < p) → d'[p]! = d[p]!

theorem ShUp.start (a b : Nat) (d : Array α) : ShUp a b a d d := ⟨permIn_refl _ _ _, fun _ _ _ => by omega, rfl, fun _ _ => rfl⟩

theorem ShUp.step {a b k : Nat} {d d' : Array α} (h : ShUp a b k d d') (ha : a ≤ k) (hk : k + 1 < b) (hb : b ≤ d.size) : ShUp a b (k + 1) d (swp d' k (k + 1)) := by
  have hs : d'.size = d.size := h.perm.1
  have g := fun t => swp_get d' (show k < d'.size by omega) (show k + 1 < d'.size by omega) t
  refine ⟨permIn_trans _ _ _ _ _ h.perm (swp_permIn d' a b k (k + 1) (by omega) (by omega) (by omega) (by omega) (by omega)), fun p hp hpk => ?_, ?_, fun p hp => ?_⟩
  · rw [g, if_neg (by omega)]
    by_cases e : p = k
    · subst e; rw [if_pos rfl]; exact h.rest _ (by omega)
    · rw [if_neg e]; exact h.mov p hp (by omega)
  · rw [g, if_pos rfl]; exact h.at_
  · rw [g, if_neg (by omega), if_neg (by omega)]; exact h.rest p (by omega)

theorem merged_one (h : SWO lt) {a b i : Nat} {d X : Array (α × Nat)} (hM : Mergeable lt a (a + 1) b d) (hS : Srch1 lt a (a + 1) b i i d) (hX : ShUp a b (i - 1) d X) : Merged lt a b d X := by
  have := hS.h1; have := hS.h3
  refine ⟨hX.perm, fun p q hp hpq hq => ?_⟩
  by_cases e1 : q < i - 1
  · rw [hX.mov p hp (by omega), hX.mov q (by omega) e1]
    exact hM.right _ _ (by omega) (by omega) (by omega)
  · by_cases e2 : q = i - 1
    · rw [hX.mov p hp (by omega), e2, hX.at_]
      exact asymm' (lexB_swo h) (hS.low _ (by omega) (by omega))
    · rw [hX.rest q (by omega)]
      by_cases e3 : p = i - 1
      · rw [e3, hX.at_]; exact hS.high q (by omega) hq
      · by_cases e4 : p < i - 1
        · rw [hX.mov p hp e4]; exact hM.right _ _ (by omega) (by omega) hq
        · rw [hX.rest p (by omega)]; exact hM.right _ _ (by omega) hpq hq

/-! ### One on the right -/
structure Srch2 (lt : α → α → Bool) (a m lo hi : Nat) (d : Array (α × Nat)) : Prop where
  h1 : a ≤ lo
  h2 : lo ≤ hi
  h3 : hi ≤ m
  low : ∀ p, a ≤ p → p < lo → lexB lt d[m]! d[p]! = false
  high : ∀ p, hi ≤ p → p < m → lexB lt d[m]! d[p]! = true

theorem Srch2.start (a m : Nat) (d : Array (α × Nat)) (h : a ≤ m) : Srch2 lt a m a m d :=
  ⟨Nat.le_refl _, h, Nat.le_refl _, fun _ _ _ => by omega, fun _ _ _ => by omega⟩

theorem Srch2.yes (h : SWO lt) {a m b lo hi c : Nat} {d : Array (α × Nat)} (hM : Mergeable lt a m b d) (hS : Srch2 lt a m lo hi d) (hc : lo ≤ c) (hc' : c < hi) (ht : lexB lt d[m]! d[c]! = false) : Srch2 lt a m (c + 1) hi d := by
  have := hS.h1; have := hS.h3
  exact ⟨by omega, by omega, by omega, fun p hp hpc => (lexB_swo h).ntrans _ _ _ ht (up_le (lexB_swo h) hM.left hp (by omega) (by omega)), hS.high⟩

theorem Srch2.no (h : SWO lt) {a m b lo hi c : Nat} {d : Array (α × Nat)} (hM : Mergeable lt a m b d) (hS : Srch2 lt a m lo hi d) (hc : lo ≤ c) (hc' : c < hi) (ht : lexB lt d[m]! d[c]! = true) : Srch2 lt a m lo c d := by
  have := hS.h1; have := hS.h3
  refine ⟨hS.h1, hc, by omega, hS.low, fun p hp hpm => ?_⟩
  cases e : lexB lt d[m]! d[p]!
  · rw [(lexB_swo h).ntrans _ _ _ e (up_le (lexB_swo h) hM.left (by omega) hp hpm)] at ht; cases ht
  · rfl

/-- [k, m - 1] moved up by one, what lay at m lies at k. -/
structure ShDn (a b m k : Nat) (d d' : Array α) : Prop where
  perm : PermIn a b d d'
  mov : ∀ p, k < p → p ≤ m → d'[p]! = d[p - 1]!
  at_ : d'[k]! = d[m]!
  rest : ∀ p, (p < k ∨ m < p) → d'[p]! = d[p]!

theorem ShDn.start (a b m : Nat) (d : Array α) : ShDn a b m m d d := ⟨permIn_refl _ _ _, fun _ _ _ => by omega, rfl, fun _ _ => rfl⟩

theorem ShDn.step {a b m k : Nat} {d d' : Array α} (h : ShDn a b m (k + 1) d d') (ha : a ≤ k) (hk : k + 1 ≤ m) (hm : m < b) (hb : b ≤ d.size) : ShDn a b m k d (swp d' (k + 1) k) := by
  have hs : d'.size = d.size := h.perm.1
  have g := fun t => swp_get d' (show k + 1 < d'.size by omega) (show k < d'.size by omega) t
  refine ⟨permIn_trans _ _ _ _ _ h.perm (swp_permIn d' a b (k + 1) k (by omega) (by omega) (by omega) (by omega) (by omega)), fun p hp hpk => ?_, ?_, fun p hp => ?_⟩
  · rw [g, if_neg (by omega)]
    by_cases e : p = k + 1
    · subst e; rw [if_pos rfl]; exact h.rest _ (by omega)
    · rw [if_neg e]; exact h.mov p (by omega) hpk
  · rw [g, if_pos rfl]; exact h.at_
  · rw [g, if_neg (by omega), if_neg (by omega)]; exact h.rest p (by omega)

theorem merged_last (h : SWO lt) {a m i : Nat} {d X : Array (α × Nat)} (hM : Mergeable lt a m (m + 1) d) (hS : Srch2 lt a m i i d) (hX : ShDn a (m + 1) m i d X) : Merged lt a (m + 1) d X := by
  have := hS.h1; have := hS.h3
  refine ⟨hX.perm, fun p q hp hpq hq => ?_⟩
  by_cases e1 : q < i
  · rw [hX.rest p (by omega), hX.rest q (by omega)]; exact hM.left _ _ hp hpq (by omega)
  · by_cases e2 : q = i
    · rw [e2, hX.at_, hX.rest p (by omega)]; exact hS.low p hp (by omega)
    · rw [hX.mov q (by omega) (by omega)]
      by_cases e3 : p = i
      · rw [e3, hX.at_]; exact asymm' (lexB_swo h) (hS.high _ (by omega) (by omega))
      · by_cases e4 : p < i
        · rw [hX.rest p (by omega)]; exact hM.left _ _ hp (by omega) (by omega)
        · rw [hX.mov p (by omega) (by omega)]; exact hM.left _ _ (by omega) (by omega) (by omega)

/-! ### More on both sides -/
/-- The search for where the halves are parted: of c and n - 1 - c. -/
structure Srch3 (lt : α → α → Bool) (n s0 r0 lo hi : Nat) (d : Array (α × Nat)) : Prop where
  h1 : s0 ≤ lo
  h2 : lo ≤ hi
  h3 : hi ≤ r0
  low : ∀ c, s0 ≤ c → c < lo → lexB lt d[n - 1 - c]! d[c]! = false
  high : ∀ c, hi ≤ c → c < r0 → lexB lt d[n - 1 - c]! d[c]! = true

/-- What the search may lean on. -/
structure Frame3 (a m b mid s0 r0 : Nat) : Prop where
  am : a < m
  mb : m < b
  mid1 : mid + mid ≤ a + b
  mid2 : a + b ≤ mid + mid + 1
  case_ : (mid < m ∧ s0 + b = mid + m ∧ r0 = mid) ∨ (m ≤ mid ∧ s0 = a ∧ r0 = m)

theorem Srch3.start {a m b mid s0 r0 : Nat} (F : Frame3 a m b mid s0 r0) (d : Array (α × Nat)) : Srch3 lt (mid + m) s0 r0 s0 r0 d := by
  obtain ⟨h1, h2, h3, h4, h5⟩ := F
  exact ⟨Nat.le_refl _, by omega, Nat.le_refl _, fun _ _ _ => by omega, fun _ _ _ => by omega⟩

theorem Srch3.yes (h : SWO lt) {a m b mid s0 r0 lo hi c : Nat} {d : Array (α × Nat)} (F : Frame3 a m b mid s0 r0) (hM : Mergeable lt a m b d) (hS : Srch3 lt (mid + m) s0 r0 lo hi d) (hc : lo ≤ c) (hc' : c < hi) (ht : lexB lt d[mid + m - 1 - c]! d[c]! = false) : Srch3 lt (mid + m) s0 r0 (c + 1) hi d := by
  obtain ⟨f1, f2, f3, f4, f5⟩ := F
  have := hS.h1; have := hS.h3
  refine ⟨by omega, by omega, by omega, fun x hx hxc => ?_, hS.high⟩
  have L := lexB_swo h
  refine L.ntrans _ _ _ (L.ntrans _ _ _ (up_le L hM.right (show m ≤ mid + m - 1 - c by omega) (show mid + m - 1 - c ≤ mid + m - 1 - x by omega) (by omega)) ht) (up_le L hM.left (show a ≤ x by omega) (by omega) (by omega))

theorem Srch3.no (h : SWO lt) {a m b mid s0 r0 lo hi c : Nat} {d : Array (α × Nat)} (F : Frame3 a m b mid s0 r0) (hM : Mergeable lt a m b d) (hS : Srch3 lt (mid + m) s0 r0 lo hi d) (hc : lo ≤ c) (hc' : c < hi) (ht : lexB lt d[mid + m - 1 - c]! d[c]! = true) : Srch3 lt (mid + m) s0 r0 lo c d := by
  obtain ⟨f1, f2, f3, f4, f5⟩ := F
  have := hS.h1; have := hS.h3
  refine ⟨hS.h1, hc, by omega, hS.low, fun x hx hxr => ?_⟩
  have L := lexB_swo h
  cases e : lexB lt d[mid + m - 1 - x]! d[x]!
  · rw [L.ntrans _ _ _ (L.ntrans _ _ _ (up_le L hM.right (show m ≤ mid + m - 1 - x by omega) (show mid + m - 1 - x ≤ mid + m - 1 - c by omega) (by omega)) e) (up_le L hM.left (show a ≤ c by omega) (by omega) (by omega))] at ht
    cases ht
  · rfl

/-- What has been changed about: two merges that are left, and the halves parted. -/
structure Halves (lt : α → α → Bool) (a s mid e b : Nat) (d1 : Array (α × Nat)) : Prop where
  fst : Mergeable lt a s mid d1
  snd : Mergeable lt mid e b d1
  part : ∀ p q, a ≤ p → p < mid → mid ≤ q → q < b → lexB lt d1[q]! d1[p]! = false

theorem rotated_none {a m b : Nat} (h : m ≤ a ∨ b ≤ m) (ham : a ≤ m) (hmb : m ≤ b) (d : Array α) : Rotated a m b d d := by
  refine ⟨permIn_refl _ _ _, fun t ht => ?_, fun t ht => ?_⟩
  · rw [show a = m by omega]
  · rw [show a + (b - m) + t = a + t by omega]

theorem halves (h : SWO lt) {a m b mid s0 r0 s e : Nat} {d d1 : Array (α × Nat)} (F : Frame3 a m b mid s0 r0) (hM : Mergeable lt a m b d) (hS : Srch3 lt (mid + m) s0 r0 s s d) (he : s + e = mid + m) (hR : Rotated s m e d d1) : Halves lt a s mid e b d1 := by
  obtain ⟨f1, f2, f3, f4, f5⟩ := F
  have := hS.h1; have := hS.h3
  have L := lexB_swo h
  have o1 : ∀ p, p < s → d1[p]! = d[p]! := fun p hp => hR.perm.2.1 p (Or.inl hp)
  have o2 : ∀ p, e ≤ p → d1[p]! = d[p]! := fun p hp => hR.perm.2.1 p (Or.inr hp)
  have i1 : ∀ p, s ≤ p → p < mid → d1[p]! = d[m + (p - s)]! := fun p hp hpm => by
    have := hR.first (p - s) (by omega); rwa [show s + (p - s) = p by omega] at this
  have i2 : ∀ p, mid ≤ p → p < e → d1[p]! = d[s + (p - mid)]! := fun p hp hpm => by
    have := hR.last (p - mid) (by omega); rwa [show s + (e - m) + (p - mid) = p by omega] at this
  refine ⟨⟨fun p q hp hpq hq => ?_, fun p q hp hpq hq => ?_, fun p q hp hps hq hqm => ?_⟩, ⟨fun p q hp hpq hq => ?_, fun p q hp hpq hq => ?_, fun p q hp hps hq hqm => ?_⟩, fun p q hp hpm hq hqb => ?_⟩
  · rw [o1 p (by omega), o1 q hq]; exact hM.left p q hp hpq (by omega)
  · rw [i1 p hp (by omega), i1 q (by omega) hq]; exact hM.right _ _ (by omega) (by omega) (by omega)
  · rw [o1 p hps, i1 q hq hqm]; exact hM.across _ _ hp (by omega) (by omega) (by omega)
  · rw [i2 p hp (by omega), i2 q (by omega) hq]; exact hM.left _ _ (by omega) (by omega) (by omega)
  · rw [o2 p hp, o2 q (by omega)]; exact hM.right _ _ (by omega) hpq hq
  · rw [i2 p hp hps, o2 q hq]; exact hM.across _ _ (by omega) (by omega) (by omega) hqm
  · by_cases e1 : p < s
    · rw [o1 p e1]
      by_cases e2 : q < e
      · rw [i2 q hq e2]; exact hM.left _ _ hp (by omega) (by omega)
      · rw [o2 q (by omega)]
        have hs : s0 < s := by omega
        have hl := hS.low (s - 1) (by omega) (by omega)
        rw [show mid + m - 1 - (s - 1) = e by omega] at hl
        exact L.ntrans _ _ _ (L.ntrans _ _ _ (up_le L hM.right (show m ≤ e by omega) (by omega) hqb) hl) (up_le L hM.left hp (show p ≤ s - 1 by omega) (by omega))
    · rw [i1 p (by omega) hpm]
      by_cases e2 : q < e
      · rw [i2 q hq e2]
        have hl := asymm' L (hS.high s (Nat.le_refl _) (by omega))
        rw [show mid + m - 1 - s = e - 1 by omega] at hl
        exact L.ntrans _ _ _ (L.ntrans _ _ _ (up_le L hM.left (show a ≤ s by omega) (show s ≤ s + (q - mid) by omega) (by omega)) hl) (up_le L hM.right (show m ≤ m + (p - s) by omega) (show m + (p - s) ≤ e - 1 by omega) (by omega))
      · rw [o2 q (by omega)]; exact hM.right _ _ (by omega) (by omega) hqb

/-- Where one side is empty nothing is left to be merged. -/
theorem Mergeable.empty {a m b : Nat} {d : Array (α × Nat)} (h : Mergeable lt a m b d) (he : m ≤ a ∨ b ≤ m) (ham : a ≤ m) (hmb : m ≤ b) : Merged lt a b d d := by
  refine ⟨permIn_refl _ _ _, fun p q hp hpq hq => ?_⟩
  rcases he with he | he
  · exact h.right p q (by omega) hpq hq
  · exact h.left p q hp hpq (by omega)

theorem Mergeable.other {a m b x y : Nat} {d d' : Array (α × Nat)} (h : Mergeable lt a m b d) (hP : PermIn x y d d') (ham : a ≤ m) (ho : y ≤ a) : Mergeable lt a m b d' := by
  have e : ∀ p, a ≤ p → d'[p]! = d[p]! := fun p hp => hP.2.1 p (Or.inr (by omega))
  refine ⟨fun p q hp hpq hq => ?_, fun p q hp hpq hq => ?_, fun p q hp hpm hq hqb => ?_⟩
  · rw [e p hp, e q (by omega)]; exact h.left p q hp hpq hq
  · rw [e p (by omega), e q (by omega)]; exact h.right p q hp hpq hq
  · rw [e p hp, e q (by omega)]; exact h.across p q hp hpm hq hqb

theorem merged_halves {a s mid e b : Nat} {d d1 X1 X2 : Array (α × Nat)} (ham : a ≤ mid) (hmb : mid ≤ b) (hb : b ≤ d.size) (hP : PermIn a b d d1) (hH : Halves lt a s mid e b d1) (h1 : Merged lt a mid d1 X1) (h2 : Merged lt mid b X1 X2) : Merged lt a b d X2 := by
  have s1 : d1.size = d.size := hP.1
  have s2 : X1.size = d1.size := h1.perm.1
  have p1 : PermIn a b d1 X1 := permIn_mono d1 X1 a mid a b (Nat.le_refl _) hmb (by omega) h1.perm
  have p2 : PermIn a b X1 X2 := permIn_mono X1 X2 mid b a b ham (Nat.le_refl _) (by omega) h2.perm
  refine ⟨permIn_trans _ _ _ _ _ (permIn_trans _ _ _ _ _ hP p1) p2, fun p q hp hpq hq => ?_⟩
  by_cases e1 : q < mid
  · rw [h2.perm.2.1 p (Or.inl (by omega)), h2.perm.2.1 q (Or.inl e1)]; exact h1.up p q hp hpq e1
  · by_cases e2 : p < mid
    · rw [h2.perm.2.1 p (Or.inl e2)]
      refine permIn_all X1 X2 mid b (fun y => lexB lt y X1[p]! = false) (by omega) h2.perm (fun t ht htb => ?_) q (by omega) hq
      rw [h1.perm.2.1 t (Or.inr ht)]
      exact permIn_all d1 X1 a mid (fun x => lexB lt d1[t]! x = false) (by omega) h1.perm (fun u hu hum => hH.part u t hu hum ht htb) p hp e2
    · exact h2.up p q (by omega) hpq hq
end Go.Proofs.YtfclmbneimbmnaaDoor

/- The passes over blocks, in plain Lean. -/
import Derived.Test.YtfclmbneimbmnaaDoorStJ
namespace Go.Proofs.YtfclmbneimbmnaaDoor
open Go.Sort
variable {α : Type} [Inhabited α] {lt : α → α → Bool}

theorem dvd_next {t x a : Nat} (hx : t ∣ x) (ha : t ∣ a) (h : x < a) : x + t ≤ a := by
  obtain ⟨i, rfl⟩ := hx
  obtain ⟨j, rfl⟩ := ha
  have hij : i < j := Nat.lt_of_mul_lt_mul_left h
  have := Nat.mul_le_mul_left t (show i + 1 ≤ j from hij)
  rwa [Nat.mul_add, Nat.mul_one] at this

/-- All blocks of s in order. -/
def Blk (lt : α → α → Bool) (s n : Nat) (d : Array (α × Nat)) : Prop := ∀ x, s ∣ x → x < n → Seg lt x (min (x + s) n) d

/-- The first pass, up to a. -/
structure First (lt : α → α → Bool) (s a n : Nat) (d0 d : Array (α × Nat)) : Prop where
  lo : ∀ x, s ∣ x → x < a → Seg lt x (x + s) d
  hi : ∀ p, a ≤ p → p < n → (d[p]!).2 = p
  dv : s ∣ a
  an : a ≤ n
  perm : PermIn 0 n d0 d

theorem First.start {s n : Nat} {d : Array (α × Nat)} (h : ∀ p, p < n → (d[p]!).2 = p) : First lt s 0 n d d :=
  ⟨fun _ _ h => by omega, fun p _ hp => h p hp, ⟨0, rfl⟩, Nat.zero_le _, permIn_refl _ _ _⟩

theorem First.step {s a n : Nat} {d0 d d' : Array (α × Nat)} (h : First lt s a n d0 d) (ha : a + s ≤ n) (hn : n ≤ d.size) (hP : PermIn a (a + s) d d') (hS : Seg lt a (a + s) d') : First lt s (a + s) n d0 d' := by
  refine ⟨fun x hx hxa => ?_, fun p hp hpn => ?_, Nat.dvd_add h.dv (Nat.dvd_refl _), ha, permIn_trans _ _ _ _ _ h.perm (permIn_mono d d' a (a + s) 0 n (Nat.zero_le _) ha hn hP)⟩
  · by_cases e : x < a
    · exact (h.lo x hx e).other hP (Or.inl (dvd_next hx h.dv e))
    · by_cases e2 : x = a
      · subst e2; exact hS
      · have := dvd_next h.dv hx (by omega); omega
  · rw [hP.2.1 p (Or.inr hp)]; exact h.hi p (by omega) hpn

theorem First.done {s a n : Nat} {d0 d d' : Array (α × Nat)} (h : First lt s a n d0 d) (ha : n < a + s) (hP : PermIn a n d d') (hS : Seg lt a n d') : Blk lt s n d' := by
  have han := h.an
  intro x hx hxn
  by_cases e : x < a
  · have hle := dvd_next hx h.dv e
    rw [show min (x + s) n = x + s by omega]
    exact (h.lo x hx e).other hP (Or.inl hle)
  · by_cases e2 : x = a
    · subst e2; rw [show min (x + s) n = n by omega]; exact hS
    · have := dvd_next h.dv hx (by omega); omega

/-- A later pass, up to a: blocks of s become blocks of t = 2 s. -/
structure Half (lt : α → α → Bool) (s t a n : Nat) (d : Array (α × Nat)) : Prop where
  lo : ∀ x, t ∣ x → x < a → Seg lt x (x + t) d
  hi : ∀ x, s ∣ x → a ≤ x → x < n → Seg lt x (min (x + s) n) d
  dv : t ∣ a
  an : a ≤ n

theorem Half.start {s t n : Nat} {d : Array (α × Nat)} (h : Blk lt s n d) : Half lt s t 0 n d :=
  ⟨fun _ _ h => by omega, fun x hx _ hn => h x hx hn, ⟨0, rfl⟩, Nat.zero_le _⟩

theorem Half.sdv {s t a n : Nat} {d : Array (α × Nat)} (h : Half lt s t a n d) (ht : t = s + s) : s ∣ a :=
  Nat.dvd_trans ⟨2, by omega⟩ h.dv

theorem Half.left {s t a n : Nat} {d : Array (α × Nat)} (h : Half lt s t a n d) (ht : t = s + s) (h0 : 0 < s) (ha : a + s ≤ n) : Seg lt a (a + s) d := by
  have := h.hi a (h.sdv ht) (Nat.le_refl _) (by omega)
  rwa [show min (a + s) n = a + s by omega] at this

theorem Half.right {s t a n e : Nat} {d : Array (α × Nat)} (h : Half lt s t a n d) (ht : t = s + s) (ha : a + s < n) (he : e = min (a + t) n) : Seg lt (a + s) e d := by
  have := h.hi (a + s) (Nat.dvd_add (h.sdv ht) (Nat.dvd_refl _)) (by omega) ha
  rwa [show min (a + s + s) n = e by omega] at this

theorem Half.step {s t a n : Nat} {d d' : Array (α × Nat)} (h : Half lt s t a n d) (ht : t = s + s) (h0 : 0 < s) (ha : a + t ≤ n) (hn : n ≤ d.size) (hM : Merged lt a (a + t) d d') : Half lt s t (a + t) n d' := by
  have hS : Seg lt a (a + t) d' := (h.left ht h0 (by omega)).merged (h.right ht (by omega) (by omega)) (by omega) (by omega) (by omega) hM
  refine ⟨fun x hx hxa => ?_, fun x hx hxa hxn => (h.hi x hx (by omega) hxn).other hM.perm (Or.inr hxa), Nat.dvd_add h.dv (Nat.dvd_refl _), ha⟩
  by_cases e : x < a
  · exact (h.lo x hx e).other hM.perm (Or.inl (dvd_next hx h.dv e))
  · by_cases e2 : x = a
    · subst e2; exact hS
    · have := dvd_next h.dv hx (by omega); omega

theorem Half.last {s t a n : Nat} {d d' : Array (α × Nat)} (h : Half lt s t a n d) (ht : t = s + s) (h0 : 0 < s) (ha : n < a + t) (hm : a + s < n) (hn : n ≤ d.size) (hM : Merged lt a n d d') : Blk lt t n d' := by
  have hS : Seg lt a n d' := (h.left ht h0 (by omega)).merged (h.right ht hm (by omega)) (by omega) (by omega) (by omega) hM
  intro x hx hxn
  by_cases e : x < a
  · have hle := dvd_next hx h.dv e
    rw [show min (x + t) n = x + t by omega]
    exact (h.lo x hx e).other hM.perm (Or.inl hle)
  · by_cases e2 : x = a
    · subst e2; rw [show min (x + t) n = n by omega]; exact hS
    · have := dvd_next h.dv hx (by omega); omega

theorem Half.none {s t a n : Nat} {d : Array (α × Nat)} (h : Half lt s t a n d) (ht : t = s + s) (h0 : 0 < s) (hm : n ≤ a + s) : Blk lt t n d := by
  have han := h.an
  intro x hx hxn
  by_cases e : x < a
  · have hle := dvd_next hx h.dv e
    rw [show min (x + t) n = x + t by omega]
    exact h.lo x hx e
  · by_cases e2 : x = a
    · subst e2
      have := h.hi x (h.sdv ht) (Nat.le_refl _) hxn
      rwa [show min (x + s) n = min (x + t) n by omega] at this
    · have := dvd_next h.dv hx (by omega); omega
end Go.Proofs.YtfclmbneimbmnaaDoor

/- A ring beside the reference's row; what Next tells both ways. -/
import Derived.Test.YtfclmbneimbmnaaDoorRrD
import Derived.Deep.RegionHeld3
namespace Go.Proofs.YtfclmbneimbmnaaDoor
open Go.RowKit

/-- A ring at r and the reference's row v, of no more than n things; what a base B has below it is none of theirs. -/
structure Bo (B r b : Nat) (V : Nat → Value) (S : Nat → List Th) (M : Int → Option (Nat × Nat)) (w : World) (v : Value) (L : List Rt) : Prop where
  rn : Rn w r b V S M
  own : OR w 0 v L
  apart : ∀ g, v.ownBlock = some g → ¬ Fp V r b g
  rel : Rel S L
  base : ∀ k, Fp V r b k → B ≤ k
  size : B ≤ w.heap.size
def St (B r b n : Nat) (w : World) (v : Value) : Prop := ∃ V S M L, Bo B r b V S M w v L ∧ L.length ≤ n
theorem Bo.below {B r b : Nat} {V : Nat → Value} {S : Nat → List Th} {M : Int → Option (Nat × Nat)} {w w' : World} {v : Value} {L : List Rt} (h : Bo B r b V S M w v L) (hb : Below w.heap.size w w') : Bo B r b V S M w' v L :=
  ⟨h.rn.below hb, h.own.keep hb, h.apart, h.rel, h.base, Nat.le_trans h.size hb.size⟩
theorem Bo.st {B r b n : Nat} {V : Nat → Value} {S : Nat → List Th} {M : Int → Option (Nat × Nat)} {w : World} {v : Value} {L : List Rt} (h : Bo B r b V S M w v L) (hn : L.length ≤ n) : St B r b n w v := ⟨V, S, M, L, h, hn⟩
theorem Bo.nowhere {B r b : Nat} {V : Nat → Value} {S : Nat → List Th} {M : Int → Option (Nat × Nat)} {w : World} {v : Value} {L : List Rt} (h : Bo B r b V S M w v L) {x : Int} (hx : ∀ q ∈ L, idR q ≠ x) : M x = none :=
  h.rn.nowhere fun s hs t ht e => hx _ ((h.rel.mem hs).1 ht) e
/-- Where a thing of the row waits. -/
theorem Bo.where_ {B r b : Nat} {V : Nat → Value} {S : Nat → List Th} {M : Int → Option (Nat × Nat)} {w : World} {v : Value} {L : List Rt} (h : Bo B r b V S M w v L) {k : Nat} (hk : k < L.length) :
    ∃ s i : Nat, s < 64 ∧ (L[k]).2 = (s : Int) ∧ (S s)[i]? = some (L[k]).1 := by
  have h1 := (h.rel.ok _ (List.getElem_mem hk)).1
  obtain ⟨s, hs⟩ : ∃ s : Nat, (L[k]).2 = (s : Int) := ⟨(L[k]).2.toNat, by omega⟩
  have hm : (L[k]).1 ∈ S s := (h.rel.mem (by omega)).2 (by rw [← hs]; exact List.getElem_mem hk)
  obtain ⟨i, hi, e⟩ := List.mem_iff_getElem.1 hm
  exact ⟨s, i, by omega, hs, by rw [List.getElem?_eq_getElem hi, e]⟩

theorem first_such (P : Nat → Prop) : ∀ n, (∃ j, j < n ∧ P j) → ∃ j, j < n ∧ P j ∧ ∀ i, i < j → ¬ P i
  | 0, h => by obtain ⟨j, hj, _⟩ := h; omega
  | n + 1, h => by
    by_cases h1 : ∃ j, j < n ∧ P j
    · obtain ⟨j, hj, hp, hm⟩ := first_such P n h1
      exact ⟨j, by omega, hp, hm⟩
    · obtain ⟨j, hj, hp⟩ := h
      have : j = n := by
        by_cases e : j = n
        · exact e
        · exact absurd ⟨j, by omega, hp⟩ h1
      subst this
      exact ⟨j, by omega, hp, fun i hi hpi => h1 ⟨i, hi, hpi⟩⟩

/-- Next, both ways, tells the same. -/
theorem next_both {r b : Nat} {V : Nat → Value} {S : Nat → List Th} {M : Int → Option (Nat × Nat)} {L : List Rt} (k : Int) (w : World) (hT : Tab w) (h : Rn w r b V S M) (hr : Rel S L) :
    ∃ r1 r2 r3, (Calls Tryd.prog 67 #[.pointer (some ⟨r, 0, none⟩), .int .i64 k] w fun e w' => e = .returned (.tuple #[.int .i64 r1, .int .i64 r2, .bool r3]) ∧ w' = w) ∧
      ∀ s1 s2 s3, Nxt L (k % 64).toNat s1 s2 s3 → s1 = r1 ∧ s2 = r2 ∧ s3 = r3 := by
  obtain ⟨f, hf⟩ : ∃ f, (k % 64).toNat = f := ⟨_, rfl⟩
  have hf64 : f < 64 := by omega
  have key : ∀ i, S ((f + i) % 64) ≠ [] ↔ ∃ x ∈ L, x.2 = (((f + i) % 64 : Nat) : Int) := fun i => by
    have hm : (f + i) % 64 < 64 := Nat.mod_lt _ (by omega)
    rw [← List.length_pos_iff, List.length_pos_iff_exists_mem]
    constructor
    · rintro ⟨t, ht⟩; exact ⟨_, (hr.mem hm).1 ht, rfl⟩
    · rintro ⟨x, hx, e⟩; exact ⟨x.1, (hr.mem hm).2 (by rw [← e]; exact hx)⟩
  by_cases h0 : ∃ j, j < 64 ∧ S ((f + j) % 64) ≠ []
  · obtain ⟨j, hj, hp, hmin⟩ := first_such _ 64 h0
    refine ⟨_, _, _, rnext_some k j w hT h hj (by rw [hf]; exact hp) (fun i hi => by rw [hf]; exact Classical.not_not.1 (hmin i hi)), fun s1 s2 s3 hN => ?_⟩
    rw [hf] at hN ⊢
    rcases hN with ⟨e3, j', hj', e1, e2, hx, hm'⟩ | ⟨_, _, _, hn⟩
    · have : j' = j := by
        have a1 : ¬ j' < j := fun hl => hmin j' hl ((key j').2 hx)
        have a2 : ¬ j < j' := fun hl => by
          obtain ⟨x, hx1, hx2⟩ := (key j).1 hp
          exact hm' j hl x hx1 hx2
        omega
      subst this
      exact ⟨e1, e2, e3⟩
    · obtain ⟨x, hx1, hx2⟩ := (key j).1 hp
      exact absurd hx2 (hn j hj x hx1)
  · have hall : ∀ q, q < 64 → S q = [] := fun q hq => by
      have e : (f + (q + 64 - f) % 64) % 64 = q := by omega
      have := Classical.not_not.1 (fun hne => h0 ⟨(q + 64 - f) % 64, Nat.mod_lt _ (by omega), hne⟩)
      rw [e] at this
      exact this
    refine ⟨_, _, _, rnext_none k w h hall, fun s1 s2 s3 hN => ?_⟩
    rw [hf] at hN
    rcases hN with ⟨_, j', hj', _, _, hx, _⟩ | ⟨e1, e2, e3, _⟩
    · exact absurd ⟨j', hj', (key j').2 hx⟩ h0
    · exact ⟨e1, e2, e3⟩

end Go.Proofs.YtfclmbneimbmnaaDoor

/- Plain facts of sealed bytes: what fits, and strings of bytes. -/
import Derived.Test.YteehglaadofidaaCrcF
import Derived.Test.YteehglaadofidaaCrcG
namespace Go.Proofs.Yteehglaadofidaa
open Go.RowKit
theorem own_x (x : Nat) (hx : x < 16777216) : onN x [x / 65536, x / 256 % 256, x % 256] = 0 := by
  have h := onN_own (x / 65536) (x / 256 % 256) (x % 256) (by omega) (by omega) (by omega)
  have e : x / 65536 * 65536 + x / 256 % 256 * 256 + x % 256 = x := by omega
  exact Eq.subst (motive := fun y => onN y [x / 65536, x / 256 % 256, x % 256] = 0) e h
theorem onN_sealed (bs : List Nat) (h : ∀ c ∈ bs, c < 256) : onN 11994318 (bs ++ top bs) = 0 := by
  have hx := onN_lt bs 11994318 (by omega) h
  have := own_x _ hx
  rw [onN_append, top, this]
theorem split3 (l : List Nat) (m : Nat) (h : l.length = m + 3) : l = l.take m ++ [l.getD m 0, l.getD (m + 1) 0, l.getD (m + 2) 0] := by
  have d0 := List.drop_eq_getElem_cons (l := l) (i := m) (by omega)
  have d1 := List.drop_eq_getElem_cons (l := l) (i := m + 1) (by omega)
  have d2 := List.drop_eq_getElem_cons (l := l) (i := m + 2) (by omega)
  have d3 : l.drop (m + 2 + 1) = [] := List.drop_eq_nil_of_le (by omega)
  have g : ∀ i (hi : i < l.length), l.getD i 0 = l[i] := fun i hi => by simp [hi]
  rw [g m (by omega), g (m + 1) (by omega), g (m + 2) (by omega), ← d3, ← d2, ← d1, ← d0, List.take_append_drop]
/-- A row of bytes behind which the register isn't 0 is not opened. -/
theorem not_fits (l : List Nat) (m : Nat) (h : l.length = m + 3) (hl : ∀ c ∈ l, c < 256) (h0 : onN 11994318 l ≠ 0) :
    onN 11994318 (l.take m) ≠ l.getD m 0 * 65536 + l.getD (m + 1) 0 * 256 + l.getD (m + 2) 0 := by
  intro e
  apply h0
  have hb : ∀ i, i < l.length → l.getD i 0 < 256 := fun i hi => hl _ (by simp [hi])
  rw [split3 l m h, onN_append, e]
  exact onN_own _ _ _ (hb _ (by omega)) (hb _ (by omega)) (hb _ (by omega))

theorem str_list (a : List Nat) : (str a).toList = a.map UInt8.ofNat := by
  rw [ByteArray.toList_eq]; rfl
theorem ofNat_inj : ∀ (a b : List Nat), (∀ c ∈ a, c < 256) → (∀ c ∈ b, c < 256) → a.map UInt8.ofNat = b.map UInt8.ofNat → a = b
  | [], [], _, _, _ => rfl
  | [], _ :: _, _, _, h => by simp at h
  | _ :: _, [], _, _, h => by simp at h
  | x :: a, y :: b, ha, hb, h => by
    simp only [List.map_cons, List.cons.injEq] at h
    have h1 := congrArg UInt8.toNat h.1
    have hx := ha x (by simp)
    have hy := hb y (by simp)
    rw [UInt8.toNat_ofNat', UInt8.toNat_ofNat'] at h1
    have hxy : x = y := by omega
    rw [hxy, ofNat_inj a b (fun c hc => ha c (by simp [hc])) (fun c hc => hb c (by simp [hc])) h.2]
theorem str_ne {a b : List Nat} (ha : ∀ c ∈ a, c < 256) (hb : ∀ c ∈ b, c < 256) (h : a ≠ b) : ((str a).toList == (str b).toList) = false := by
  rw [str_list, str_list]
  simpa using fun e => h (ofNat_inj a b ha hb e)
theorem fits_iff (bs : List Nat) (m : Nat) (hl : bs.length = m + 3) (hb : ∀ c ∈ bs, c < 256) :
    onN 11994318 (bs.take m) = bs.getD m 0 * 65536 + bs.getD (m + 1) 0 * 256 + bs.getD (m + 2) 0 ↔ bs.take m ++ top (bs.take m) = bs := by
  have hbi : ∀ i, i < bs.length → bs.getD i 0 < 256 := fun i hi => hb _ (by simp [hi])
  have h0 := hbi m (by omega)
  have h1 := hbi (m + 1) (by omega)
  have h2 := hbi (m + 2) (by omega)
  constructor
  · intro e
    have hs := split3 bs m hl
    have ht : top (bs.take m) = [bs.getD m 0, bs.getD (m + 1) 0, bs.getD (m + 2) 0] := by
      unfold top
      rw [e]
      generalize bs.getD m 0 = x0 at *
      generalize bs.getD (m + 1) 0 = x1 at *
      generalize bs.getD (m + 2) 0 = x2 at *
      have e0 : (x0 * 65536 + x1 * 256 + x2) / 65536 = x0 := by omega
      have e1 : (x0 * 65536 + x1 * 256 + x2) / 256 % 256 = x1 := by omega
      have e2 : (x0 * 65536 + x1 * 256 + x2) % 256 = x2 := by omega
      rw [e0, e1, e2]
    rw [ht]; exact hs.symm
  · intro e
    have hlt : (bs.take m).length = m := by simp; omega
    have := top_fits (bs.take m)
    rw [hlt, e] at this
    exact this
end Go.Proofs.Yteehglaadofidaa

/- What is read as a number is its own encoding. -/
import Derived.Test.YtnhaakdjijjinaaQa2
namespace Go.Proofs.Ytnhaakdjijjinaa

theorem val_cons (c : Nat) (l : List Nat) : val (c :: l) = c * 2 ^ (8 * l.length) + val l := by
  have key : ∀ (l : List Nat) (a : Nat), l.foldl (fun n c => n * 256 + c) a = a * 2 ^ (8 * l.length) + l.foldl (fun n c => n * 256 + c) 0 := by
    intro l
    induction l with
    | nil => intro a; simp
    | cons d l ih =>
      intro a
      rw [List.foldl_cons, List.foldl_cons, ih (a * 256 + d), ih (0 * 256 + d), List.length_cons, Nat.mul_add, Nat.pow_add]
      generalize 2 ^ (8 * l.length) = p
      have e : (2 : Nat) ^ (8 * 1) = 256 := rfl
      rw [e, Nat.zero_mul, Nat.zero_add, Nat.add_mul, Nat.mul_assoc, Nat.mul_comm 256 p, Nat.add_assoc]
  unfold val
  rw [List.foldl_cons, key l (0 * 256 + c), Nat.zero_mul, Nat.zero_add]
theorem val_lt (l : List Nat) (h : ∀ c ∈ l, c < 256) : val l < 2 ^ (8 * l.length) := by
  have := val_take_lt l h l.length (Nat.le_refl _)
  rwa [List.take_length] at this
theorem enc_mod (j a b : Nat) : enc j (a * 2 ^ (8 * j) + b) = enc j b := by
  induction j generalizing a b with
  | zero => rfl
  | succ j ih =>
    have e : a * 2 ^ (8 * (j + 1)) = a * 256 * 2 ^ (8 * j) := by
      rw [Nat.mul_add, Nat.pow_add, Nat.mul_assoc, Nat.mul_comm 256]
    rw [enc, enc, e, ih]
    congr 1
    have hp : 0 < 2 ^ (8 * j) := Nat.two_pow_pos _
    rw [Nat.mul_comm (a * 256), Nat.mul_add_div hp]
    omega
theorem enc_val (l : List Nat) (h : ∀ c ∈ l, c < 256) : enc l.length (val l) = l := by
  induction l with
  | nil => rfl
  | cons c l ih =>
    have hl := fun d hd => h d (List.mem_cons_of_mem c hd)
    have hc := h c (by simp)
    have hv := val_lt l hl
    rw [List.length_cons, enc, val_cons, enc_mod, ih hl]
    congr 1
    have hp : 0 < 2 ^ (8 * l.length) := Nat.two_pow_pos _
    rw [Nat.mul_comm c, Nat.mul_add_div hp, Nat.div_eq_of_lt hv]
    omega
theorem sz_val (l : List Nat) (h : ∀ c ∈ l, c < 256) (h0 : ¬ (0 < l.length ∧ l.getD 0 0 = 0)) : sz (val l) = l.length := by
  refine sz_unique _ _ (val_lt l h) fun hp => ?_
  cases l with
  | nil => simp at hp
  | cons c l =>
    have hc : c ≠ 0 := fun e => h0 ⟨by simp, by simpa using e⟩
    rw [val_cons, List.length_cons, Nat.add_sub_cancel]
    have : 1 * 2 ^ (8 * l.length) ≤ c * 2 ^ (8 * l.length) := Nat.mul_le_mul_right _ (by omega)
    omega
/-- What number reads is what is written of it, with what is left behind it. -/
theorem rnum_enc {ds rest : List Nat} {n : Nat} {bl : Bool} (h : rnum ds = some (n, bl, rest)) (hlt : ∀ c ∈ ds, c < 256) : ds = num (if bl then 128 else 0) n ++ rest ∧ n < 18446744073709551616 := by
  cases ds with
  | nil => simp [rnum] at h
  | cons c t =>
    rw [rnum] at h
    split at h
    · cases h
    rename_i h1
    split at h
    · cases h
    rename_i h2
    split at h
    · cases h
    rename_i h3
    simp only [Option.some.injEq, Prod.mk.injEq] at h
    obtain ⟨rfl, rfl, rfl⟩ := h
    have hc := hlt c (by simp)
    have ht : ∀ d ∈ t.take (c % 128), d < 256 := fun d hd => hlt d (List.mem_cons_of_mem c (List.mem_of_mem_take hd))
    have hl : (t.take (c % 128)).length = c % 128 := by simp; omega
    have h0 : ¬ (0 < (t.take (c % 128)).length ∧ (t.take (c % 128)).getD 0 0 = 0) := by
      rw [hl]
      intro hq
      exact h3 ⟨hq.1, by have := hq.2; simpa [List.getElem?_take, hq.1] using this⟩
    have hs := sz_val _ ht h0
    have he := enc_val _ ht
    rw [hl] at hs he
    refine ⟨?_, ?_⟩
    · unfold num
      rw [hs, he, List.cons_append, List.take_append_drop]
      congr 1
      by_cases hq : 128 ≤ c
      · simp [hq]; omega
      · simp [hq]; omega
    · have h8 := val_lt _ ht
      rw [hl] at h8
      have : 2 ^ (8 * (c % 128)) ≤ 2 ^ 64 := Nat.pow_le_pow_right (by omega) (by omega)
      have e : (2 : Nat) ^ 64 = 18446744073709551616 := by decide
      omega
end Go.Proofs.Ytnhaakdjijjinaa

/- The vow: what a crash leaves of a line is the line, or nothing that is read. No Go text here. -/
import Derived.Test.YthefnakbpalecaaMaX
namespace Go.Proofs.Ythefnakbpalecaa
open Go.RowKit Go.Maps
theorem take_short {bs : List Nat} (h : bs.length < 8) : (takeOf bs).e ≠ 0 := by
  unfold takeOf
  by_cases h1 : badHead bs
  · rw [if_pos h1]; decide
  · rw [if_neg h1, if_pos (by omega)]; decide
theorem take_few {bs : List Nat} (h : bs.length < szAt bs + 8) : (takeOf bs).e ≠ 0 := by
  unfold takeOf
  by_cases h1 : badHead bs
  · rw [if_pos h1]; decide
  · rw [if_neg h1, if_pos h]; decide
theorem getD_set_ne {l : List Nat} {i j : Nat} (v : Nat) (h : i ≠ j) : (l.set i v).getD j 0 = l.getD j 0 := by
  simp only [List.getD_eq_getElem?_getD, List.getElem?_set]
  rw [if_neg h]
theorem getD_set_eq {l : List Nat} {i : Nat} (v : Nat) (h : i < l.length) : (l.set i v).getD i 0 = v := by
  simp [List.getD_eq_getElem?_getD, List.getElem?_set, h]
theorem turn3_low {b : List Nat} {tn j : Nat} (h : j + 3 < b.length + 0 ∨ j + 3 < b.length) : (turn3 b tn).getD j 0 = b.getD j 0 := by
  unfold turn3
  rw [getD_set_ne _ (by omega), getD_set_ne _ (by omega), getD_set_ne _ (by omega)]
theorem turn3_take (b : List Nat) (tn : Nat) : (turn3 b tn).take (b.length - 3) = b.take (b.length - 3) := by
  unfold turn3
  rw [List.take_set_of_le (by omega), List.take_set_of_le (by omega), List.take_set_of_le (by omega)]
theorem turn3_at {b : List Nat} (tn : Nat) (h : 3 ≤ b.length) : (turn3 b tn).getD (b.length - 3) 0 = b.getD (b.length - 3) 0 ^^^ (tn / 65536 % 256) ∧ (turn3 b tn).getD (b.length - 2) 0 = b.getD (b.length - 2) 0 ^^^ (tn / 256 % 256) ∧ (turn3 b tn).getD (b.length - 1) 0 = b.getD (b.length - 1) 0 ^^^ (tn % 256) := by
  unfold turn3
  refine ⟨?_, ?_, ?_⟩
  · rw [getD_set_ne _ (by omega), getD_set_ne _ (by omega), getD_set_eq _ (by omega)]
  · rw [getD_set_ne _ (by omega), getD_set_eq _ (by simp; omega)]
  · rw [getD_set_eq _ (by simp; omega)]
theorem xor_self_zero {a x : Nat} (h : a ^^^ x = a) : x = 0 := by
  have := congrArg (a ^^^ ·) h
  simpa [← Nat.xor_assoc] using this
theorem turn3_same {b : List Nat} {tn : Nat} (h : 3 ≤ b.length) (h0 : tn / 65536 % 256 = 0) (h1 : tn / 256 % 256 = 0) (h2 : tn % 256 = 0) : turn3 b tn = b := by
  have set_self : ∀ (l : List Nat) (i : Nat), i < l.length → l.set i (l.getD i 0) = l := by
    intro l i hi
    have e : l.getD i 0 = l[i] := by rw [List.getD_eq_getElem?_getD, List.getElem?_eq_getElem hi]; rfl
    rw [e, List.set_getElem_self]
  unfold turn3
  rw [h0, h1, h2]
  simp only [Nat.xor_zero]
  rw [set_self b _ (by omega), set_self b _ (by omega), set_self b _ (by omega)]
/-- A frame whose end was torn or turned is whole, or none. -/
theorem tear_take (k : Nat) (body : List Nat) (hk0 : k ≠ 0) (hk : k < 256) (hn : body.length ≤ 65536) (hb : ∀ c ∈ body, c < 256) (kp tn : Nat) : tearB (frm k body) kp tn = frm k body ∨ (takeOf (tearB (frm k body) kp tn)).e ≠ 0 := by
  have hL := frm_len k body
  have hlt := frm_lt k body hk hn hb
  obtain ⟨m, hm⟩ : ∃ m, tearN (frm k body) kp = m := ⟨_, rfl⟩
  have hm1 : m ≤ (frm k body).length := by
    rw [← hm]; unfold tearN
    have := Nat.mod_lt kp (show 0 < (frm k body).length + 1 by omega)
    omega
  unfold tearB
  rw [hm]
  split
  · exact .inr (take_short (by rw [List.length_take]; omega))
  · rename_i h3
    have hl : ((frm k body).take m).length = m := by rw [List.length_take]; omega
    by_cases h8 : m < 8
    · exact .inr (take_short (by rw [turn3_len, hl]; exact h8))
    by_cases hf : m < (frm k body).length
    · refine .inr (take_few ?_)
      rw [turn3_len, hl]
      have hz : szAt (turn3 ((frm k body).take m) tn) = body.length := by
        unfold szAt
        rw [if_pos (by rw [turn3_len, hl]; omega)]
        have hs := frm_sz k body [] m (by omega) hn
        rw [List.append_nil] at hs
        unfold szOf at hs ⊢
        rw [turn3_low (by rw [hl]; omega), turn3_low (by rw [hl]; omega), turn3_low (by rw [hl]; omega)]
        exact hs
      rw [hz]; omega
    · have hmL : m = (frm k body).length := by omega
      have hall : (frm k body).take m = frm k body := by rw [hmL]; exact List.take_length
      rw [hall]
      by_cases he : (takeOf (turn3 (frm k body) tn)).e = 0
      · refine .inl ?_
        have hz : szOf (turn3 (frm k body) tn) = body.length := by
          have hs := frm_sz k body [] (frm k body).length (by omega) hn
          rw [List.append_nil, List.take_length] at hs
          unfold szOf at hs ⊢
          rw [turn3_low (by omega), turn3_low (by omega), turn3_low (by omega)]
          exact hs
        have hbl : body.length + 5 = (frm k body).length - 3 := by omega
        have hs : sumFits (turn3 (frm k body) tn) (body.length + 5) := by
          unfold takeOf at he
          by_cases c1 : badHead (turn3 (frm k body) tn)
          · rw [if_pos c1] at he; cases he
          rw [if_neg c1] at he
          by_cases c2 : (turn3 (frm k body) tn).length < szAt (turn3 (frm k body) tn) + 8
          · rw [if_pos c2] at he; cases he
          rw [if_neg c2] at he
          by_cases c3 : sumFits ((turn3 (frm k body) tn).take (szOf (turn3 (frm k body) tn) + 8)) (szOf (turn3 (frm k body) tn) + 5)
          · rw [hz, List.take_of_length_le (by rw [turn3_len]; omega)] at c3; exact c3
          · rw [if_neg c3] at he; cases he
        have hf0 : sumFits (frm k body) (body.length + 5) := by
          have := top_fits (hdr k body.length ++ body)
          have hl' : (hdr k body.length ++ body).length = body.length + 5 := by rw [List.length_append, hdr_len]; omega
          rw [hl'] at this
          exact this
        unfold sumFits at hs hf0
        obtain ⟨a0, a1, a2⟩ := turn3_at (b := frm k body) tn (by omega)
        rw [hbl, turn3_take, ← hbl, hf0] at hs
        rw [← hbl] at a0
        rw [show (frm k body).length - 2 = body.length + 5 + 1 by omega] at a1
        rw [show (frm k body).length - 1 = body.length + 5 + 2 by omega] at a2
        rw [a0, a1, a2] at hs
        have g0 : (frm k body).getD (body.length + 5) 0 < 256 := hlt _ (getD_mem _ _ (by omega))
        have g1 : (frm k body).getD (body.length + 5 + 1) 0 < 256 := hlt _ (getD_mem _ _ (by omega))
        have g2 : (frm k body).getD (body.length + 5 + 2) 0 < 256 := hlt _ (getD_mem _ _ (by omega))
        have x0 : (frm k body).getD (body.length + 5) 0 ^^^ (tn / 65536 % 256) < 256 := Nat.xor_lt_two_pow (n := 8) g0 (Nat.mod_lt _ (by omega))
        have x1 : (frm k body).getD (body.length + 5 + 1) 0 ^^^ (tn / 256 % 256) < 256 := Nat.xor_lt_two_pow (n := 8) g1 (Nat.mod_lt _ (by omega))
        have x2 : (frm k body).getD (body.length + 5 + 2) 0 ^^^ (tn % 256) < 256 := Nat.xor_lt_two_pow (n := 8) g2 (Nat.mod_lt _ (by omega))
        exact turn3_same (by omega) (xor_self_zero (a := (frm k body).getD (body.length + 5) 0) (by omega)) (xor_self_zero (a := (frm k body).getD (body.length + 5 + 1) 0) (by omega)) (xor_self_zero (a := (frm k body).getD (body.length + 5 + 2) 0) (by omega))
      · exact .inr he
end Go.Proofs.Ythefnakbpalecaa

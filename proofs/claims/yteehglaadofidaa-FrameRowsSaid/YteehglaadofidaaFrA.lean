/- Frames as lists of bytes: what a frame is, and what is taken of bytes. No Go text here. -/
import Derived.Test.YteehglaadofidaaCrcP
namespace Go.Proofs.Yteehglaadofidaa

def hdr (k n : Nat) : List Nat := [102, k, n / 65536, n / 256 % 256, n % 256]
def frm (k : Nat) (body : List Nat) : List Nat := (hdr k body.length ++ body) ++ top (hdr k body.length ++ body)
def szOf (bs : List Nat) : Nat := bs.getD 2 0 * 65536 + bs.getD 3 0 * 256 + bs.getD 4 0
/-- The size that the head tells, or 0 where it is not there whole. -/
def szAt (bs : List Nat) : Nat := if 5 ≤ bs.length then szOf bs else 0
def badHead (bs : List Nat) : Prop := (1 ≤ bs.length ∧ bs.getD 0 0 ≠ 102) ∨ (2 ≤ bs.length ∧ bs.getD 1 0 = 0) ∨ 65536 < szAt bs
instance (bs : List Nat) : Decidable (badHead bs) := by unfold badHead; infer_instance
def sumFits (bs : List Nat) (m : Nat) : Prop := onN 11994318 (bs.take m) = bs.getD m 0 * 65536 + bs.getD (m + 1) 0 * 256 + bs.getD (m + 2) 0
instance (bs : List Nat) (m : Nat) : Decidable (sumFits bs m) := by unfold sumFits; infer_instance
structure Tk where
  kind : Nat
  body : List Nat
  n : Nat
  e : Nat
def takeOf (bs : List Nat) : Tk :=
  if badHead bs then ⟨0, [], 0, 20⟩
  else if bs.length < szAt bs + 8 then ⟨0, [], 0, 23⟩
  else if sumFits (bs.take (szOf bs + 8)) (szOf bs + 5) then ⟨bs.getD 1 0, (bs.drop 5).take (szOf bs), szOf bs + 8, 0⟩
  else ⟨0, [], 0, 22⟩

theorem hdr_len (k n : Nat) : (hdr k n).length = 5 := rfl
theorem top_len3 (bs : List Nat) : (top bs).length = 3 := rfl
theorem frm_len (k : Nat) (body : List Nat) : (frm k body).length = body.length + 8 := by
  unfold frm; rw [List.length_append, List.length_append, hdr_len, top_len3]; omega
theorem hdr_lt (k n : Nat) (hk : k < 256) (hn : n ≤ 65536) : ∀ c ∈ hdr k n, c < 256 := by
  intro c hc
  simp only [hdr, List.mem_cons, List.not_mem_nil, or_false] at hc
  rcases hc with rfl | rfl | rfl | rfl | rfl <;> omega
theorem hb_lt (k : Nat) (body : List Nat) (hk : k < 256) (hn : body.length ≤ 65536) (hb : ∀ c ∈ body, c < 256) : ∀ c ∈ hdr k body.length ++ body, c < 256 := by
  intro c hc
  rcases List.mem_append.1 hc with h | h
  · exact hdr_lt k _ hk hn c h
  · exact hb c h
theorem frm_lt (k : Nat) (body : List Nat) (hk : k < 256) (hn : body.length ≤ 65536) (hb : ∀ c ∈ body, c < 256) : ∀ c ∈ frm k body, c < 256 := top_lt (hb_lt k body hk hn hb)
/-- The first bytes of a frame, whatever follows and wherever it is cut. -/
theorem frm_at (k : Nat) (body more : List Nat) (m i : Nat) (hi : i < 5) (him : i < m) : ((frm k body ++ more).take m).getD i 0 = (hdr k body.length).getD i 0 := by
  simp only [List.getD_eq_getElem?_getD, List.getElem?_take, him, if_true]
  unfold frm
  rw [List.append_assoc, List.append_assoc, List.getElem?_append_left (by rw [hdr_len]; exact hi)]
theorem getD_take (l : List Nat) (m i : Nat) (h : i < m) : (l.take m).getD i 0 = l.getD i 0 := by
  simp only [List.getD_eq_getElem?_getD, List.getElem?_take, h, if_true]
theorem szOf_take (bs : List Nat) (m : Nat) (h : 5 ≤ m) : szOf (bs.take m) = szOf bs := by
  unfold szOf; rw [getD_take _ _ _ (by omega), getD_take _ _ _ (by omega), getD_take _ _ _ (by omega)]
theorem szOf_hdr (k n : Nat) (h : n ≤ 65536) : (hdr k n).getD 2 0 * 65536 + (hdr k n).getD 3 0 * 256 + (hdr k n).getD 4 0 = n := by
  simp [hdr]; omega
theorem frm_sz (k : Nat) (body more : List Nat) (m : Nat) (hm : 5 ≤ m) (hn : body.length ≤ 65536) : szOf ((frm k body ++ more).take m) = body.length := by
  unfold szOf
  rw [frm_at _ _ _ _ _ (by omega) (by omega), frm_at _ _ _ _ _ (by omega) (by omega), frm_at _ _ _ _ _ (by omega) (by omega)]
  exact szOf_hdr k _ hn
theorem frm_bad (k : Nat) (body more : List Nat) (m : Nat) (hk : k ≠ 0) (hn : body.length ≤ 65536) : ¬ badHead ((frm k body ++ more).take m) := by
  have hl : ((frm k body ++ more).take m).length ≤ m := List.length_take_le _ _
  unfold badHead szAt
  rintro (⟨h1, h2⟩ | ⟨h1, h2⟩ | h)
  · rw [frm_at _ _ _ _ _ (by omega) (by omega)] at h2; simp [hdr] at h2
  · rw [frm_at _ _ _ _ _ (by omega) (by omega)] at h2; simp [hdr] at h2; exact hk h2
  · split at h
    · rw [frm_sz _ _ _ _ (by omega) hn] at h; omega
    · omega
/-- Of a frame with anything behind it, just the frame is taken. -/
theorem take_frm (k : Nat) (body more : List Nat) (hk : k ≠ 0) (hn : body.length ≤ 65536) (_hb : ∀ c ∈ body, c < 256) :
    takeOf (frm k body ++ more) = ⟨k, body, body.length + 8, 0⟩ := by
  have e : (frm k body ++ more).take (frm k body ++ more).length = frm k body ++ more := List.take_length
  have hL : (frm k body ++ more).length = body.length + 8 + more.length := by rw [List.length_append, frm_len]
  have h0 := frm_bad k body more (frm k body ++ more).length hk hn
  have hs := frm_sz k body more (frm k body ++ more).length (by omega) hn
  rw [e] at h0 hs
  have ha : szAt (frm k body ++ more) = body.length := by unfold szAt; rw [if_pos (by omega), hs]
  have ht : (frm k body ++ more).take (body.length + 8) = frm k body := by
    rw [← frm_len k body, List.take_left']; rfl
  have h1 : (frm k body ++ more).getD 1 0 = k := by
    have := frm_at k body more (frm k body ++ more).length 1 (by omega) (by omega)
    rw [e] at this; rw [this]; rfl
  have hf : sumFits (frm k body) (body.length + 5) := by
    have := top_fits (hdr k body.length ++ body)
    have hl : (hdr k body.length ++ body).length = body.length + 5 := by rw [List.length_append, hdr_len]; omega
    rw [hl] at this
    exact this
  have hd : ((frm k body ++ more).drop 5).take body.length = body := by
    unfold frm
    have : (hdr k body.length ++ body ++ top (hdr k body.length ++ body) ++ more).drop 5 = body ++ (top (hdr k body.length ++ body) ++ more) := by
      rw [List.append_assoc, List.append_assoc]
      rfl
    rw [this, List.take_left']; rfl
  unfold takeOf
  rw [if_neg h0, ha, hs, if_neg (by omega), ht, if_pos hf, h1, hd]
/-- A frame that is cut off is torn. -/
theorem take_cut (k : Nat) (body : List Nat) (m : Nat) (hk : k ≠ 0) (hn : body.length ≤ 65536) (hm : m < body.length + 8) :
    takeOf ((frm k body).take m) = ⟨0, [], 0, 23⟩ := by
  have h0 := frm_bad k body [] m hk hn
  rw [List.append_nil] at h0
  have hl : ((frm k body).take m).length = m := by rw [List.length_take, frm_len]; omega
  have : ((frm k body).take m).length < szAt ((frm k body).take m) + 8 := by
    unfold szAt
    rw [hl]
    split
    · have := frm_sz k body [] m (by omega) hn
      rw [List.append_nil] at this
      rw [this]; omega
    · omega
  unfold takeOf
  rw [if_neg h0, if_pos this]
theorem take_e (bs : List Nat) (h : (takeOf bs).e ≠ 0) : (takeOf bs).kind = 0 ∧ (takeOf bs).body = [] ∧ (takeOf bs).n = 0 := by
  unfold takeOf at *
  split
  · exact ⟨rfl, rfl, rfl⟩
  · split
    · exact ⟨rfl, rfl, rfl⟩
    · split
      · rename_i a b c; rw [if_neg a, if_neg b, if_pos c] at h; exact absurd rfl h
      · exact ⟨rfl, rfl, rfl⟩
theorem head5 (bs : List Nat) (h : 5 ≤ bs.length) (h0 : bs.getD 0 0 = 102) (hlt : ∀ c ∈ bs, c < 256) : bs.take 5 = hdr (bs.getD 1 0) (szOf bs) := by
  have hb : ∀ i, i < bs.length → bs.getD i 0 < 256 := fun i hi => hlt _ (by simp [hi])
  have b2 := hb 2 (by omega)
  have b3 := hb 3 (by omega)
  have b4 := hb 4 (by omega)
  match bs, h with
  | x0 :: x1 :: x2 :: x3 :: x4 :: r, _ =>
    simp only [List.getD_cons_zero, List.getD_cons_succ] at h0 b2 b3 b4
    simp only [List.take_succ_cons, List.take_zero, hdr, szOf, List.getD_cons_zero, List.getD_cons_succ]
    subst h0
    have e1 : (x2 * 65536 + x3 * 256 + x4) / 65536 = x2 := by omega
    have e2 : (x2 * 65536 + x3 * 256 + x4) / 256 % 256 = x3 := by omega
    have e3 : (x2 * 65536 + x3 * 256 + x4) % 256 = x4 := by omega
    rw [e1, e2, e3]
/-- The reference's test: the frame of what was read is what was read, just where the sum fits. -/
theorem same_frm (bs : List Nat) (hlt : ∀ c ∈ bs, c < 256) (h0 : bs.getD 0 0 = 102) (hl : szOf bs + 8 ≤ bs.length) :
    sumFits (bs.take (szOf bs + 8)) (szOf bs + 5) ↔ frm (bs.getD 1 0) ((bs.drop 5).take (szOf bs)) = bs.take (szOf bs + 8) := by
  have hbl : ((bs.drop 5).take (szOf bs)).length = szOf bs := by rw [List.length_take, List.length_drop]; omega
  have he : (bs.take (szOf bs + 8)).take (szOf bs + 5) = hdr (bs.getD 1 0) (szOf bs) ++ (bs.drop 5).take (szOf bs) := by
    rw [List.take_take, ← head5 bs (by omega) h0 hlt, show min (szOf bs + 5) (szOf bs + 8) = 5 + szOf bs by omega, List.take_add]
  have := fits_iff (bs.take (szOf bs + 8)) (szOf bs + 5) (by rw [List.length_take]; omega) (fun c hc => hlt c (List.mem_of_mem_take hc))
  unfold sumFits
  rw [this, he]
  unfold frm
  rw [hbl]
end Go.Proofs.Yteehglaadofidaa

import Derived.Test.YthefnakbpalecaaMaH
import Derived.Outline
namespace Go.Proofs.Ythefnakbpalecaa
open Go.RowKit
/- Frames as lists of bytes: what a frame is, and what is taken of bytes. No Go text here. -/

def hdr (k n : Nat) : List Nat := [102, k, n / 65536, n / 256 % 256, n % 256]
def frm (k : Nat) (body : List Nat) : List Nat := (hdr k body.length ++ body) ++ top (hdr k body.length ++ body)
def szOf (bs : List Nat) : Nat := bs.getD 2 0 * 65536 + bs.getD 3 0 * 256 + bs.getD 4 0
/-- The size that the head tells, or 0 where it is not there whole. -/
def szAt (bs : List Nat) : Nat := if 5 ≤ bs.length then szOf bs else 0
def badHead (bs : List Nat) : Prop := (1 ≤ bs.length ∧ bs.getD 0 0 ≠ 102) ∨ (2 ≤ bs.length ∧ bs.getD 1 0 = 0) ∨ 65536 < szAt bs
instance (bs : List Nat) : Decidable (badHead bs) := by unfold badHead; infer_instance
def sumFits (bs : List Nat) (m : Nat) : Prop := onN 11994318 (bs.take m) = bs.getD m 0 * 65536 + bs.getD (m + 1) 0 * 256 + bs.getD (m + 2) 0
instance (bs : List Nat) (m : Nat) : Decidable (sumFits bs m) := by unfold sumFits; infer_instance
structure Tk where
  kind : Nat
  body : List Nat
  n : Nat
  e : Nat
def takeOf (bs : List Nat) : Tk :=
  if badHead bs then ⟨0, [], 0, 20⟩
  else if bs.length < szAt bs + 8 then ⟨0, [], 0, 23⟩
  else if sumFits (bs.take (szOf bs + 8)) (szOf bs + 5) then ⟨bs.getD 1 0, (bs.drop 5).take (szOf bs), szOf bs + 8, 0⟩
  else ⟨0, [], 0, 22⟩

theorem hdr_len (k n : Nat) : (hdr k n).length = 5 := rfl
theorem top_len3 (bs : List Nat) : (top bs).length = 3 := rfl
theorem frm_len (k : Nat) (body : List Nat) : (frm k body).length = body.length + 8 := by
  unfold frm; rw [List.length_append, List.length_append, hdr_len, top_len3]; omega
theorem hdr_lt (k n : Nat) (hk : k < 256) (hn : n ≤ 65536) : ∀ c ∈ hdr k n, c < 256 := by
  intro c hc
  simp only [hdr, List.mem_cons, List.not_mem_nil, or_false] at hc
  rcases hc with rfl | rfl | rfl | rfl | rfl <;> omega
theorem hb_lt (k : Nat) (body : List Nat) (hk : k < 256) (hn : body.length ≤ 65536) (hb : ∀ c ∈ body, c < 256) : ∀ c ∈ hdr k body.length ++ body, c < 256 := by
  intro c hc
  rcases List.mem_append.1 hc with h | h
  · exact hdr_lt k _ hk hn c h
  · exact hb c h
theorem frm_lt (k : Nat) (body : List Nat) (hk : k < 256) (hn : body.length ≤ 65536) (hb : ∀ c ∈ body, c < 256) : ∀ c ∈ frm k body, c < 256 := top_lt (hb_lt k body hk hn hb)
/-- The first bytes of a frame, whatever follows and wherever it is cut. -/
theorem frm_at (k : Nat) (body more : List Nat) (m i : Nat) (hi : i < 5) (him : i < m) : ((frm k body ++ more).take m).getD i 0 = (hdr k body.length).getD i 0 := by
  simp only [List.getD_eq_getElem?_getD, List.getElem?_take, him, if_true]
  unfold frm
  rw [List.append_assoc, List.append_assoc, List.getElem?_append_left (by rw [hdr_len]; exact hi)]
theorem getD_take (l : List Nat) (m i : Nat) (h : i < m) : (l.take m).getD i 0 = l.getD i 0 := by
  simp only [List.getD_eq_getElem?_getD, List.getElem?_take, h, if_true]
theorem szOf_take (bs : List Nat) (m : Nat) (h : 5 ≤ m) : szOf (bs.take m) = szOf bs := by
  unfold szOf; rw [getD_take _ _ _ (by omega), getD_take _ _ _ (by omega), getD_take _ _ _ (by omega)]
theorem szOf_hdr (k n : Nat) (h : n ≤ 65536) : (hdr k n).getD 2 0 * 65536 + (hdr k n).getD 3 0 * 256 + (hdr k n).getD 4 0 = n := by
  simp [hdr]; omega
theorem frm_sz (k : Nat) (body more : List Nat) (m : Nat) (hm : 5 ≤ m) (hn : body.length ≤ 65536) : szOf ((frm k body ++ more).take m) = body.length := by
  unfold szOf
  rw [frm_at _ _ _ _ _ (by omega) (by omega), frm_at _ _ _ _ _ (by omega) (by omega), frm_at _ _ _ _ _ (by omega) (by omega)]
  exact szOf_hdr k _ hn
theorem frm_bad (k : Nat) (body more : List Nat) (m : Nat) (hk : k ≠ 0) (hn : body.length ≤ 65536) : ¬ badHead ((frm k body ++ more).take m) := by
  have hl : ((frm k body ++ more).take m).length ≤ m := List.length_take_le _ _
  unfold badHead szAt
  rintro (⟨h1, h2⟩ | ⟨h1, h2⟩ | h)
  · rw [frm_at _ _ _ _ _ (by omega) (by omega)] at h2; simp [hdr] at h2
  · rw [frm_at _ _ _ _ _ (by omega) (by omega)] at h2; simp [hdr] at h2; exact hk h2
  · split at h
    · rw [frm_sz _ _ _ _ (by omega) hn] at h; omega
    · omega
/-- Of a frame with anything behind it, just the frame is taken. -/
theorem take_frm (k : Nat) (body more : List Nat) (hk : k ≠ 0) (hn : body.length ≤ 65536) (_hb : ∀ c ∈ body, c < 256) :
    takeOf (frm k body ++ more) = ⟨k, body, body.length + 8, 0⟩ := by
  have e : (frm k body ++ more).take (frm k body ++ more).length = frm k body ++ more := List.take_length
  have hL : (frm k body ++ more).length = body.length + 8 + more.length := by rw [List.length_append, frm_len]
  have h0 := frm_bad k body more (frm k body ++ more).length hk hn
  have hs := frm_sz k body more (frm k body ++ more).length (by omega) hn
  rw [e] at h0 hs
  have ha : szAt (frm k body ++ more) = body.length := by unfold szAt; rw [if_pos (by omega), hs]
  have ht : (frm k body ++ more).take (body.length + 8) = frm k body := by
    rw [← frm_len k body, List.take_left']; rfl
  have h1 : (frm k body ++ more).getD 1 0 = k := by
    have := frm_at k body more (frm k body ++ more).length 1 (by omega) (by omega)
    rw [e] at this; rw [this]; rfl
  have hf : sumFits (frm k body) (body.length + 5) := by
    have := top_fits (hdr k body.length ++ body)
    have hl : (hdr k body.length ++ body).length = body.length + 5 := by rw [List.length_append, hdr_len]; omega
    rw [hl] at this
    exact this
  have hd : ((frm k body ++ more).drop 5).take body.length = body := by
    unfold frm
    have : (hdr k body.length ++ body ++ top (hdr k body.length ++ body) ++ more).drop 5 = body ++ (top (hdr k body.length ++ body) ++ more) := by
      rw [List.append_assoc, List.append_assoc]
      rfl
    rw [this, List.take_left']; rfl
  unfold takeOf
  rw [if_neg h0, ha, hs, if_neg (by omega), ht, if_pos hf, h1, hd]
/-- A frame that is cut off is torn. -/
theorem take_cut (k : Nat) (body : List Nat) (m : Nat) (hk : k ≠ 0) (hn : body.length ≤ 65536) (hm : m < body.length + 8) :
    takeOf ((frm k body).take m) = ⟨0, [], 0, 23⟩ := by
  have h0 := frm_bad k body [] m hk hn
  rw [List.append_nil] at h0
  have hl : ((frm k body).take m).length = m := by rw [List.length_take, frm_len]; omega
  have : ((frm k body).take m).length < szAt ((frm k body).take m) + 8 := by
    unfold szAt
    rw [hl]
    split
    · have := frm_sz k body [] m (by omega) hn
      rw [List.append_nil] at this
      rw [this]; omega
    · omega
  unfold takeOf
  rw [if_neg h0, if_pos this]
theorem take_e (bs : List Nat) (h : (takeOf bs).e ≠ 0) : (takeOf bs).kind = 0 ∧ (takeOf bs).body = [] ∧ (takeOf bs).n = 0 := by
  unfold takeOf at *
  split
  · exact ⟨rfl, rfl, rfl⟩
  · split
    · exact ⟨rfl, rfl, rfl⟩
    · split
      · rename_i a b c; rw [if_neg a, if_neg b, if_pos c] at h; exact absurd rfl h
      · exact ⟨rfl, rfl, rfl⟩
theorem head5 (bs : List Nat) (h : 5 ≤ bs.length) (h0 : bs.getD 0 0 = 102) (hlt : ∀ c ∈ bs, c < 256) : bs.take 5 = hdr (bs.getD 1 0) (szOf bs) := by
  have hb : ∀ i, i < bs.length → bs.getD i 0 < 256 := fun i hi => hlt _ (by simp [hi])
  have b2 := hb 2 (by omega)
  have b3 := hb 3 (by omega)
  have b4 := hb 4 (by omega)
  match bs, h with
  | x0 :: x1 :: x2 :: x3 :: x4 :: r, _ =>
    simp only [List.getD_cons_zero, List.getD_cons_succ] at h0 b2 b3 b4
    simp only [List.take_succ_cons, List.take_zero, hdr, szOf, List.getD_cons_zero, List.getD_cons_succ]
    subst h0
    have e1 : (x2 * 65536 + x3 * 256 + x4) / 65536 = x2 := by omega
    have e2 : (x2 * 65536 + x3 * 256 + x4) / 256 % 256 = x3 := by omega
    have e3 : (x2 * 65536 + x3 * 256 + x4) % 256 = x4 := by omega
    rw [e1, e2, e3]
/-- The reference's test: the frame of what was read is what was read, just where the sum fits. -/
theorem same_frm (bs : List Nat) (hlt : ∀ c ∈ bs, c < 256) (h0 : bs.getD 0 0 = 102) (hl : szOf bs + 8 ≤ bs.length) :
    sumFits (bs.take (szOf bs + 8)) (szOf bs + 5) ↔ frm (bs.getD 1 0) ((bs.drop 5).take (szOf bs)) = bs.take (szOf bs + 8) := by
  have hbl : ((bs.drop 5).take (szOf bs)).length = szOf bs := by rw [List.length_take, List.length_drop]; omega
  have he : (bs.take (szOf bs + 8)).take (szOf bs + 5) = hdr (bs.getD 1 0) (szOf bs) ++ (bs.drop 5).take (szOf bs) := by
    rw [List.take_take, ← head5 bs (by omega) h0 hlt, show min (szOf bs + 5) (szOf bs + 8) = 5 + szOf bs by omega, List.take_add]
  have := fits_iff (bs.take (szOf bs + 8)) (szOf bs + 5) (by rw [List.length_take]; omega) (fun c hc => hlt c (List.mem_of_mem_take hc))
  unfold sumFits
  rw [this, he]
  unfold frm
  rw [hbl]
/- Walks of frame: the length that a head tells. -/
open Go.RowKit

theorem i64_or_nat (a b : Nat) (ha : a < 4294967296) (hb : b < 4294967296) : bits .or .i64 (a : Int) (b : Int) = ((a ||| b : Nat) : Int) := by
  have hx : a ||| b < 2 ^ 32 := Nat.or_lt_two_pow (by omega) (by omega)
  have e1 : ∀ x : Nat, x < 4294967296 → (BitVec.ofInt 64 (x : Int)).toNat = x := fun x h => by
    rw [BitVec.ofInt_natCast, BitVec.toNat_ofNat]; exact Nat.mod_eq_of_lt (by omega)
  show IntKind.i64.wrap ((BitVec.ofInt 64 (a : Int) ||| BitVec.ofInt 64 (b : Int)).toNat : Int) = _
  rw [BitVec.toNat_or, e1 a ha, e1 b hb]
  exact IntWalk.i64_in _ (by omega)
theorem or3i (x0 x1 x2 : Nat) (h0 : x0 < 256) (h1 : x1 < 256) (h2 : x2 < 256) :
    bits .or .i64 (bits .or .i64 ((x0 : Int) * 65536) ((x1 : Int) * 256)) (x2 : Int) = ((x0 * 65536 + x1 * 256 + x2 : Nat) : Int) := by
  have e1 : x0 * 65536 ||| x1 * 256 = x0 * 65536 + x1 * 256 := by
    have := Nat.two_pow_add_eq_or_of_lt (i := 16) (b := x1 * 256) (by omega) x0
    rw [Nat.mul_comm x0 65536]; exact this.symm
  have e2 : (x0 * 65536 + x1 * 256) ||| x2 = x0 * 65536 + x1 * 256 + x2 := by
    have := Nat.two_pow_add_eq_or_of_lt (i := 8) (b := x2) (by omega) (x0 * 256 + x1)
    rw [show x0 * 65536 + x1 * 256 = 2 ^ 8 * (x0 * 256 + x1) by omega]; exact this.symm
  rw [show ((x0 : Int) * 65536) = ((x0 * 65536 : Nat) : Int) by omega, show ((x1 : Int) * 256) = ((x1 * 256 : Nat) : Int) by omega,
    i64_or_nat _ _ (by omega) (by omega), e1, i64_or_nat _ _ (by omega) (by omega), e2]

/-- What length hands back. -/
def Len (w : World) (n e : Nat) (en : Ending) (w' : World) : Prop := en = .returned (.tuple #[.int .i64 (n : Int), .int .i64 (e : Int)]) ∧ Below w.heap.size w w'
def lenOf (bs : List Nat) : Nat × Nat := if badHead bs then (0, 20) else if bs.length < szAt bs + 8 then (0, 23) else (szOf bs + 8, 0)

theorem length0 (a : Option Addr) (cap : Nat) (w : World) : Calls Try.prog 147 #[.slice a 0 cap] w (Len w 0 23) := by
  go_enter Try.func147, Try.ntmps147
  go_wp2
  go_ret2
  exact ⟨rfl, Below.refl _ _⟩
theorem length1 (b off cap x0 : Nat) (w : World) (c0 : w.cell? ⟨b, off, none⟩ = some (.int .u8 (x0 : Int))) :
    Calls Try.prog 147 #[.slice (some ⟨b, off, none⟩) 1 cap] w (Len w 0 (if x0 = 102 then 23 else 20)) := by
  by_cases h : x0 = 102
  · subst h
    rw [if_pos rfl]
    go_enter Try.func147, Try.ntmps147
    go_wp2
    go_ret2
    exact ⟨rfl, Below.refl _ _⟩
  · have e : ((x0 : Int) != 102) = true := by simp; omega
    rw [if_neg h]
    go_enter Try.func147, Try.ntmps147
    go_wp2
    go_ret2
    exact ⟨rfl, Below.refl _ _⟩
theorem length2 (b off cap n x0 x1 : Nat) (w : World) (h2 : 2 ≤ n) (h5 : n < 5) (c0 : w.cell? ⟨b, off, none⟩ = some (.int .u8 (x0 : Int))) (c1 : w.cell? ⟨b, off + 1, none⟩ = some (.int .u8 (x1 : Int))) :
    Calls Try.prog 147 #[.slice (some ⟨b, off, none⟩) n cap] w (Len w 0 (if x0 ≠ 102 ∨ x1 = 0 then 20 else 23)) := by
  by_cases h1 : x1 = 0
  · subst h1
    rw [if_pos (.inr rfl)]
    go_enter Try.func147, Try.ntmps147
    go_wp2
    go_ret2
    exact ⟨rfl, Below.refl _ _⟩
  · have e1 : ((x1 : Int) == 0) = false := by simp; omega
    by_cases h : x0 = 102
    · subst h
      rw [if_neg (by omega)]
      go_enter Try.func147, Try.ntmps147
      go_wp2
      go_ret2
      exact ⟨rfl, Below.refl _ _⟩
    · have e : ((x0 : Int) != 102) = true := by simp; omega
      rw [if_pos (.inl h)]
      go_enter Try.func147, Try.ntmps147
      go_wp2
      go_ret2
      exact ⟨rfl, Below.refl _ _⟩
set_option maxHeartbeats 1000000 in
theorem length5 (b off cap n x0 x1 x2 x3 x4 : Nat) (w : World) (h5 : 5 ≤ n) (hm : n ≤ 140737488351232) (l2 : x2 < 256) (l3 : x3 < 256) (l4 : x4 < 256)
    (c0 : w.cell? ⟨b, off, none⟩ = some (.int .u8 (x0 : Int))) (c1 : w.cell? ⟨b, off + 1, none⟩ = some (.int .u8 (x1 : Int))) (c2 : w.cell? ⟨b, off + 2, none⟩ = some (.int .u8 (x2 : Int)))
    (c3 : w.cell? ⟨b, off + 3, none⟩ = some (.int .u8 (x3 : Int))) (c4 : w.cell? ⟨b, off + 4, none⟩ = some (.int .u8 (x4 : Int))) :
    Calls Try.prog 147 #[.slice (some ⟨b, off, none⟩) n cap] w
      (Len w (if 65536 < x2 * 65536 + x3 * 256 + x4 ∨ x1 = 0 ∨ x0 ≠ 102 ∨ n < x2 * 65536 + x3 * 256 + x4 + 8 then 0 else x2 * 65536 + x3 * 256 + x4 + 8)
        (if 65536 < x2 * 65536 + x3 * 256 + x4 ∨ x1 = 0 ∨ x0 ≠ 102 then 20 else if n < x2 * 65536 + x3 * 256 + x4 + 8 then 23 else 0)) := by
  have hor := or3i x2 x3 x4 l2 l3 l4
  obtain ⟨s, hs⟩ : ∃ s, x2 * 65536 + x3 * 256 + x4 = s := ⟨_, rfl⟩
  have hs0 : s < 16777216 := by omega
  rw [hs] at hor ⊢
  have HS := Lib.hid hs
  have HO := Lib.hid hor
  clear hs hor
  by_cases hg : 65536 < s
  · rw [if_pos (.inl hg), if_pos (.inl hg)]
    go_enter Try.func147, Try.ntmps147
    go_wp2
    go_quiet (fail)
    rw [HO.out]
    go_wp2
    go_ret2
    exact ⟨rfl, below_drewN (Below.refl _ _) _⟩
  by_cases h1 : x1 = 0
  · subst h1
    rw [if_pos (.inr (.inl rfl)), if_pos (.inr (.inl rfl))]
    go_enter Try.func147, Try.ntmps147
    go_wp2
    go_quiet (fail)
    rw [HO.out]
    go_wp2
    go_ret2
    exact ⟨rfl, below_drewN (Below.refl _ _) _⟩
  have e1 : ((x1 : Int) == 0) = false := by simp; omega
  by_cases h : x0 = 102
  · subst h
    by_cases ht : n < s + 8
    · rw [if_pos (by omega), if_neg (by omega), if_pos ht]
      go_enter Try.func147, Try.ntmps147
      go_wp2
      go_quiet (fail)
      rw [HO.out]
      go_wp2
      go_ret2
      exact ⟨rfl, below_drewN (Below.refl _ _) _⟩
    · rw [if_neg (by omega), if_neg (by omega), if_neg ht]
      go_enter Try.func147, Try.ntmps147
      go_wp2
      go_quiet (fail)
      rw [HO.out]
      go_wp2
      go_ret2
      exact ⟨rfl, below_drewN (Below.refl _ _) _⟩
  · have e : ((x0 : Int) != 102) = true := by simp; omega
    rw [if_pos (by omega), if_pos (by omega)]
    go_enter Try.func147, Try.ntmps147
    go_wp2
    go_quiet (fail)
    rw [HO.out]
    go_wp2
    go_ret2
    exact ⟨rfl, below_drewN (Below.refl _ _) _⟩
/- Walks of frame: length at any bytes; Take. -/
open Go.RowKit

theorem length_any (v : Value) (bs : List Nat) (w : World) (hb : RB w v bs) : Calls Try.prog 147 #[v] w (Len w (lenOf bs).1 (lenOf bs).2) := by
  have hm := hb.2.1
  have hlt := hb.at_lt
  by_cases h0 : bs.length = 0
  · obtain ⟨a, cap, rfl, _, _⟩ := hb.shape
    have hbad : ¬ badHead bs := by unfold badHead szAt; rw [if_neg (by omega)]; omega
    have hsz : szAt bs = 0 := by unfold szAt; rw [if_neg (by omega)]
    rw [h0]
    unfold lenOf
    rw [if_neg hbad, if_pos (by omega)]
    exact length0 a cap w
  · obtain ⟨b, off, cap, rfl, _, _, _, hc⟩ := hb.at (by omega)
    have c0 := hc 0 (by omega)
    rw [Nat.add_zero] at c0
    by_cases h2 : bs.length < 2
    · have h1 : bs.length = 1 := by omega
      have hsz : szAt bs = 0 := by unfold szAt; rw [if_neg (by omega)]
      have := length1 b off cap (bs.getD 0 0) w c0
      rw [h1]
      by_cases hx : bs.getD 0 0 = 102
      · have hbad : ¬ badHead bs := by unfold badHead; rw [hsz]; omega
        rw [if_pos hx] at this
        unfold lenOf
        rw [if_neg hbad, if_pos (by omega)]
        exact this
      · have hbad : badHead bs := .inl ⟨by omega, hx⟩
        rw [if_neg hx] at this
        unfold lenOf
        rw [if_pos hbad]
        exact this
    · have c1 := hc 1 (by omega)
      by_cases h5 : bs.length < 5
      · have hsz : szAt bs = 0 := by unfold szAt; rw [if_neg (by omega)]
        have := length2 b off cap bs.length (bs.getD 0 0) (bs.getD 1 0) w (by omega) h5 c0 c1
        unfold lenOf
        by_cases hx : bs.getD 0 0 ≠ 102 ∨ bs.getD 1 0 = 0
        · have hbad : badHead bs := by unfold badHead; omega
          rw [if_pos hx] at this
          rw [if_pos hbad]
          exact this
        · have hbad : ¬ badHead bs := by unfold badHead; rw [hsz]; omega
          rw [if_neg hx] at this
          rw [if_neg hbad, if_pos (by omega)]
          exact this
      · have hsz : szAt bs = szOf bs := by unfold szAt; rw [if_pos (by omega)]
        have := length5 b off cap bs.length (bs.getD 0 0) (bs.getD 1 0) (bs.getD 2 0) (bs.getD 3 0) (bs.getD 4 0) w (by omega) hm (hlt 2 (by omega)) (hlt 3 (by omega)) (hlt 4 (by omega)) c0 c1 (hc 2 (by omega)) (hc 3 (by omega)) (hc 4 (by omega))
        rw [show bs.getD 2 0 * 65536 + bs.getD 3 0 * 256 + bs.getD 4 0 = szOf bs from rfl] at this
        unfold lenOf
        by_cases hx : badHead bs
        · have h' : 65536 < szOf bs ∨ bs.getD 1 0 = 0 ∨ bs.getD 0 0 ≠ 102 := by unfold badHead at hx; omega
          rw [if_pos (by omega), if_pos h'] at this
          rw [if_pos hx]
          exact this
        · have h' : ¬ (65536 < szOf bs ∨ bs.getD 1 0 = 0 ∨ bs.getD 0 0 ≠ 102) := by unfold badHead at hx; omega
          rw [if_neg hx]
          rw [if_neg h'] at this
          by_cases ht : bs.length < szOf bs + 8
          · rw [if_pos ht, if_pos (by omega)] at this
            rw [if_pos (by omega)]
            exact this
          · rw [if_neg ht, if_neg (by omega)] at this
            rw [if_neg (by omega)]
            exact this

theorem RB.upto {w : World} {a : Option Addr} {n cap : Nat} {bs : List Nat} (h : RB w (.slice a n cap) bs) (m : Nat) (hm : m ≤ bs.length) : RB w (.slice a m cap) (bs.take m) := by
  rcases Nat.lt_or_ge m bs.length with h1 | h1
  · obtain ⟨b, off, cap', e, _⟩ := h.at (by omega)
    simp only [Value.slice.injEq] at e
    obtain ⟨rfl, rfl, rfl⟩ := e
    exact h.take m h1 _ _ _ rfl
  · have e : m = bs.length := by omega
    subst e
    rw [List.take_length]
    obtain ⟨a', cap', e, _⟩ := h.shape
    simp only [Value.slice.injEq] at e
    obtain ⟨rfl, rfl, rfl⟩ := e
    exact h
/-- Of bytes that can be read, what stands behind the first ones. -/
theorem RB.behind {w : World} {b off n cap : Nat} {bs : List Nat} (h : RB w (.slice (some ⟨b, off, none⟩) n cap) bs) (m : Nat) (hm : m ≤ bs.length) : RB w (.slice (some ⟨b, off + m, none⟩) (n - m) (cap - m)) (bs.drop m) := by
  obtain ⟨h1, h2, h3⟩ := h
  rcases h3 with ⟨h3, _⟩ | ⟨x, cap', h3, h4, h5, h6⟩
  · cases h3
  · simp only [Value.slice.injEq, Option.some.injEq] at h3
    obtain ⟨rfl, rfl, rfl⟩ := h3
    refine ⟨fun c hc => h1 c (List.mem_of_mem_drop hc), by rw [List.length_drop]; omega, .inr ⟨⟨b, off + m, none⟩, cap - m, by rw [List.length_drop], by rw [List.length_drop]; omega, by omega, fun i hi => ?_⟩⟩
    rw [List.length_drop] at hi
    have := h6 (m + i) (by omega)
    rw [add_at] at this ⊢
    rw [show off + m + i = off + (m + i) by omega, this]
    congr 3
    simp [List.getD_eq_getElem?_getD, List.getElem?_drop]

/-- What Take hands back. -/
def Taken (w : World) (t : Tk) (e : Ending) (w' : World) : Prop :=
  ∃ v', e = .returned (.tuple #[.int .u8 (t.kind : Int), v', .int .i64 (t.n : Int), .int .i64 (t.e : Int)]) ∧ RB w' v' t.body ∧ Below w.heap.size w w'

theorem ftake_no (v : Value) (bs : List Nat) (k : Nat) (w : World) (hb : RB w v bs) (h : lenOf bs = (0, k)) (hk : k ≠ 0) : Calls Try.prog 126 #[v] w (Taken w ⟨0, [], 0, k⟩) := by
  have hL := length_any v bs w hb
  rw [h] at hL
  have HL := Lib.hid hL
  have e : ((k : Int) != 0) = true := by simp; omega
  obtain ⟨a, cap, rfl, _, _⟩ := hb.shape
  obtain ⟨n, hn⟩ : ∃ n, bs.length = n := ⟨_, rfl⟩
  rw [hn] at HL ⊢
  clear hb hn h hL hk
  go_enter Try.func126, Try.ntmps126
  go_wp2_with (go_at_call 147; refine HL.out.mono ?_; rintro e w1 ⟨rfl, hB⟩)
  exact bodyPost_ret (v := .tuple #[.int .u8 0, .slice none 0 0, .int .i64 0, .int .i64 (k : Int)]) (by simp [results, Try.results126, go_sem]) rfl ⟨_, rfl, RB.nil _, hB⟩

set_option maxHeartbeats 1000000 in
theorem take_sum (v : Value) (bs : List Nat) (m : Nat) (w : World) (hb : RB w v bs) (h : lenOf bs = (m + 8, 0)) (hm : m ≤ 65536) (hl : m + 8 ≤ bs.length) (hs : ¬ sumFits (bs.take (m + 8)) (m + 5)) :
    Calls Try.prog 126 #[v] w (Taken w ⟨0, [], 0, 22⟩) := by
  have hL := length_any v bs w hb
  rw [h] at hL
  have HL := Lib.hid hL
  have hlim := hb.2.1
  obtain ⟨b, off, cap, rfl, hcap, hcm, _, _⟩ := hb.at (by omega)
  have HB := Lib.hid (hb.upto (m + 8) hl)
  obtain ⟨n, hn⟩ : ∃ n, bs.length = n := ⟨_, rfl⟩
  have ht : (bs.take (m + 8)).length = m + 5 + 3 := by rw [List.length_take]; omega
  rw [hn] at HL hl hcap hlim ⊢
  obtain ⟨ts, hts⟩ : ∃ ts, bs.take (m + 8) = ts := ⟨_, rfl⟩
  rw [hts] at HB ht hs
  have HT := Lib.hid ht
  have HS := Lib.hid hs
  unfold maxLen at hcm
  clear hb hn h hL ht hs hts
  go_enter Try.func126, Try.ntmps126
  go_wp2_with (go_at_call 147; refine HL.out.mono ?_; rintro e w1 ⟨rfl, hB⟩)
  have HB1 := Lib.hid (HB.out.kept hB)
  go_wp2_with (go_at_call 148; refine (open_bad _ _ (m + 5) _ HB1.out HT.out (by omega) HS.out).mono ?_; rintro e w2 ⟨rfl, hB2⟩)
  exact bodyPost_ret (v := .tuple #[.int .u8 0, .slice none 0 0, .int .i64 0, .int .i64 22]) (by simp [results, Try.results126, go_sem]) rfl ⟨_, rfl, RB.nil _, hB.trans (hB2.mono hB.size)⟩

set_option maxHeartbeats 1000000 in
theorem take_ok (v : Value) (bs : List Nat) (m : Nat) (w : World) (hb : RB w v bs) (h : lenOf bs = (m + 8, 0)) (hm : m ≤ 65536) (hl : m + 8 ≤ bs.length) (hs : sumFits (bs.take (m + 8)) (m + 5)) :
    Calls Try.prog 126 #[v] w (Taken w ⟨bs.getD 1 0, (bs.drop 5).take m, m + 8, 0⟩) := by
  have hL := length_any v bs w hb
  rw [h] at hL
  have HL := Lib.hid hL
  have hlim := hb.2.1
  obtain ⟨b, off, cap, rfl, hcap, hcm, _, _⟩ := hb.at (by omega)
  have HB := Lib.hid (hb.upto (m + 8) hl)
  obtain ⟨n, hn⟩ : ∃ n, bs.length = n := ⟨_, rfl⟩
  have ht : (bs.take (m + 8)).length = m + 5 + 3 := by rw [List.length_take]; omega
  have he : (bs.take (m + 8)).take (m + 5) = bs.take (m + 5) := by rw [List.take_take]; congr 1; omega
  have hg1 : (bs.take (m + 5)).getD 1 0 = bs.getD 1 0 := getD_take _ _ _ (by omega)
  have hd5 : (bs.take (m + 5)).drop 5 = (bs.drop 5).take m := by rw [List.drop_take]; rfl
  have hbl : (bs.take (m + 5)).length = m + 5 := by rw [List.length_take]; omega
  have hlt : ∀ c ∈ bs.take (m + 5), c < 256 := fun c hc => hb.1 c (List.mem_of_mem_take hc)
  rw [hn] at HL hl hcap hlim ⊢
  rw [← hg1, ← hd5]
  obtain ⟨ts, hts⟩ : ∃ ts, bs.take (m + 8) = ts := ⟨_, rfl⟩
  obtain ⟨ds, hds⟩ : ∃ ds, bs.take (m + 5) = ds := ⟨_, rfl⟩
  rw [hts] at HB ht hs he
  rw [hds] at he hbl hlt ⊢
  have HT := Lib.hid ht
  have HS := Lib.hid hs
  have HE := Lib.hid he
  have HBL := Lib.hid hbl
  have HLT := Lib.hid hlt
  unfold maxLen at hcm
  clear hb hn h hL ht hs hts hds he hg1 hd5 hbl hlt
  go_enter Try.func126, Try.ntmps126
  go_wp2_with (go_at_call 147; refine HL.out.mono ?_; rintro e w1 ⟨rfl, hB⟩)
  have HB1 := Lib.hid (HB.out.kept hB)
  have HO := Lib.hid (open_good _ _ (m + 5) _ HB1.out HT.out (by omega) HS.out)
  rw [HE.out] at HO
  go_wp2_with (go_at_call 148; refine HO.out.mono ?_; rintro e w2 ⟨v2, rfl, ho, hB2⟩; have hr2 := ho.rb HLT.out (by have := HBL.out; omega); obtain ⟨b2, off2, cap2, hv2, hc2, hcm2, _, hcell⟩ := hr2.at (by have := HBL.out; omega); rw [HBL.out] at hv2 hc2; subst hv2; have c1 := hcell 1 (by have := HBL.out; omega); have HR := Lib.hid hr2; unfold maxLen at hcm2; clear hcell hr2 ho)
  have hb2 := hB.trans (hB2.mono hB.size)
  by_cases hq : cap2 = 5
  · subst hq
    obtain rfl : m = 0 := by omega
    have hnil : ds.drop 5 = [] := List.drop_of_length_le (by have := HBL.out; omega)
    have HNIL := Lib.hid hnil
    clear hnil
    go_quiet (fail)
    go_wp2
    exact bodyPost_ret (v := .tuple #[.int .u8 ((ds.getD 1 0 : Nat) : Int), .slice (some ⟨b2, off2, none⟩) 0 0, .int .i64 8, .int .i64 0]) (by simp [results, Try.results126, go_sem]) rfl ⟨_, rfl, by rw [HNIL.out]; exact ⟨by simp, by simp, .inr ⟨_, 0, rfl, by simp, by simp, fun i hi => by simp at hi⟩⟩, below_drewN hb2 _⟩
  · go_quiet (fail)
    go_wp2
    exact bodyPost_ret (v := .tuple #[.int .u8 ((ds.getD 1 0 : Nat) : Int), .slice (some ⟨b2, off2 + 5, none⟩) (m + 5 - 5) (cap2 - 5), .int .i64 ((m : Int) + 8), .int .i64 0]) (by simp [results, Try.results126, go_sem]) rfl ⟨_, rfl, ((HR.out).behind 5 (by have := HBL.out; omega)).kept (below_drewN (Below.refl _ _) _), below_drewN hb2 _⟩

theorem take_any (v : Value) (bs : List Nat) (w : World) (hb : RB w v bs) : Calls Try.prog 126 #[v] w (Taken w (takeOf bs)) := by
  unfold takeOf
  by_cases h1 : badHead bs
  · rw [if_pos h1]
    exact ftake_no v bs 20 w hb (by unfold lenOf; rw [if_pos h1]) (by omega)
  · rw [if_neg h1]
    by_cases h2 : bs.length < szAt bs + 8
    · rw [if_pos h2]
      exact ftake_no v bs 23 w hb (by unfold lenOf; rw [if_neg h1, if_pos h2]) (by omega)
    · rw [if_neg h2]
      have h5 : 5 ≤ bs.length := by omega
      have hz : szAt bs = szOf bs := by unfold szAt; rw [if_pos h5]
      have hL : lenOf bs = (szOf bs + 8, 0) := by unfold lenOf; rw [if_neg h1, if_neg h2]
      have hm : szOf bs ≤ 65536 := by unfold badHead at h1; omega
      by_cases h3 : sumFits (bs.take (szOf bs + 8)) (szOf bs + 5)
      · rw [if_pos h3]
        exact take_ok v bs (szOf bs) w hb hL hm (by omega) h3
      · rw [if_neg h3]
        exact take_sum v bs (szOf bs) w hb hL hm (by omega) h3
/- Walks of frame: Whole and Wrap. -/
open Go.RowKit

/-- What Whole hands back. -/
def Wholed (w : World) (k : Nat) (body : List Nat) (ok : Bool) (e : Ending) (w' : World) : Prop :=
  ∃ v', e = .returned (.tuple #[.int .u8 (k : Int), v', .bool ok]) ∧ RB w' v' body ∧ Below w.heap.size w w'
theorem whole_yes (v : Value) (bs : List Nat) (w : World) (hb : RB w v bs) (he : (takeOf bs).e = 0) (hn : (takeOf bs).n = bs.length) :
    Calls Try.prog 98 #[v] w (Wholed w (takeOf bs).kind (takeOf bs).body true) := by
  have HT := Lib.hid (take_any v bs w hb)
  generalize takeOf bs = t at *
  obtain ⟨k, body, n, e⟩ := t
  dsimp only at he hn
  subst he hn
  have hm := hb.2.1
  obtain ⟨a, cap, rfl, _, _⟩ := hb.shape
  obtain ⟨n, hn⟩ : ∃ n, bs.length = n := ⟨_, rfl⟩
  rw [hn] at HT hm ⊢
  clear hb hn
  go_enter Try.func98, Try.ntmps98
  go_wp2_with (go_at_call 126; refine HT.out.mono ?_; rintro e w1 ⟨v1, rfl, hr, hB⟩; obtain ⟨a1, c1, rfl, _, _⟩ := hr.shape)
  go_ret3
  exact ⟨_, rfl, hr, hB⟩
theorem whole_no (v : Value) (bs : List Nat) (w : World) (hb : RB w v bs) (he : (takeOf bs).e ≠ 0 ∨ (takeOf bs).n ≠ bs.length) :
    Calls Try.prog 98 #[v] w (Wholed w 0 [] false) := by
  have HT := Lib.hid (take_any v bs w hb)
  generalize takeOf bs = t at *
  obtain ⟨k, body, n, e⟩ := t
  dsimp only at he
  have hm := hb.2.1
  obtain ⟨a, cap, rfl, _, _⟩ := hb.shape
  obtain ⟨m, hn⟩ : ∃ n, bs.length = n := ⟨_, rfl⟩
  rw [hn] at HT hm he ⊢
  clear hb hn
  by_cases h0 : e = 0
  · subst h0
    have hx : ((n : Int) != (m : Int)) = true := by simp; omega
    clear he
    go_enter Try.func98, Try.ntmps98
    go_wp2_with (go_at_call 126; refine HT.out.mono ?_; rintro e w1 ⟨v1, rfl, hr, hB⟩; obtain ⟨a1, c1, rfl, _, _⟩ := hr.shape)
    go_ret3
    exact ⟨_, rfl, RB.nil _, hB⟩
  · have hx : ((e : Int) != 0) = true := by simp; omega
    clear he h0
    go_enter Try.func98, Try.ntmps98
    go_wp2_with (go_at_call 126; refine HT.out.mono ?_; rintro e w1 ⟨v1, rfl, hr, hB⟩; obtain ⟨a1, c1, rfl, _, _⟩ := hr.shape)
    go_ret3
    exact ⟨_, rfl, RB.nil _, hB⟩

theorem wrap_zero (v : Value) (bs : List Nat) (w : World) (hb : RB w v bs) : Calls Try.prog 63 #[.int .u8 0, v] w fun e w' => e = .returned (.tuple #[.slice none 0 0, .int .i64 2]) ∧ w = w' := by
  obtain ⟨a, cap, rfl, _, _⟩ := hb.shape
  obtain ⟨n, hn⟩ : ∃ n, bs.length = n := ⟨_, rfl⟩
  rw [hn]
  clear hb hn
  go_enter Try.func63, Try.ntmps63
  go_wp2
  go_ret2
  exact ⟨rfl, rfl⟩
theorem wrap_long (k : Nat) (v : Value) (bs : List Nat) (w : World) (hb : RB w v bs) (hk : k ≠ 0) (hl : 65536 < bs.length) : Calls Try.prog 63 #[.int .u8 (k : Int), v] w fun e w' => e = .returned (.tuple #[.slice none 0 0, .int .i64 21]) ∧ w = w' := by
  have hx : ((k : Int) == 0) = false := by simp; omega
  obtain ⟨a, cap, rfl, _, _⟩ := hb.shape
  obtain ⟨n, hn⟩ : ∃ n, bs.length = n := ⟨_, rfl⟩
  rw [hn] at hl ⊢
  clear hb hn
  go_enter Try.func63, Try.ntmps63
  go_wp2
  go_ret2
  exact ⟨rfl, rfl⟩
theorem rb_lit5 (w : World) (a b c d e : Nat) (ha : a < 256) (hb : b < 256) (hc : c < 256) (hd : d < 256) (he : e < 256) :
    RB (w.alloc (.cells #[.int .u8 (a : Int), .int .u8 (b : Int), .int .u8 (c : Int), .int .u8 (d : Int), .int .u8 (e : Int)] 5)) (.slice (some ⟨w.heap.size, 0, none⟩) 5 5) [a, b, c, d, e] := by
  refine ⟨?_, by simp, .inr ⟨_, _, rfl, by simp, by simp [maxLen], ?_⟩⟩
  · intro x hx
    simp at hx
    rcases hx with rfl | rfl | rfl | rfl | rfl <;> assumption
  · intro i hi
    have : i = 0 ∨ i = 1 ∨ i = 2 ∨ i = 3 ∨ i = 4 := by simp at hi; omega
    rcases this with rfl | rfl | rfl | rfl | rfl <;> (rw [add_at]; simp)
/-- What Wrap hands back, where it does. -/
def Wrapped (w : World) (bs : List Nat) (e : Ending) (w' : World) : Prop := ∃ v', e = .returned (.tuple #[v', .int .i64 0]) ∧ OB w' w.heap.size v' bs ∧ Below w.heap.size w w'
theorem rb_hdr (w : World) (b k n : Nat) (hb : b = w.heap.size) (hk : k < 256) (hn : n ≤ 65536) :
    RB (w.alloc (.cells #[.int .u8 102, .int .u8 (k : Int), .int .u8 ((n : Int) / 65536), .int .u8 ((n : Int) / 256 % 256), .int .u8 ((n : Int) % 256)] 5)) (.slice (some ⟨b, 0, none⟩) 5 5) (hdr k n) := by
  subst hb
  have := rb_lit5 w 102 k (n / 65536) (n / 256 % 256) (n % 256) (by omega) hk (by omega) (by omega) (by omega)
  simpa [hdr] using this
set_option maxHeartbeats 1000000 in
theorem wrap_ok (k : Nat) (v : Value) (bs : List Nat) (w : World) (hb : RB w v bs) (hk : k ≠ 0) (hk2 : k < 256) (hl : bs.length ≤ 65536) : Calls Try.prog 63 #[.int .u8 (k : Int), v] w (Wrapped w (frm k bs)) := by
  have hx : ((k : Int) == 0) = false := by simp; omega
  have HLT := Lib.hid (hb_lt k bs hk2 hl hb.1)
  obtain ⟨a, cap, rfl, _, _⟩ := hb.shape
  obtain ⟨n, hn⟩ : ∃ n, bs.length = n := ⟨_, rfl⟩
  have HB := Lib.hid hb
  have HN := Lib.hid hn
  have hfr : frm k bs = (hdr k n ++ bs) ++ top (hdr k n ++ bs) := by unfold frm; rw [hn]
  rw [hfr]
  rw [hn] at hl HLT ⊢
  have hhl : (hdr k n ++ bs).length = n + 5 := by rw [List.length_append, hdr_len, hn]; omega
  have HHL := Lib.hid hhl
  clear hb hn hfr hk hhl
  go_enter Try.func63, Try.ntmps63
  go_wp2_with (first
    | (at_make; refine make_rb rfl _ _ rfl w.heap.size _ _ _ (n + 5) rfl rfl (by omega) (by omega) (Nat.le_refl _) ?_; intro v1 w1 ho1 hg1; have hb1 := (Below.refl w.heap.size w).grown hg1 (Nat.le_refl _) (by simp); have H1 := Lib.hid (HB.out.kept hb1); rw [HN.out] at H1)
    | (at_builtin; refine append_rb rfl (.tmp 20) (.tmp 30) rfl w.heap.size _ _ [] (hdr k n) rfl rfl (ho1.alloc _) (rb_hdr _ _ _ _ (by simp) hk2 hl) (by simp [hdr]) (by have := hb1.size; simp; omega) ?_; intro v2 w2 ho2 hg2; have hb2 := (ho1.alloc _).below hg2 (hb1.alloc hb1.size _) (by have := hb1.size; simp; omega); have H2 := Lib.hid (HB.out.kept hb2); rw [HN.out] at H2; simp only [List.nil_append] at ho2; clear hg2)
    | (at_builtin; refine append_rb rfl (.tmp 32) (.tmp 33) rfl w.heap.size _ _ (hdr k n) bs rfl rfl ho2 H2.out (by have := HN.out; simp [hdr]; omega) hb2.size ?_; intro v3 w3 ho3 hg3; have hb3 := ho2.below hg3 hb2 hb2.size; clear hg3; have hr3 := ho3.rb HLT.out (by have := HHL.out; omega))
    | (go_at_call 110; refine (seal_any _ _ _ hr3 (by have := HHL.out; omega)).mono ?_; rintro e w4 ⟨v4, rfl, ho4, hb4⟩))
  go_ret2
  exact ⟨v4, rfl, ho4.mono hb3.size, hb3.trans (hb4.mono hb3.size)⟩
end Go.Proofs.Ythefnakbpalecaa

import Derived.Test.YtibjboacjobaoaaMgBC
namespace Go.Proofs.Ytibjboacjobaoaa
open Go.RowKit
/- What is read as a number is its own encoding. -/

theorem val_cons (c : Nat) (l : List Nat) : val (c :: l) = c * 2 ^ (8 * l.length) + val l := by
  have key : ∀ (l : List Nat) (a : Nat), l.foldl (fun n c => n * 256 + c) a = a * 2 ^ (8 * l.length) + l.foldl (fun n c => n * 256 + c) 0 := by
    intro l
    induction l with
    | nil => intro a; simp
    | cons d l ih =>
      intro a
      rw [List.foldl_cons, List.foldl_cons, ih (a * 256 + d), ih (0 * 256 + d), List.length_cons, Nat.mul_add, Nat.pow_add]
      generalize 2 ^ (8 * l.length) = p
      have e : (2 : Nat) ^ (8 * 1) = 256 := rfl
      rw [e, Nat.zero_mul, Nat.zero_add, Nat.add_mul, Nat.mul_assoc, Nat.mul_comm 256 p, Nat.add_assoc]
  unfold val
  rw [List.foldl_cons, key l (0 * 256 + c), Nat.zero_mul, Nat.zero_add]
theorem val_lt (l : List Nat) (h : ∀ c ∈ l, c < 256) : val l < 2 ^ (8 * l.length) := by
  have := val_take_lt l h l.length (Nat.le_refl _)
  rwa [List.take_length] at this
theorem enc_mod (j a b : Nat) : enc j (a * 2 ^ (8 * j) + b) = enc j b := by
  induction j generalizing a b with
  | zero => rfl
  | succ j ih =>
    have e : a * 2 ^ (8 * (j + 1)) = a * 256 * 2 ^ (8 * j) := by
      rw [Nat.mul_add, Nat.pow_add, Nat.mul_assoc, Nat.mul_comm 256]
    rw [enc, enc, e, ih]
    congr 1
    have hp : 0 < 2 ^ (8 * j) := Nat.two_pow_pos _
    rw [Nat.mul_comm (a * 256), Nat.mul_add_div hp]
    omega
theorem enc_val (l : List Nat) (h : ∀ c ∈ l, c < 256) : enc l.length (val l) = l := by
  induction l with
  | nil => rfl
  | cons c l ih =>
    have hl := fun d hd => h d (List.mem_cons_of_mem c hd)
    have hc := h c (by simp)
    have hv := val_lt l hl
    rw [List.length_cons, enc, val_cons, enc_mod, ih hl]
    congr 1
    have hp : 0 < 2 ^ (8 * l.length) := Nat.two_pow_pos _
    rw [Nat.mul_comm c, Nat.mul_add_div hp, Nat.div_eq_of_lt hv]
    omega
theorem sz_val (l : List Nat) (h : ∀ c ∈ l, c < 256) (h0 : ¬ (0 < l.length ∧ l.getD 0 0 = 0)) : sz (val l) = l.length := by
  refine sz_unique _ _ (val_lt l h) fun hp => ?_
  cases l with
  | nil => simp at hp
  | cons c l =>
    have hc : c ≠ 0 := fun e => h0 ⟨by simp, by simpa using e⟩
    rw [val_cons, List.length_cons, Nat.add_sub_cancel]
    have : 1 * 2 ^ (8 * l.length) ≤ c * 2 ^ (8 * l.length) := Nat.mul_le_mul_right _ (by omega)
    omega
/-- What number reads is what is written of it, with what is left behind it. -/
theorem rnum_enc {ds rest : List Nat} {n : Nat} {bl : Bool} (h : rnum ds = some (n, bl, rest)) (hlt : ∀ c ∈ ds, c < 256) : ds = num (if bl then 128 else 0) n ++ rest ∧ n < 18446744073709551616 := by
  cases ds with
  | nil => simp [rnum] at h
  | cons c t =>
    rw [rnum] at h
    split at h
    · cases h
    rename_i h1
    split at h
    · cases h
    rename_i h2
    split at h
    · cases h
    rename_i h3
    simp only [Option.some.injEq, Prod.mk.injEq] at h
    obtain ⟨rfl, rfl, rfl⟩ := h
    have hc := hlt c (by simp)
    have ht : ∀ d ∈ t.take (c % 128), d < 256 := fun d hd => hlt d (List.mem_cons_of_mem c (List.mem_of_mem_take hd))
    have hl : (t.take (c % 128)).length = c % 128 := by simp; omega
    have h0 : ¬ (0 < (t.take (c % 128)).length ∧ (t.take (c % 128)).getD 0 0 = 0) := by
      rw [hl]
      intro hq
      exact h3 ⟨hq.1, by have := hq.2; simpa [List.getElem?_take, hq.1] using this⟩
    have hs := sz_val _ ht h0
    have he := enc_val _ ht
    rw [hl] at hs he
    refine ⟨?_, ?_⟩
    · unfold num
      rw [hs, he, List.cons_append, List.take_append_drop]
      congr 1
      by_cases hq : 128 ≤ c
      · simp [hq]; omega
      · simp [hq]; omega
    · have h8 := val_lt _ ht
      rw [hl] at h8
      have : 2 ^ (8 * (c % 128)) ≤ 2 ^ 64 := Nat.pow_le_pow_right (by omega) (by omega)
      have e : (2 : Nat) ^ 64 = 18446744073709551616 := by decide
      omega
/- What two readers and two writers leave of each other. -/
open Go.RowKit

/-- A reader's bytes don't lie in another's block. -/
theorem RR.other {w w' : World} {b b' : Nat} {ds es : List Nat} {bad bad' : Bool} (h : RR w b ds bad) (h' : RR w b' es bad') (ht : Rd b' w w') (hne : b ≠ b') : RR w' b ds bad := by
  obtain ⟨v, h1, h2, h3, h4⟩ := h
  obtain ⟨v', k1, k2, _⟩ := h'
  refine ⟨v, (ht.block b (lt_of_block h1) hne (by simp [Value.ownBlock])).trans h1, ?_, h3, h4⟩
  obtain ⟨g1, g2, g3⟩ := h2
  refine ⟨g1, g2, ?_⟩
  rcases g3 with g3 | ⟨x, cap, hv, ha, hm, hc⟩
  · exact .inl g3
  · refine .inr ⟨x, cap, hv, ha, hm, fun i hi => ?_⟩
    have hb : (x.add i).block ≠ b' := by
      intro e
      have hci := hc i hi
      obtain ⟨e2, _⟩ := cell_spot hci
      rw [e2, e] at hci
      unfold World.cell? at hci
      simp only [k1] at hci
      have : (#[v', Value.bool bad'] : Array Value)[(x.add i).off]? = some (Value.int .u8 ((ds.getD i 0 : Nat) : Int)) := by simpa using hci
      rcases h0 : (x.add i).off with _ | _ | k
      · rw [h0] at this
        simp at this
        obtain ⟨a, n, c, hv'⟩ : ∃ a n c, v' = .slice a n c := by
          obtain ⟨a, cap, hq, _, _⟩ := k2.shape
          exact ⟨_, _, _, hq⟩
        rw [hv'] at this
        cases this
      · rw [h0] at this; simp at this
      · rw [h0] at this; simp at this
    rw [ht.cell (p := x.add i) (cell_spot (hc i hi)).2 hb (by simp [Value.ownBlock])]
    exact hc i hi
theorem WR.other {w w' : World} {b b2 base : Nat} {v v2 : Value} {bs : List Nat} (h : WR w b base v bs) (ht : Turn b2 v2 w w') (hne : b ≠ b2) (h1 : v.ownBlock ≠ some b2) (h2 : v2.ownBlock ≠ some b) (h3 : ∀ k, v.ownBlock = some k → v2.ownBlock ≠ some k) : WR w' b base v bs := by
  obtain ⟨g1, g2, g3, g4, g5⟩ := h
  refine ⟨(ht.block b (lt_of_block g1) hne (fun e => h2 e.symm)).trans g1, g2, Nat.le_trans g3 ht.size, ?_, g5⟩
  obtain ⟨k1, k2⟩ := g4
  refine ⟨k1, ?_⟩
  rcases k2 with k2 | ⟨g, cap, cur, hv, hg, hh, r⟩
  · exact .inl k2
  · refine .inr ⟨g, cap, cur, hv, hg, ?_, r⟩
    have hvb : v.ownBlock = some g := by rw [hv]; rfl
    rw [ht.block g (Array.getElem?_eq_some_iff.mp hh).1 (fun e => h1 (by rw [hvb, e])) (fun e => h3 g hvb e.symm)]
    exact hh
/-- Num's reading, whatever it is. -/
theorem num_once (b : Nat) (ds : List Nat) (w : World) (hr : RR w b ds false) :
    Calls Try.prog 71 #[.pointer (some ⟨b, 0, none⟩), .int .u64 18446744073709551615] w fun e w' => ∃ n rest bad, e = .returned (.int .u64 ((n : Nat) : Int)) ∧ RR w' b rest bad ∧ Rd b w w' ∧ n < 18446744073709551616 ∧ (bad = false → ds = num 0 n ++ rest) := by
  have hlt : ∀ c ∈ ds, c < 256 := by obtain ⟨v, _, h2, _⟩ := hr; exact h2.1
  have hn := num_rd b 18446744073709551615 ds false w hr
  have e : ((18446744073709551615 : Nat) : Int) = 18446744073709551615 := rfl
  rw [e] at hn
  refine hn.mono fun e w' h => ?_
  cases hq : rNum 18446744073709551615 ds with
  | none =>
    rw [hq] at h
    obtain ⟨h1, h2, h3⟩ := h.1 rfl
    exact ⟨0, [], true, h1, h2, h3, by omega, by simp⟩
  | some p =>
    obtain ⟨n, rest⟩ := p
    rw [hq] at h
    obtain ⟨h1, h2, h3⟩ := h.2 _ _ rfl
    unfold rNum at hq
    cases hp : rnum ds with
    | none => rw [hp] at hq; simp at hq
    | some q =>
      obtain ⟨m, bl, r⟩ := q
      rw [hp] at hq
      cases bl with
      | true => simp at hq
      | false =>
        obtain ⟨hx, hy⟩ := rnum_enc hp hlt
        have hm : m = n ∧ r = rest := by
          by_cases hle : m ≤ 18446744073709551615
          · simpa [hle] using hq
          · simp [hle] at hq
        obtain ⟨rfl, rfl⟩ := hm
        exact ⟨m, r, false, h1, h2, h3, hy, fun _ => by simpa using hx⟩
/-- Int's reading, whatever it is. -/
theorem int_once (b : Nat) (ds : List Nat) (w : World) (hr : RR w b ds false) :
    Calls Try.prog 72 #[.pointer (some ⟨b, 0, none⟩)] w fun e w' => ∃ n rest bad, e = .returned (.int .i64 n) ∧ RR w' b rest bad ∧ Rd b w w' ∧ -9223372036854775808 ≤ n ∧ n ≤ 9223372036854775807 ∧ (bad = false → ds = intB n ++ rest) := by
  have hlt : ∀ c ∈ ds, c < 256 := by obtain ⟨v, _, h2, _⟩ := hr; exact h2.1
  refine (int_rd b ds false w hr).mono fun e w' h => ?_
  cases hp : rnum ds with
  | none =>
    rw [rInt_none hp] at h
    obtain ⟨h1, h2, h3⟩ := h.1 rfl
    exact ⟨0, [], true, h1, h2, h3, by omega, by omega, by simp⟩
  | some q =>
    obtain ⟨m, bl, r⟩ := q
    by_cases hle : m ≤ 9223372036854775807
    · rw [rInt_some hp hle] at h
      obtain ⟨h1, h2, h3⟩ := h.2 _ _ rfl
      obtain ⟨hx, _⟩ := rnum_enc hp hlt
      refine ⟨_, r, false, h1, h2, h3, ?_, ?_, fun _ => ?_⟩
      · cases bl <;> simp <;> omega
      · cases bl <;> simp <;> omega
      · cases bl with
        | true =>
          have e : intB (-1 - (m : Int)) = num 128 m := by
            unfold intB
            rw [if_pos (by omega)]
            congr 1
            omega
          simpa [e] using hx
        | false =>
          have e : intB (m : Int) = num 0 m := by
            unfold intB
            rw [if_neg (by omega), Int.toNat_natCast]
          simpa [e] using hx
    · rw [rInt_big hp hle] at h
      obtain ⟨h1, h2, h3⟩ := h.1 rfl
      exact ⟨0, [], true, h1, h2, h3, by omega, by omega, by simp⟩
/- What was written is read as it was: the bytes. -/
open Go.RowKit

theorem val_enc_mod (j n : Nat) : val (enc j n) = n % 2 ^ (8 * j) := by
  induction j with
  | zero => simp [enc, val, Nat.mod_one]
  | succ j ih =>
    rw [enc, val_cons, enc_len, ih, show 8 * (j + 1) = 8 * j + 8 by omega, Nat.pow_add, show (2 : Nat) ^ 8 = 256 from rfl, Nat.mod_mul, Nat.mul_comm (n / 2 ^ (8 * j) % 256), Nat.add_comm]
theorem enc_head (n : Nat) (h : 0 < sz n) (hs : n < 18446744073709551616) : (enc (sz n) n).getD 0 0 ≠ 0 := by
  have h1 := sz_low n h
  have h2 := sz_up n
  rw [enc_get (sz n) n 0 (sz n - 1) (by omega)]
  have hp : 0 < 2 ^ (8 * (sz n - 1)) := Nat.two_pow_pos _
  have h3 : 0 < n / 2 ^ (8 * (sz n - 1)) := Nat.div_pos h1 hp
  have h4 : n / 2 ^ (8 * (sz n - 1)) < 256 := by
    rw [Nat.div_lt_iff_lt_mul hp, show (256 : Nat) = 2 ^ 8 from rfl, ← Nat.pow_add, show 8 + 8 * (sz n - 1) = 8 * sz n by omega]
    exact h2
  omega
/-- A number that was written reads as itself, whatever stands behind it. -/
theorem rnum_back (n : Nat) (bl : Bool) (rest : List Nat) (h : n < 18446744073709551616) : rnum (num (if bl then 128 else 0) n ++ rest) = some (n, bl, rest) := by
  have h8 := sz_le n h
  have hm : ((if bl then 128 else 0) + sz n) % 128 = sz n := by cases bl <;> simp <;> omega
  have hb : decide (128 ≤ (if bl then 128 else 0) + sz n) = bl := by
    cases bl
    · simp; omega
    · simp
  have hl := enc_len (sz n) n
  have ht : (enc (sz n) n ++ rest).take (sz n) = enc (sz n) n := by rw [List.take_append_of_le_length (by omega), List.take_of_length_le (by omega)]
  have hd : (enc (sz n) n ++ rest).drop (sz n) = rest := by rw [List.drop_append_of_le_length (by omega), List.drop_of_length_le (by omega)]; rfl
  unfold num
  rw [List.cons_append, rnum, hm, hb, ht, hd, val_enc_mod, Nat.mod_eq_of_lt (sz_up n), if_neg (by omega), if_neg (by rw [List.length_append]; omega), if_neg]
  rintro ⟨h1, h2⟩
  refine enc_head n h1 h ?_
  have h3 : (enc (sz n) n).getD 0 0 = (enc (sz n) n ++ rest).getD 0 0 := by rw [List.getD_eq_getElem?_getD, List.getD_eq_getElem?_getD, List.getElem?_append_left (by omega)]
  exact h3.trans h2
theorem rNum_back (n : Nat) (rest : List Nat) (h : n < 18446744073709551616) (most : Nat) (hm : n ≤ most) : rNum most (num 0 n ++ rest) = some (n, rest) := by
  have := rnum_back n false rest h
  unfold rNum
  rw [show num 0 n ++ rest = num (if false = true then 128 else 0) n ++ rest from rfl, this]
  exact if_pos hm
theorem rInt_back (z : Int) (rest : List Nat) (h1 : -9223372036854775808 ≤ z) (h2 : z ≤ 9223372036854775807) : rInt (intB z ++ rest) = some (z, rest) := by
  unfold intB
  split
  · have := rnum_back (-1 - z).toNat true rest (by omega)
    rw [if_pos rfl] at this
    rw [rInt_some (n := (-1 - z).toNat) (bl := true) this (by omega)]
    simp only [if_true]
    congr 2
    omega
  · have := rnum_back z.toNat false rest (by omega)
    rw [if_neg Bool.false_ne_true] at this
    rw [rInt_some (n := z.toNat) (bl := false) this (by omega)]
    simp only [Bool.false_eq_true, if_false]
    congr 2
    omega
theorem rFlag_back (x : Bool) (rest : List Nat) : rFlag (flagB x ++ rest) = some (x, rest) := by
  unfold rFlag flagB
  cases x
  · simp only [Bool.false_eq_true, if_false]
    rw [rNum_back 0 rest (by omega) 1 (by omega)]; rfl
  · simp only [if_true]
    rw [rNum_back 1 rest (by omega) 1 (by omega)]; rfl
theorem rText_back (s : ByteArray) (rest : List Nat) (hs : s.size ≤ 1000) : rText (s.size : Int) (num 0 s.size ++ sB s ++ rest) = some (sB s, rest) := by
  unfold rText
  rw [if_neg (by omega), List.append_assoc, Int.toNat_natCast, rNum_back s.size _ (by omega) s.size (Nat.le_refl _)]
  have hl := sB_len s
  simp only [List.length_append, hl, if_pos (Nat.le_add_right _ _)]
  congr 2
  · rw [List.take_append_of_le_length (by omega), List.take_of_length_le (by omega)]
  · rw [List.drop_append_of_le_length (by omega), List.drop_of_length_le (by omega)]; rfl
theorem str_sB (s : ByteArray) : str (sB s) = s := by
  unfold str sB
  have e : (UInt8.ofNat ∘ UInt8.toNat) = id := by funext c; simp
  rw [List.map_map, e, List.map_id]
/- The other reader, by definition: its parts. -/
open Go.RowKit

/-- The other reader: what is left, and whether it is bad. -/
def RF (w : World) (b : Nat) (ds : List Nat) (bad : Bool) : Prop :=
  ∃ v, w.heap[b]? = some (.cells #[v, .bool bad] 95 (0, 0)) ∧ RB w v ds ∧ Far b v ∧ (bad = true → ds = [])
theorem RF.kept {w w' : World} {b : Nat} {ds : List Nat} {bad : Bool} (h : RF w b ds bad) (hb : Below w.heap.size w w') : RF w' b ds bad := by
  obtain ⟨v, h1, h2, h3, h4⟩ := h
  exact ⟨v, (hb.block b (lt_of_block h1)).trans h1, h2.kept hb, h3, h4⟩
theorem fail_rf (b : Nat) (ds : List Nat) (bad : Bool) (w : World) (hr : RF w b ds bad) :
    Calls Try.prog 107 #[.pointer (some ⟨b, 0, none⟩)] w fun e w' => e = .returned (.tuple #[]) ∧ RF w' b [] true ∧ Rd b w w' := by
  obtain ⟨v, h1, h2, h3, h4⟩ := hr
  obtain ⟨c0, c1, f0, f1⟩ := two_cells h1
  have HE := Lib.hid h1
  clear h1 h2 h3 h4
  go_enter Try.func107, Try.ntmps107
  go_wp2
  go_end0
  refine ⟨rfl, ⟨.slice none 0 0, ?_, RB.nil _, Far.nil _, fun _ => rfl⟩, Rd.set (Rd.set (Turn.refl _ _ _) 0 _) 1 _⟩
  exact heap_set (heap_set HE.out 0 _) 1 _
theorem first_no (b : Nat) (bad : Bool) (w : World) (hr : RF w b [] bad) :
    Calls Try.prog 123 #[.pointer (some ⟨b, 0, none⟩)] w fun e w' => e = .returned (.tuple #[.int .u8 0, .bool false]) ∧ w = w' := by
  obtain ⟨v, h1, h2, h3, h4⟩ := hr
  obtain ⟨a, cap, rfl⟩ := h2.shapeN' (n := 0) rfl
  obtain ⟨c0, c1, f0, f1⟩ := two_cells h1
  clear h1 h2 h3 h4
  go_enter Try.func123, Try.ntmps123
  go_wp2
  go_ret2
  exact ⟨rfl, rfl⟩
/-- What first hands back where there is one. -/
def First (b : Nat) (w : World) (c : Nat) (t : List Nat) (e : Ending) (w' : World) : Prop := e = .returned (.tuple #[.int .u8 (c : Int), .bool true]) ∧ RF w' b t false ∧ Rd b w w'
theorem firsts {w : World} {b L cap k c' c : Nat} {x y : Addr} {t : List Nat} (hh : w.heap[b]? = some (.cells #[.slice (some x) L cap, .bool false] 95 (0, 0))) (h : RB w (.slice (some x) L cap) (c :: t))
    (h3 : Far b (Value.slice (some x) L cap)) (hy : y = x.add 1 ∨ (1 = (c :: t).length ∧ y = x)) (hk : k = (c :: t).length - 1) (hkc : k ≤ c') (hcm : c' ≤ maxLen) :
    First b w c t (.returned (.tuple #[.int .u8 (c : Int), .bool true])) (w.setCell ⟨b, 0, none⟩ (.slice (some y) k c')) := by
  have ht : Rd b w (w.setCell ⟨b, 0, none⟩ (.slice (some y) k c')) := Rd.set (Turn.refl _ _ _) 0 _
  have hb2 := own_addr (n := k) (c := c') h3 (y := y) (hy.elim (fun h => .inr ⟨1, h⟩) (fun h => .inl h.2))
  have hd := rb_drop h 1 (by simp) (hy.elim .inl (fun h => .inr h.1)) hk hkc hcm
  exact ⟨rfl, ⟨_, heap_set hh 0 _, hd.turned ht hb2.ne, hb2, fun hb => by cases hb⟩, ht⟩
set_option maxHeartbeats 1000000 in
theorem first_yes (b c : Nat) (t : List Nat) (w : World) (hr : RF w b (c :: t) false) :
    Calls Try.prog 123 #[.pointer (some ⟨b, 0, none⟩)] w (First b w c t) := by
  obtain ⟨v, h1, h2, h3, h4⟩ := hr
  obtain ⟨c0, c1, f0, f1⟩ := two_cells h1
  obtain ⟨xb, off, cap, hv, hcl, hcm, hx, hcell⟩ := h2.at (by simp)
  subst hv
  have hc : w.cell? ⟨xb, off, none⟩ = some (.int .u8 (c : Int)) := hcell 0 (by simp)
  have hl : (c :: t).length = t.length + 1 := rfl
  obtain ⟨T, hT⟩ : ∃ T, t.length = T := ⟨_, rfl⟩
  rw [hl, hT] at h1 h2 h3 hcl c0
  have HE := Lib.hid h1
  have H2 := Lib.hid h2
  have H3 := Lib.hid h3
  clear h1 h2 h3 h4 hcell
  have HTT := Lib.hid hT
  by_cases hcn : cap = 1
  · obtain rfl : T = 0 := by omega
    subst hcn
    go_enter Try.func123, Try.ntmps123
    go_wp2
    go_ret2
    exact firsts HE.out H2.out H3.out (.inr ⟨by simp [HTT.out], rfl⟩) (by simp [HTT.out]) (by simp) (by simp)
  · go_enter Try.func123, Try.ntmps123
    go_wp2
    go_ret2
    exact firsts HE.out H2.out H3.out (.inl rfl) (by simp [HTT.out]) (by omega) (by omega)
end Go.Proofs.Ytibjboacjobaoaa

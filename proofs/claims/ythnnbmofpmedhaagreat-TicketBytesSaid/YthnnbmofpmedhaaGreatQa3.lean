import Derived.Test.YthnnbmofpmedhaaGreatQa2
import Derived.Deep.RegionWith
namespace Go.Proofs.YthnnbmofpmedhaaGreat
open Go.RowKit
/- What is read as a number is its own encoding. -/

theorem val_cons (c : Nat) (l : List Nat) : val (c :: l) = c * 2 ^ (8 * l.length) + val l := by
  have key : ∀ (l : List Nat) (a : Nat), l.foldl (fun n c => n * 256 + c) a = a * 2 ^ (8 * l.length) + l.foldl (fun n c => n * 256 + c) 0 := by
    intro l
    induction l with
    | nil => intro a; simp
    | cons d l ih =>
      intro a
      rw [List.foldl_cons, List.foldl_cons, ih (a * 256 + d), ih (0 * 256 + d), List.length_cons, Nat.mul_add, Nat.pow_add]
      generalize 2 ^ (8 * l.length) = p
      have e : (2 : Nat) ^ (8 * 1) = 256 := rfl
      rw [e, Nat.zero_mul, Nat.zero_add, Nat.add_mul, Nat.mul_assoc, Nat.mul_comm 256 p, Nat.add_assoc]
  unfold val
  rw [List.foldl_cons, key l (0 * 256 + c), Nat.zero_mul, Nat.zero_add]
theorem val_lt (l : List Nat) (h : ∀ c ∈ l, c < 256) : val l < 2 ^ (8 * l.length) := by
  have := val_take_lt l h l.length (Nat.le_refl _)
  rwa [List.take_length] at this
theorem enc_mod (j a b : Nat) : enc j (a * 2 ^ (8 * j) + b) = enc j b := by
  induction j generalizing a b with
  | zero => rfl
  | succ j ih =>
    have e : a * 2 ^ (8 * (j + 1)) = a * 256 * 2 ^ (8 * j) := by
      rw [Nat.mul_add, Nat.pow_add, Nat.mul_assoc, Nat.mul_comm 256]
    rw [enc, enc, e, ih]
    congr 1
    have hp : 0 < 2 ^ (8 * j) := Nat.two_pow_pos _
    rw [Nat.mul_comm (a * 256), Nat.mul_add_div hp]
    omega
theorem enc_val (l : List Nat) (h : ∀ c ∈ l, c < 256) : enc l.length (val l) = l := by
  induction l with
  | nil => rfl
  | cons c l ih =>
    have hl := fun d hd => h d (List.mem_cons_of_mem c hd)
    have hc := h c (by simp)
    have hv := val_lt l hl
    rw [List.length_cons, enc, val_cons, enc_mod, ih hl]
    congr 1
    have hp : 0 < 2 ^ (8 * l.length) := Nat.two_pow_pos _
    rw [Nat.mul_comm c, Nat.mul_add_div hp, Nat.div_eq_of_lt hv]
    omega
theorem sz_val (l : List Nat) (h : ∀ c ∈ l, c < 256) (h0 : ¬ (0 < l.length ∧ l.getD 0 0 = 0)) : sz (val l) = l.length := by
  refine sz_unique _ _ (val_lt l h) fun hp => ?_
  cases l with
  | nil => simp at hp
  | cons c l =>
    have hc : c ≠ 0 := fun e => h0 ⟨by simp, by simpa using e⟩
    rw [val_cons, List.length_cons, Nat.add_sub_cancel]
    have : 1 * 2 ^ (8 * l.length) ≤ c * 2 ^ (8 * l.length) := Nat.mul_le_mul_right _ (by omega)
    omega
/-- What number reads is what is written of it, with what is left behind it. -/
theorem rnum_enc {ds rest : List Nat} {n : Nat} {bl : Bool} (h : rnum ds = some (n, bl, rest)) (hlt : ∀ c ∈ ds, c < 256) : ds = num (if bl then 128 else 0) n ++ rest ∧ n < 18446744073709551616 := by
  cases ds with
  | nil => simp [rnum] at h
  | cons c t =>
    rw [rnum] at h
    split at h
    · cases h
    rename_i h1
    split at h
    · cases h
    rename_i h2
    split at h
    · cases h
    rename_i h3
    simp only [Option.some.injEq, Prod.mk.injEq] at h
    obtain ⟨rfl, rfl, rfl⟩ := h
    have hc := hlt c (by simp)
    have ht : ∀ d ∈ t.take (c % 128), d < 256 := fun d hd => hlt d (List.mem_cons_of_mem c (List.mem_of_mem_take hd))
    have hl : (t.take (c % 128)).length = c % 128 := by simp; omega
    have h0 : ¬ (0 < (t.take (c % 128)).length ∧ (t.take (c % 128)).getD 0 0 = 0) := by
      rw [hl]
      intro hq
      exact h3 ⟨hq.1, by have := hq.2; simpa [List.getElem?_take, hq.1] using this⟩
    have hs := sz_val _ ht h0
    have he := enc_val _ ht
    rw [hl] at hs he
    refine ⟨?_, ?_⟩
    · unfold num
      rw [hs, he, List.cons_append, List.take_append_drop]
      congr 1
      by_cases hq : 128 ≤ c
      · simp [hq]; omega
      · simp [hq]; omega
    · have h8 := val_lt _ ht
      rw [hl] at h8
      have : 2 ^ (8 * (c % 128)) ≤ 2 ^ 64 := Nat.pow_le_pow_right (by omega) (by omega)
      have e : (2 : Nat) ^ 64 = 18446744073709551616 := by decide
      omega
/- What two readers and two writers leave of each other. -/
open Go.RowKit

/-- A reader's bytes don't lie in another's block. -/
theorem RR.other {w w' : World} {b b' : Nat} {ds es : List Nat} {bad bad' : Bool} (h : RR w b ds bad) (h' : RR w b' es bad') (ht : Rd b' w w') (hne : b ≠ b') : RR w' b ds bad := by
  obtain ⟨v, h1, h2, h3, h4⟩ := h
  obtain ⟨v', k1, k2, _⟩ := h'
  refine ⟨v, (ht.block b (lt_of_block h1) hne (by simp [Value.ownBlock])).trans h1, ?_, h3, h4⟩
  obtain ⟨g1, g2, g3⟩ := h2
  refine ⟨g1, g2, ?_⟩
  rcases g3 with g3 | ⟨x, cap, hv, ha, hm, hc⟩
  · exact .inl g3
  · refine .inr ⟨x, cap, hv, ha, hm, fun i hi => ?_⟩
    have hb : (x.add i).block ≠ b' := by
      intro e
      have hci := hc i hi
      obtain ⟨e2, _⟩ := cell_spot hci
      rw [e2, e] at hci
      unfold World.cell? at hci
      simp only [k1] at hci
      have : (#[v', Value.bool bad'] : Array Value)[(x.add i).off]? = some (Value.int .u8 ((ds.getD i 0 : Nat) : Int)) := by simpa using hci
      rcases h0 : (x.add i).off with _ | _ | k
      · rw [h0] at this
        simp at this
        obtain ⟨a, n, c, hv'⟩ : ∃ a n c, v' = .slice a n c := by
          obtain ⟨a, cap, hq, _, _⟩ := k2.shape
          exact ⟨_, _, _, hq⟩
        rw [hv'] at this
        cases this
      · rw [h0] at this; simp at this
      · rw [h0] at this; simp at this
    rw [ht.cell (p := x.add i) (cell_spot (hc i hi)).2 hb (by simp [Value.ownBlock])]
    exact hc i hi
theorem WR.other {w w' : World} {b b2 base : Nat} {v v2 : Value} {bs : List Nat} (h : WR w b base v bs) (ht : Turn b2 v2 w w') (hne : b ≠ b2) (h1 : v.ownBlock ≠ some b2) (h2 : v2.ownBlock ≠ some b) (h3 : ∀ k, v.ownBlock = some k → v2.ownBlock ≠ some k) : WR w' b base v bs := by
  obtain ⟨g1, g2, g3, g4, g5⟩ := h
  refine ⟨(ht.block b (lt_of_block g1) hne (fun e => h2 e.symm)).trans g1, g2, Nat.le_trans g3 ht.size, ?_, g5⟩
  obtain ⟨k1, k2⟩ := g4
  refine ⟨k1, ?_⟩
  rcases k2 with k2 | ⟨g, cap, cur, hv, hg, hh, r⟩
  · exact .inl k2
  · refine .inr ⟨g, cap, cur, hv, hg, ?_, r⟩
    have hvb : v.ownBlock = some g := by rw [hv]; rfl
    rw [ht.block g (Array.getElem?_eq_some_iff.mp hh).1 (fun e => h1 (by rw [hvb, e])) (fun e => h3 g hvb e.symm)]
    exact hh
/-- Num's reading, whatever it is. -/
theorem num_once (b : Nat) (ds : List Nat) (w : World) (hr : RR w b ds false) :
    Calls Tryz.prog 53 #[.pointer (some ⟨b, 0, none⟩), .int .u64 18446744073709551615] w fun e w' => ∃ n rest bad, e = .returned (.int .u64 ((n : Nat) : Int)) ∧ RR w' b rest bad ∧ Rd b w w' ∧ n < 18446744073709551616 ∧ (bad = false → ds = num 0 n ++ rest) := by
  have hlt : ∀ c ∈ ds, c < 256 := by obtain ⟨v, _, h2, _⟩ := hr; exact h2.1
  have hn := num_rd b 18446744073709551615 ds false w hr
  have e : ((18446744073709551615 : Nat) : Int) = 18446744073709551615 := rfl
  rw [e] at hn
  refine hn.mono fun e w' h => ?_
  cases hq : rNum 18446744073709551615 ds with
  | none =>
    rw [hq] at h
    obtain ⟨h1, h2, h3⟩ := h.1 rfl
    exact ⟨0, [], true, h1, h2, h3, by omega, by simp⟩
  | some p =>
    obtain ⟨n, rest⟩ := p
    rw [hq] at h
    obtain ⟨h1, h2, h3⟩ := h.2 _ _ rfl
    unfold rNum at hq
    cases hp : rnum ds with
    | none => rw [hp] at hq; simp at hq
    | some q =>
      obtain ⟨m, bl, r⟩ := q
      rw [hp] at hq
      cases bl with
      | true => simp at hq
      | false =>
        obtain ⟨hx, hy⟩ := rnum_enc hp hlt
        have hm : m = n ∧ r = rest := by
          by_cases hle : m ≤ 18446744073709551615
          · simpa [hle] using hq
          · simp [hle] at hq
        obtain ⟨rfl, rfl⟩ := hm
        exact ⟨m, r, false, h1, h2, h3, hy, fun _ => by simpa using hx⟩
/-- Int's reading, whatever it is. -/
theorem int_once (b : Nat) (ds : List Nat) (w : World) (hr : RR w b ds false) :
    Calls Tryz.prog 33 #[.pointer (some ⟨b, 0, none⟩)] w fun e w' => ∃ n rest bad, e = .returned (.int .i64 n) ∧ RR w' b rest bad ∧ Rd b w w' ∧ -9223372036854775808 ≤ n ∧ n ≤ 9223372036854775807 ∧ (bad = false → ds = intB n ++ rest) := by
  have hlt : ∀ c ∈ ds, c < 256 := by obtain ⟨v, _, h2, _⟩ := hr; exact h2.1
  refine (int_rd b ds false w hr).mono fun e w' h => ?_
  cases hp : rnum ds with
  | none =>
    rw [rInt_none hp] at h
    obtain ⟨h1, h2, h3⟩ := h.1 rfl
    exact ⟨0, [], true, h1, h2, h3, by omega, by omega, by simp⟩
  | some q =>
    obtain ⟨m, bl, r⟩ := q
    by_cases hle : m ≤ 9223372036854775807
    · rw [rInt_some hp hle] at h
      obtain ⟨h1, h2, h3⟩ := h.2 _ _ rfl
      obtain ⟨hx, _⟩ := rnum_enc hp hlt
      refine ⟨_, r, false, h1, h2, h3, ?_, ?_, fun _ => ?_⟩
      · cases bl <;> simp <;> omega
      · cases bl <;> simp <;> omega
      · cases bl with
        | true =>
          have e : intB (-1 - (m : Int)) = num 128 m := by
            unfold intB
            rw [if_pos (by omega)]
            congr 1
            omega
          simpa [e] using hx
        | false =>
          have e : intB (m : Int) = num 0 m := by
            unfold intB
            rw [if_neg (by omega), Int.toNat_natCast]
          simpa [e] using hx
    · rw [rInt_big hp hle] at h
      obtain ⟨h1, h2, h3⟩ := h.1 rfl
      exact ⟨0, [], true, h1, h2, h3, by omega, by omega, by simp⟩
/- What was written is read as it was: the bytes. -/
open Go.RowKit

theorem val_enc_mod (j n : Nat) : val (enc j n) = n % 2 ^ (8 * j) := by
  induction j with
  | zero => simp [enc, val, Nat.mod_one]
  | succ j ih =>
    rw [enc, val_cons, enc_len, ih, show 8 * (j + 1) = 8 * j + 8 by omega, Nat.pow_add, show (2 : Nat) ^ 8 = 256 from rfl, Nat.mod_mul, Nat.mul_comm (n / 2 ^ (8 * j) % 256), Nat.add_comm]
theorem enc_head (n : Nat) (h : 0 < sz n) (hs : n < 18446744073709551616) : (enc (sz n) n).getD 0 0 ≠ 0 := by
  have h1 := sz_low n h
  have h2 := sz_up n
  rw [enc_get (sz n) n 0 (sz n - 1) (by omega)]
  have hp : 0 < 2 ^ (8 * (sz n - 1)) := Nat.two_pow_pos _
  have h3 : 0 < n / 2 ^ (8 * (sz n - 1)) := Nat.div_pos h1 hp
  have h4 : n / 2 ^ (8 * (sz n - 1)) < 256 := by
    rw [Nat.div_lt_iff_lt_mul hp, show (256 : Nat) = 2 ^ 8 from rfl, ← Nat.pow_add, show 8 + 8 * (sz n - 1) = 8 * sz n by omega]
    exact h2
  omega
/-- A number that was written reads as itself, whatever stands behind it. -/
theorem rnum_back (n : Nat) (bl : Bool) (rest : List Nat) (h : n < 18446744073709551616) : rnum (num (if bl then 128 else 0) n ++ rest) = some (n, bl, rest) := by
  have h8 := sz_le n h
  have hm : ((if bl then 128 else 0) + sz n) % 128 = sz n := by cases bl <;> simp <;> omega
  have hb : decide (128 ≤ (if bl then 128 else 0) + sz n) = bl := by
    cases bl
    · simp; omega
    · simp
  have hl := enc_len (sz n) n
  have ht : (enc (sz n) n ++ rest).take (sz n) = enc (sz n) n := by rw [List.take_append_of_le_length (by omega), List.take_of_length_le (by omega)]
  have hd : (enc (sz n) n ++ rest).drop (sz n) = rest := by rw [List.drop_append_of_le_length (by omega), List.drop_of_length_le (by omega)]; rfl
  unfold num
  rw [List.cons_append, rnum, hm, hb, ht, hd, val_enc_mod, Nat.mod_eq_of_lt (sz_up n), if_neg (by omega), if_neg (by rw [List.length_append]; omega), if_neg]
  rintro ⟨h1, h2⟩
  refine enc_head n h1 h ?_
  have h3 : (enc (sz n) n).getD 0 0 = (enc (sz n) n ++ rest).getD 0 0 := by rw [List.getD_eq_getElem?_getD, List.getD_eq_getElem?_getD, List.getElem?_append_left (by omega)]
  exact h3.trans h2
theorem rNum_back (n : Nat) (rest : List Nat) (h : n < 18446744073709551616) (most : Nat) (hm : n ≤ most) : rNum most (num 0 n ++ rest) = some (n, rest) := by
  have := rnum_back n false rest h
  unfold rNum
  rw [show num 0 n ++ rest = num (if false = true then 128 else 0) n ++ rest from rfl, this]
  exact if_pos hm
theorem rInt_back (z : Int) (rest : List Nat) (h1 : -9223372036854775808 ≤ z) (h2 : z ≤ 9223372036854775807) : rInt (intB z ++ rest) = some (z, rest) := by
  unfold intB
  split
  · have := rnum_back (-1 - z).toNat true rest (by omega)
    rw [if_pos rfl] at this
    rw [rInt_some (n := (-1 - z).toNat) (bl := true) this (by omega)]
    simp only [if_true]
    congr 2
    omega
  · have := rnum_back z.toNat false rest (by omega)
    rw [if_neg Bool.false_ne_true] at this
    rw [rInt_some (n := z.toNat) (bl := false) this (by omega)]
    simp only [Bool.false_eq_true, if_false]
    congr 2
    omega
theorem rFlag_back (x : Bool) (rest : List Nat) : rFlag (flagB x ++ rest) = some (x, rest) := by
  unfold rFlag flagB
  cases x
  · simp only [Bool.false_eq_true, if_false]
    rw [rNum_back 0 rest (by omega) 1 (by omega)]; rfl
  · simp only [if_true]
    rw [rNum_back 1 rest (by omega) 1 (by omega)]; rfl
theorem rText_back (s : ByteArray) (rest : List Nat) (hs : s.size ≤ 1000) : rText (s.size : Int) (num 0 s.size ++ sB s ++ rest) = some (sB s, rest) := by
  unfold rText
  rw [if_neg (by omega), List.append_assoc, Int.toNat_natCast, rNum_back s.size _ (by omega) s.size (Nat.le_refl _)]
  have hl := sB_len s
  simp only [List.length_append, hl, if_pos (Nat.le_add_right _ _)]
  congr 2
  · rw [List.take_append_of_le_length (by omega), List.take_of_length_le (by omega)]
  · rw [List.drop_append_of_le_length (by omega), List.drop_of_length_le (by omega)]; rfl
theorem str_sB (s : ByteArray) : str (sB s) = s := by
  unfold str sB
  have e : (UInt8.ofNat ∘ UInt8.toNat) = id := by funext c; simp
  rw [List.map_map, e, List.map_id]
/- The other reader, by definition: its parts. -/
open Go.RowKit

/-- The other reader: what is left, and whether it is bad. -/
def RF (w : World) (b : Nat) (ds : List Nat) (bad : Bool) : Prop :=
  ∃ v, w.heap[b]? = some (.cells #[v, .bool bad] 42 (0, 0)) ∧ RB w v ds ∧ v.ownBlock ≠ some b ∧ (bad = true → ds = [])
theorem RF.kept {w w' : World} {b : Nat} {ds : List Nat} {bad : Bool} (h : RF w b ds bad) (hb : Below w.heap.size w w') : RF w' b ds bad := by
  obtain ⟨v, h1, h2, h3, h4⟩ := h
  exact ⟨v, (hb.block b (lt_of_block h1)).trans h1, h2.kept hb, h3, h4⟩
theorem fail_rf (b : Nat) (ds : List Nat) (bad : Bool) (w : World) (hr : RF w b ds bad) :
    Calls Tryz.prog 42 #[.pointer (some ⟨b, 0, none⟩)] w fun e w' => e = .returned (.tuple #[]) ∧ RF w' b [] true ∧ Rd b w w' := by
  obtain ⟨v, h1, h2, h3, h4⟩ := hr
  obtain ⟨c0, c1, f0, f1⟩ := two_cells h1
  have HE := Lib.hid h1
  clear h1 h2 h3 h4
  go_enter Tryz.func42, Tryz.ntmps42
  go_wp2
  go_end0
  refine ⟨rfl, ⟨.slice none 0 0, ?_, RB.nil _, by simp [Value.ownBlock], fun _ => rfl⟩, Rd.set (Rd.set (Turn.refl _ _ _) 0 _) 1 _⟩
  exact heap_set (heap_set HE.out 0 _) 1 _
theorem first_no (b : Nat) (bad : Bool) (w : World) (hr : RF w b [] bad) :
    Calls Tryz.prog 70 #[.pointer (some ⟨b, 0, none⟩)] w fun e w' => e = .returned (.tuple #[.int .u8 0, .bool false]) ∧ w = w' := by
  obtain ⟨v, h1, h2, h3, h4⟩ := hr
  obtain ⟨a, cap, rfl⟩ := h2.shapeN' (n := 0) rfl
  obtain ⟨c0, c1, f0, f1⟩ := two_cells h1
  clear h1 h2 h3 h4
  go_enter Tryz.func70, Tryz.ntmps70
  go_wp2
  go_ret2
  exact ⟨rfl, rfl⟩
/-- What first hands back where there is one. -/
def First (b : Nat) (w : World) (c : Nat) (t : List Nat) (e : Ending) (w' : World) : Prop := e = .returned (.tuple #[.int .u8 (c : Int), .bool true]) ∧ RF w' b t false ∧ Rd b w w'
theorem firsts {w : World} {b L cap k c' c : Nat} {x y : Addr} {t : List Nat} (hh : w.heap[b]? = some (.cells #[.slice (some x) L cap, .bool false] 42 (0, 0))) (h : RB w (.slice (some x) L cap) (c :: t))
    (h3 : (Value.slice (some x) L cap).ownBlock ≠ some b) (hy : y = x.add 1 ∨ (1 = (c :: t).length ∧ y = x)) (hk : k = (c :: t).length - 1) (hkc : k ≤ c') (hcm : c' ≤ maxLen) :
    First b w c t (.returned (.tuple #[.int .u8 (c : Int), .bool true])) (w.setCell ⟨b, 0, none⟩ (.slice (some y) k c')) := by
  have ht : Rd b w (w.setCell ⟨b, 0, none⟩ (.slice (some y) k c')) := Rd.set (Turn.refl _ _ _) 0 _
  have hb2 := own_addr (n := k) (c := c') h3 (y := y) (hy.elim (fun h => .inr ⟨1, h⟩) (fun h => .inl h.2))
  have hd := rb_drop h 1 (by simp) (hy.elim .inl (fun h => .inr h.1)) hk hkc hcm
  exact ⟨rfl, ⟨_, heap_set hh 0 _, hd.turned ht hb2, hb2, fun hb => by cases hb⟩, ht⟩
set_option maxHeartbeats 1000000 in
theorem first_yes (b c : Nat) (t : List Nat) (w : World) (hr : RF w b (c :: t) false) :
    Calls Tryz.prog 70 #[.pointer (some ⟨b, 0, none⟩)] w (First b w c t) := by
  obtain ⟨v, h1, h2, h3, h4⟩ := hr
  obtain ⟨c0, c1, f0, f1⟩ := two_cells h1
  obtain ⟨xb, off, cap, hv, hcl, hcm, hx, hcell⟩ := h2.at (by simp)
  subst hv
  have hc : w.cell? ⟨xb, off, none⟩ = some (.int .u8 (c : Int)) := hcell 0 (by simp)
  have hl : (c :: t).length = t.length + 1 := rfl
  obtain ⟨T, hT⟩ : ∃ T, t.length = T := ⟨_, rfl⟩
  rw [hl, hT] at h1 h2 h3 hcl c0
  have HE := Lib.hid h1
  have H2 := Lib.hid h2
  have H3 := Lib.hid h3
  clear h1 h2 h3 h4 hcell
  have HTT := Lib.hid hT
  by_cases hcn : cap = 1
  · obtain rfl : T = 0 := by omega
    subst hcn
    go_enter Tryz.func70, Tryz.ntmps70
    go_wp2
    go_ret2
    exact firsts HE.out H2.out H3.out (.inr ⟨by simp [HTT.out], rfl⟩) (by simp [HTT.out]) (by simp) (by simp)
  · go_enter Tryz.func70, Tryz.ntmps70
    go_wp2
    go_ret2
    exact firsts HE.out H2.out H3.out (.inl rfl) (by simp [HTT.out]) (by omega) (by omega)
/- The other reader: its number of so many bytes. -/
open Go.RowKit

/-- number fails: nothing has turned. -/
def NumF (w : World) (e : Ending) (w' : World) : Prop := e = .returned (.tuple #[.int .u64 0, .bool false]) ∧ w = w'
set_option maxHeartbeats 1000000 in
theorem rfnum_big8 (b n : Nat) (ds : List Nat) (bad : Bool) (w : World) (h : 8 < n) : Calls Tryz.prog 71 #[.pointer (some ⟨b, 0, none⟩), .int .i64 (n : Int)] w (NumF w) := by
  have hd : decide ((8 : Int) < (n : Int)) = true := by simp; omega
  clear h
  go_enter Tryz.func71, Tryz.ntmps71
  go_wp2
  go_ret2
  exact ⟨rfl, rfl⟩
set_option maxHeartbeats 1000000 in
theorem rfnum_short (b n : Nat) (ds : List Nat) (bad : Bool) (w : World) (hr : RF w b ds bad) (h8 : n ≤ 8) (h : ds.length < n) : Calls Tryz.prog 71 #[.pointer (some ⟨b, 0, none⟩), .int .i64 (n : Int)] w (NumF w) := by
  obtain ⟨v, h1, h2, h3, h4⟩ := hr
  obtain ⟨L, hL⟩ : ∃ L, ds.length = L := ⟨_, rfl⟩
  obtain ⟨a, cap, rfl⟩ := h2.shapeN' hL
  obtain ⟨c0, c1, f0, f1⟩ := two_cells h1
  rw [hL] at h
  have hd : decide ((8 : Int) < (n : Int)) = false := by simp; omega
  have he : decide ((L : Int) < (n : Int)) = true := by simp; omega
  clear h1 h2 h3 h4 hL
  go_enter Tryz.func71, Tryz.ntmps71
  go_wp2
  go_ret2
  exact ⟨rfl, rfl⟩
set_option maxHeartbeats 1000000 in
theorem rfnum_zero (b n : Nat) (ds : List Nat) (bad : Bool) (w : World) (hr : RF w b ds bad) (h8 : n ≤ 8) (hn : n ≤ ds.length) (hp : 0 < n) (h : ds.getD 0 0 = 0) : Calls Tryz.prog 71 #[.pointer (some ⟨b, 0, none⟩), .int .i64 (n : Int)] w (NumF w) := by
  obtain ⟨v, h1, h2, h3, h4⟩ := hr
  obtain ⟨c0, c1, f0, f1⟩ := two_cells h1
  obtain ⟨xb, off, cap, hv, hcl, hcm, hx, hcell⟩ := h2.at (by omega)
  subst hv
  have hc : w.cell? ⟨xb, off, none⟩ = some (.int .u8 0) := by
    have := hcell 0 (by omega)
    rwa [h] at this
  obtain ⟨L, hL⟩ : ∃ L, ds.length = L := ⟨_, rfl⟩
  rw [hL] at hn c0 hcl
  have hd : decide ((8 : Int) < (n : Int)) = false := by simp; omega
  have he : decide ((L : Int) < (n : Int)) = false := by simp; omega
  have hf : decide ((0 : Int) < (n : Int)) = true := by simp; omega
  clear h1 h2 h3 h4 hL h h8 hcell
  go_enter Tryz.func71, Tryz.ntmps71
  go_wp2
  go_ret2
  exact ⟨rfl, rfl⟩
/-- number answers. -/
def NumY (b : Nat) (w : World) (n : Nat) (ds : List Nat) (e : Ending) (w' : World) : Prop := e = .returned (.tuple #[.int .u64 ((val (ds.take n) : Nat) : Int), .bool true]) ∧ RF w' b (ds.drop n) false ∧ Rd b w w'
theorem rfnums {w : World} {b n L cap k c : Nat} {x y : Addr} {ds : List Nat} (hh : w.heap[b]? = some (.cells #[.slice (some x) L cap, .bool false] 42 (0, 0))) (h : RB w (.slice (some x) L cap) ds)
    (h3 : (Value.slice (some x) L cap).ownBlock ≠ some b) (hn : n ≤ ds.length) (hy : y = x.add n ∨ (n = ds.length ∧ y = x)) (hk : k = ds.length - n) (hkc : k ≤ c) (hcm : c ≤ maxLen) :
    RF (w.setCell ⟨b, 0, none⟩ (.slice (some y) k c)) b (ds.drop n) false ∧ Rd b w (w.setCell ⟨b, 0, none⟩ (.slice (some y) k c)) := by
  have ht : Rd b w (w.setCell ⟨b, 0, none⟩ (.slice (some y) k c)) := Rd.set (Turn.refl _ _ _) 0 _
  have hb2 := own_addr (n := k) (c := c) h3 (y := y) (hy.elim (fun h => .inr ⟨n, h⟩) (fun h => .inl h.2))
  have hd := rb_drop h n hn (hy.elim .inl (fun h => .inr h.1)) hk hkc hcm
  exact ⟨⟨_, heap_set hh 0 _, hd.turned ht hb2, hb2, fun hb => by cases hb⟩, ht⟩
set_option maxHeartbeats 2000000 in
theorem rfnum_yes (b n : Nat) (ds : List Nat) (w : World) (hr : RF w b ds false) (h8 : n ≤ 8) (hn : n ≤ ds.length) (h0 : ¬ (0 < n ∧ ds.getD 0 0 = 0)) : Calls Tryz.prog 71 #[.pointer (some ⟨b, 0, none⟩), .int .i64 (n : Int)] w (NumY b w n ds) := by
  obtain ⟨v, h1, h2, h3, h4⟩ := hr
  obtain ⟨c0, c1, f0, f1⟩ := two_cells h1
  rcases h2.2.2 with ⟨hv, hd0⟩ | ⟨x, cap, hv, hcl, hcm, hcell⟩
  · subst hv
    subst hd0
    obtain rfl : n = 0 := by simpa using hn
    have HE := Lib.hid h1
    clear h1 h2 h3 h4 hn
    go_enter Tryz.func71, Tryz.ntmps71
    go_wp2
    go_loop [6, 7] (fun x i => x = .int .u64 0 ∧ i = .int .i64 0) (fun _ _ => 0)
    case atStart => exact ⟨rfl, rfl⟩
    case round =>
      obtain ⟨rfl, rfl⟩ := hrel
      go_wp2
      go_ret2
      exact ⟨rfl, ⟨_, heap_set HE.out 0 _, RB.nil _, by simp [Value.ownBlock], fun _ => rfl⟩, Rd.set (Turn.refl _ _ _) 0 _⟩
  · obtain ⟨L, hL⟩ : ∃ L, ds.length = L := ⟨_, rfl⟩
    rw [hL] at hv hcl hn
    subst hv
    have hL2 := h2.2.1
    rw [hL] at hL2
    have hd : decide ((8 : Int) < (n : Int)) = false := by simp; omega
    have he : decide ((L : Int) < (n : Int)) = false := by simp; omega
    have hcl2 : ∀ k, k < n → ∃ b2 o2, x = ⟨b2, o2, none⟩ ∧ w.cell? ⟨b2, o2 + k, none⟩ = some (.int .u8 ((ds.getD k 0 : Nat) : Int)) := by
      intro k hk
      obtain ⟨b2, o2, c3, hq, _, _, _, hcell⟩ := h2.at (by omega)
      simp only [Value.slice.injEq, Option.some.injEq] at hq
      exact ⟨b2, o2, hq.1, hcell k (by omega)⟩
    have HCL := Lib.hid hcl2
    have H256 := Lib.hid h2.1
    have H0 := Lib.hid h0
    have HE := Lib.hid h1
    have H2 := Lib.hid h2
    have H3 := Lib.hid h3
    have HM := Lib.hid hcm
    have HL := Lib.hid hL
    clear h1 h2 h3 h4 hcell hL hcm hcl2 h0
    by_cases hp : 0 < n
    · obtain ⟨b2, o2, rfl, hcf0⟩ := HCL.out 0 hp
      obtain ⟨c, hc⟩ : ∃ c, ds.getD 0 0 = c := ⟨_, rfl⟩
      have hcf : w.cell? ⟨b2, o2, none⟩ = some (.int .u8 ((c : Nat) : Int)) := by rw [← hc]; exact hcf0
      have hcz : ((c : Int) == 0) = false := by
        have : ¬ c = 0 := fun hq => H0.out ⟨hp, by rw [hc, hq]⟩
        simpa using this
      have hd0 : decide ((0 : Int) < (n : Int)) = true := by simp; omega
      clear hc hcf0 H0
      by_cases hcn : cap = n
      · obtain rfl : L = n := by omega
        subst hcn
        go_enter Tryz.func71, Tryz.ntmps71
        go_wp2
        go_loop [6, 7] (fun x i => ∃ k : Nat, k ≤ cap ∧ i = .int .i64 k ∧ x = .int .u64 ((val (ds.take k) : Nat) : Int)) (fun _ i => cap - (intOf i).toNat)
        case atStart => exact ⟨0, by omega, rfl, rfl⟩
        case round =>
          obtain ⟨k, hk, rfl, rfl⟩ := hrel
          by_cases hlt : k < cap
          · obtain ⟨b3, o3, ha3, hc3⟩ := HCL.out k hlt
            simp only [Addr.mk.injEq, and_true] at ha3
            obtain ⟨rfl, rfl⟩ := ha3
            have hkl : k < ds.length := by rw [HL.out]; omega
            have HV := Lib.hid (val_take_succ ds k hkl)
            have hx56 : val (ds.take k) < 72057594037927936 := by
              have h1 := val_take_lt ds (fun c hc => H256.out c hc) k (by omega)
              have h2 : 2 ^ (8 * k) ≤ 2 ^ 56 := Nat.pow_le_pow_right (by omega) (by omega)
              omega
            have hc256 : ds.getD k 0 < 256 := H256.out _ (getD_mem _ k hkl)
            obtain ⟨xx, hxx⟩ : ∃ xx, val (ds.take k) = xx := ⟨_, rfl⟩
            obtain ⟨c', hc'⟩ : ∃ c', ds.getD k 0 = c' := ⟨_, rfl⟩
            rw [hxx] at HV hx56 ⊢
            rw [hc'] at HV hc256 hc3
            have hsh : IntKind.u64.wrap ((xx : Int) * 256) = (xx : Int) * 256 := IntWalk.u64_in _ ⟨by omega, by omega⟩
            have hsa : IntKind.u64.wrap ((xx : Int) * 256 + (c' : Int)) = (xx : Int) * 256 + (c' : Int) := IntWalk.u64_in _ ⟨by omega, by omega⟩
            clear hxx hc' hkl hx56
            go_wp2
            go_round
            case rel => exact ⟨k + 1, by omega, by go_num, by rw [HV.out]; go_num⟩
            case measure => simp [intOf]; omega
          · obtain rfl : k = cap := by omega
            go_wp2
            go_ret2
            exact ⟨rfl, rfnums HE.out H2.out H3.out (by rw [HL.out]; exact Nat.le_refl _) (.inr ⟨HL.out.symm, rfl⟩) (by rw [HL.out]; simp) (by simp) (by simp)⟩
        
      · go_enter Tryz.func71, Tryz.ntmps71
        go_wp2
        go_loop [6, 7] (fun x i => ∃ k : Nat, k ≤ n ∧ i = .int .i64 k ∧ x = .int .u64 ((val (ds.take k) : Nat) : Int)) (fun _ i => n - (intOf i).toNat)
        case atStart => exact ⟨0, by omega, rfl, rfl⟩
        case round =>
          obtain ⟨k, hk, rfl, rfl⟩ := hrel
          by_cases hlt : k < n
          · obtain ⟨b3, o3, ha3, hc3⟩ := HCL.out k hlt
            simp only [Addr.mk.injEq, and_true] at ha3
            obtain ⟨rfl, rfl⟩ := ha3
            have hkl : k < ds.length := by rw [HL.out]; omega
            have HV := Lib.hid (val_take_succ ds k hkl)
            have hx56 : val (ds.take k) < 72057594037927936 := by
              have h1 := val_take_lt ds (fun c hc => H256.out c hc) k (by omega)
              have h2 : 2 ^ (8 * k) ≤ 2 ^ 56 := Nat.pow_le_pow_right (by omega) (by omega)
              omega
            have hc256 : ds.getD k 0 < 256 := H256.out _ (getD_mem _ k hkl)
            obtain ⟨xx, hxx⟩ : ∃ xx, val (ds.take k) = xx := ⟨_, rfl⟩
            obtain ⟨c', hc'⟩ : ∃ c', ds.getD k 0 = c' := ⟨_, rfl⟩
            rw [hxx] at HV hx56 ⊢
            rw [hc'] at HV hc256 hc3
            have hsh : IntKind.u64.wrap ((xx : Int) * 256) = (xx : Int) * 256 := IntWalk.u64_in _ ⟨by omega, by omega⟩
            have hsa : IntKind.u64.wrap ((xx : Int) * 256 + (c' : Int)) = (xx : Int) * 256 + (c' : Int) := IntWalk.u64_in _ ⟨by omega, by omega⟩
            clear hxx hc' hkl hx56
            go_wp2
            go_round
            case rel => exact ⟨k + 1, by omega, by go_num, by rw [HV.out]; go_num⟩
            case measure => simp [intOf]; omega
          · obtain rfl : k = n := by omega
            go_wp2
            go_ret2
            exact ⟨rfl, rfnums HE.out H2.out H3.out (by rw [HL.out]; exact hn) (.inl (add_at _ _ _).symm) (by rw [HL.out]) (by omega) (by have := HM.out; omega)⟩
        
    · obtain rfl : n = 0 := by omega
      by_cases hcn : cap = 0
      · obtain rfl : L = 0 := by omega
        subst hcn
        go_enter Tryz.func71, Tryz.ntmps71
        go_wp2
        go_loop [6, 7] (fun x i => x = .int .u64 0 ∧ i = .int .i64 0) (fun _ _ => 0)
        case atStart => exact ⟨rfl, rfl⟩
        case round =>
          obtain ⟨rfl, rfl⟩ := hrel
          go_wp2
          go_ret2
          exact ⟨rfl, rfnums HE.out H2.out H3.out (by omega) (.inr ⟨HL.out.symm, rfl⟩) (by rw [HL.out]) (by simp) (by simp)⟩
      · go_enter Tryz.func71, Tryz.ntmps71
        go_wp2
        go_loop [6, 7] (fun x i => x = .int .u64 0 ∧ i = .int .i64 0) (fun _ _ => 0)
        case atStart => exact ⟨rfl, rfl⟩
        case round =>
          obtain ⟨rfl, rfl⟩ := hrel
          go_wp2
          go_ret2
          exact ⟨rfl, rfnums HE.out H2.out H3.out (by omega) (.inl rfl) (by rw [HL.out]; rfl) (by omega) (by have := HM.out; omega)⟩
      
/- The other reader: Num and Flag. -/
open Go.RowKit

/-- What a method of the other reader hands back. -/
def GotF (b : Nat) (w : World) (z : Value) (r : Option (Value × List Nat)) (e : Ending) (w' : World) : Prop :=
  (r = none → e = .returned z ∧ RF w' b [] true ∧ Rd b w w') ∧ ∀ v rest, r = some (v, rest) → e = .returned v ∧ RF w' b rest false ∧ Rd b w w'
theorem GotF.no {b : Nat} {w w' : World} {z : Value} {r : Option (Value × List Nat)} (hr : r = none) (h1 : RF w' b [] true) (h2 : Rd b w w') : GotF b w z r (.returned z) w' :=
  ⟨(fun _ => ⟨rfl, h1, h2⟩), (fun v rest hx => by rw [hr] at hx; cases hx)⟩
theorem GotF.yes {b : Nat} {w w' : World} {z v : Value} {rest : List Nat} {r : Option (Value × List Nat)} (hr : r = some (v, rest)) (h1 : RF w' b rest false) (h2 : Rd b w w') : GotF b w z r (.returned v) w' :=
  ⟨(fun hx => by rw [hr] at hx; cases hx), (fun v' rest' hx => by rw [hr] at hx; simp only [Option.some.injEq, Prod.mk.injEq] at hx; obtain ⟨rfl, rfl⟩ := hx; exact ⟨rfl, h1, h2⟩)⟩

/-- number of the first byte, whatever it is. -/
def NumAny (b : Nat) (w : World) (r : Option (Nat × List Nat)) (e : Ending) (w' : World) : Prop :=
  (r = none ∧ e = .returned (.tuple #[.int .u64 0, .bool false]) ∧ w = w') ∨ ∃ n rest, r = some (n, rest) ∧ e = .returned (.tuple #[.int .u64 ((n : Nat) : Int), .bool true]) ∧ RF w' b rest false ∧ Rd b w w' ∧ n < 18446744073709551616
/-- The number of n bytes. -/
def ofN (n : Nat) (t : List Nat) : Option (Nat × List Nat) := if 8 < n ∨ t.length < n ∨ (0 < n ∧ t.getD 0 0 = 0) then none else some (val (t.take n), t.drop n)
theorem rfnum_any (b n : Nat) (t : List Nat) (w : World) (hr : RF w b t false) : Calls Tryz.prog 71 #[.pointer (some ⟨b, 0, none⟩), .int .i64 (n : Int)] w (NumAny b w (ofN n t)) := by
  have h256 : ∀ c ∈ t, c < 256 := by obtain ⟨v, _, h2, _⟩ := hr; exact h2.1
  by_cases h1 : 8 < n
  · exact (rfnum_big8 b n t false w h1).mono fun e w' h => .inl ⟨by unfold ofN; rw [if_pos (.inl h1)], h.1, h.2⟩
  by_cases h2 : t.length < n
  · exact (rfnum_short b n t false w hr (by omega) h2).mono fun e w' h => .inl ⟨by unfold ofN; rw [if_pos (.inr (.inl h2))], h.1, h.2⟩
  by_cases h3 : 0 < n ∧ t.getD 0 0 = 0
  · exact (rfnum_zero b n t false w hr (by omega) (by omega) h3.1 h3.2).mono fun e w' h => .inl ⟨by unfold ofN; rw [if_pos (.inr (.inr h3))], h.1, h.2⟩
  · refine (rfnum_yes b n t w hr (by omega) (by omega) h3).mono fun e w' h => .inr ⟨_, _, by unfold ofN; rw [if_neg (by rintro (h | h | h) <;> first | omega | exact h3 h)], h.1, h.2.1, h.2.2, ?_⟩
    have hv := val_take_lt t h256 n (by omega)
    have h4 : 2 ^ (8 * n) ≤ 2 ^ 64 := Nat.pow_le_pow_right (by omega) (by omega)
    omega
theorem rNum_first (most c : Nat) (t : List Nat) (hc : c < 256) : rNum most (c :: t) = match ofN c t with | some (n, rest) => if n ≤ most then some (n, rest) else none | none => none := by
  unfold rNum
  rw [rnum]
  by_cases h : c < 128
  · have e : c % 128 = c := Nat.mod_eq_of_lt h
    have hd : decide (128 ≤ c) = false := by simp; omega
    rw [e, hd]
    unfold ofN
    by_cases h1 : 8 < c
    · rw [if_pos h1, if_pos (.inl h1)]
    rw [if_neg h1]
    by_cases h2 : t.length < c
    · rw [if_pos h2, if_pos (.inr (.inl h2))]
    rw [if_neg h2]
    by_cases h3 : 0 < c ∧ t.getD 0 0 = 0
    · rw [if_pos h3, if_pos (.inr (.inr h3))]
    rw [if_neg h3, if_neg (by rintro (h | h | h) <;> first | omega | exact h3 h)]
  · have hd : decide (128 ≤ c) = true := by simp; omega
    have e : ofN c t = none := by unfold ofN; rw [if_pos (.inl (by omega))]
    rw [hd, e]
    split <;> simp_all
set_option maxHeartbeats 1000000 in
theorem num_rf (b most : Nat) (ds : List Nat) (bad : Bool) (w : World) (hr : RF w b ds bad) :
    Calls Tryz.prog 56 #[.pointer (some ⟨b, 0, none⟩), .int .u64 (most : Int)] w (GotF b w (.int .u64 0) ((rNum most ds).map u64v)) := by
  cases ds with
  | nil =>
    have HF := Lib.hid (first_no b bad w hr)
    have HX := Lib.hid (fail_rf b [] bad w hr)
    clear hr
    go_enter Tryz.func56, Tryz.ntmps56
    go_wp2_with (first
      | (go_at_call 70; refine HF.out.mono ?_; rintro e w1 ⟨rfl, rfl⟩)
      | (go_at_call 42; refine HX.out.mono ?_; rintro e w2 ⟨rfl, hr2, ht2⟩))
    go_ret
    exact GotF.no rfl hr2 ht2
  | cons c t =>
    have hb : bad = false := by
      obtain ⟨v, _, _, _, h4⟩ := hr
      cases bad
      · rfl
      · simp at h4
    subst hb
    have hc : c < 256 := by obtain ⟨v, _, h2, _⟩ := hr; exact h2.1 c (by simp)
    have HF := Lib.hid (first_yes b c t w hr)
    have HN := Lib.hid (rNum_first most c t hc)
    have hw : IntKind.i64.wrap (c : Int) = (c : Int) := IntWalk.i64_in _ ⟨by omega, by omega⟩
    clear hr
    cases hof : ofN c t with
    | none =>
      rw [hof] at HN
      have hnum : ∀ w1, RF w1 b t false → Calls Tryz.prog 71 #[.pointer (some ⟨b, 0, none⟩), .int .i64 (c : Int)] w1 fun e w2 => e = .returned (.tuple #[.int .u64 0, .bool false]) ∧ w1 = w2 := fun w1 h1 => (rfnum_any b c t w1 h1).mono fun e w2 hq => by
        rcases hq with ⟨_, h1, h2⟩ | ⟨n', rest', h, _⟩
        · exact ⟨h1, h2⟩
        · rw [hof] at h; cases h
      have HQ := Lib.hid hnum
      clear hnum hof
      go_enter Tryz.func56, Tryz.ntmps56
      go_wp2_with (first
        | (go_at_call 70; refine HF.out.mono ?_; rintro e w1 ⟨rfl, hr1, ht1⟩)
        | (go_at_call 71; refine (HQ.out w1 hr1).mono ?_; rintro e w2 ⟨rfl, rfl⟩)
        | (go_at_call 42; refine (fail_rf b _ _ _ hr1).mono ?_; rintro e w3 ⟨rfl, hr3, ht3⟩))
      go_ret
      exact GotF.no (by rw [HN.out]; rfl) hr3 (ht1.trans ht3)
    | some p =>
      obtain ⟨n, rest⟩ := p
      rw [hof] at HN
      have hnum : ∀ w1, RF w1 b t false → Calls Tryz.prog 71 #[.pointer (some ⟨b, 0, none⟩), .int .i64 (c : Int)] w1 fun e w2 => e = .returned (.tuple #[.int .u64 ((n : Nat) : Int), .bool true]) ∧ RF w2 b rest false ∧ Rd b w1 w2 := fun w1 h1 => (rfnum_any b c t w1 h1).mono fun e w2 hq => by
        rcases hq with ⟨h, _⟩ | ⟨n', rest', h, h2, h3, h4, _⟩
        · rw [hof] at h; cases h
        · rw [hof] at h
          simp only [Option.some.injEq, Prod.mk.injEq] at h
          obtain ⟨rfl, rfl⟩ := h
          exact ⟨h2, h3, h4⟩
      have HQ := Lib.hid hnum
      clear hnum hof
      by_cases hm : n ≤ most
      · have hd : decide ((n : Int) ≤ (most : Int)) = true := by simp; omega
        go_enter Tryz.func56, Tryz.ntmps56
        go_wp2_with (first
          | (go_at_call 70; refine HF.out.mono ?_; rintro e w1 ⟨rfl, hr1, ht1⟩)
          | (go_at_call 71; refine (HQ.out w1 hr1).mono ?_; rintro e w2 ⟨rfl, hr2, ht2⟩)
          | (go_at_call 42; refine (fail_rf b _ _ _ hr2).mono ?_; rintro e w3 ⟨rfl, hr3, ht3⟩))
        go_ret
        exact GotF.yes (by rw [HN.out, if_pos hm]; rfl) hr2 (ht1.trans ht2)
      · have hd : decide ((n : Int) ≤ (most : Int)) = false := by simp; omega
        go_enter Tryz.func56, Tryz.ntmps56
        go_wp2_with (first
          | (go_at_call 70; refine HF.out.mono ?_; rintro e w1 ⟨rfl, hr1, ht1⟩)
          | (go_at_call 71; refine (HQ.out w1 hr1).mono ?_; rintro e w2 ⟨rfl, hr2, ht2⟩)
          | (go_at_call 42; refine (fail_rf b _ _ _ hr2).mono ?_; rintro e w3 ⟨rfl, hr3, ht3⟩))
        go_ret
        exact GotF.no (by rw [HN.out, if_neg hm]; rfl) hr3 ((ht1.trans ht2).trans ht3)
/- The other reader: Flag, End and Int. -/
open Go.RowKit

theorem rnum_first (c : Nat) (t : List Nat) : rnum (c :: t) = match ofN (c % 128) t with | some (n, rest) => some (n, decide (128 ≤ c), rest) | none => none := by
  rw [rnum]
  unfold ofN
  by_cases h1 : 8 < c % 128
  · rw [if_pos h1, if_pos (.inl h1)]
  rw [if_neg h1]
  by_cases h2 : t.length < c % 128
  · rw [if_pos h2, if_pos (.inr (.inl h2))]
  rw [if_neg h2]
  by_cases h3 : 0 < c % 128 ∧ t.getD 0 0 = 0
  · rw [if_pos h3, if_pos (.inr (.inr h3))]
  rw [if_neg h3, if_neg (by rintro (h | h | h) <;> first | omega | exact h3 h)]
set_option maxHeartbeats 1000000 in
theorem int_rf_no (b : Nat) (ds : List Nat) (bad : Bool) (w : World) (hr : RF w b ds bad) (hn : rnum ds = none) :
    Calls Tryz.prog 40 #[.pointer (some ⟨b, 0, none⟩)] w fun e w' => e = .returned (.int .i64 0) ∧ RF w' b [] true ∧ Rd b w w' := by
  cases ds with
  | nil =>
    have HF := Lib.hid (first_no b bad w hr)
    have HX := Lib.hid (fail_rf b [] bad w hr)
    clear hr hn
    go_enter Tryz.func40, Tryz.ntmps40
    go_wp2_with (first
      | (go_at_call 70; refine HF.out.mono ?_; rintro e w1 ⟨rfl, rfl⟩)
      | (go_at_call 42; refine HX.out.mono ?_; rintro e w2 ⟨rfl, hr2, ht2⟩))
    go_ret
    exact ⟨rfl, hr2, ht2⟩
  | cons c t =>
    have hb : bad = false := by
      obtain ⟨v, _, _, _, h4⟩ := hr
      cases bad
      · rfl
      · simp at h4
    subst hb
    have hc : c < 256 := by obtain ⟨v, _, h2, _⟩ := hr; exact h2.1 c (by simp)
    have HF := Lib.hid (first_yes b c t w hr)
    have hof : ofN (c % 128) t = none := by
      rw [rnum_first] at hn
      cases h : ofN (c % 128) t with
      | none => rfl
      | some p => rw [h] at hn; cases hn
    have hnum : ∀ w1, RF w1 b t false → Calls Tryz.prog 71 #[.pointer (some ⟨b, 0, none⟩), .int .i64 ((c % 128 : Nat) : Int)] w1 fun e w2 => e = .returned (.tuple #[.int .u64 0, .bool false]) ∧ w1 = w2 := fun w1 h1 => (rfnum_any b (c % 128) t w1 h1).mono fun e w2 hq => by
      rcases hq with ⟨_, h1, h2⟩ | ⟨n', rest', h, _⟩
      · exact ⟨h1, h2⟩
      · rw [hof] at h; cases h
    have HQ := Lib.hid hnum
    have hm : ((c % 128 : Nat) : Int) = (c : Int) % 128 := by omega
    have hw : IntKind.i64.wrap ((c : Int) % 128) = (c : Int) % 128 := IntWalk.i64_in _ ⟨by omega, by omega⟩
    rw [hm] at HQ
    clear hr hn hof hnum hm
    go_enter Tryz.func40, Tryz.ntmps40
    go_wp2_with (first
      | (go_at_call 70; refine HF.out.mono ?_; rintro e w1 ⟨rfl, hr1, ht1⟩)
      | (go_at_call 71; refine (HQ.out w1 hr1).mono ?_; rintro e w2 ⟨rfl, rfl⟩)
      | (go_at_call 42; refine (fail_rf b _ _ _ hr1).mono ?_; rintro e w3 ⟨rfl, hr3, ht3⟩))
    go_ret
    exact ⟨rfl, hr3, ht1.trans ht3⟩
/- The other reader: Int. -/
open Go.RowKit

set_option maxHeartbeats 1000000 in
theorem int_rf_some (b n : Nat) (bl : Bool) (ds rest : List Nat) (bad : Bool) (w : World) (hr : RF w b ds bad) (hn : rnum ds = some (n, bl, rest)) :
    Calls Tryz.prog 40 #[.pointer (some ⟨b, 0, none⟩)] w (GotF b w (.int .i64 0) ((rInt ds).map i64v)) := by
  have hrI : (rInt ds).map i64v = if n ≤ 9223372036854775807 then some (.int .i64 (if bl then -1 - (n : Int) else (n : Int)), rest) else none := by
    unfold rInt
    rw [hn]
    by_cases h : n ≤ 9223372036854775807
    · simp only [if_pos h]; rfl
    · simp only [if_neg h]; rfl
  cases ds with
  | nil => simp [rnum] at hn
  | cons c t =>
    have hb : bad = false := by
      obtain ⟨v, _, _, _, h4⟩ := hr
      cases bad
      · rfl
      · simp at h4
    subst hb
    have hc : c < 256 := by obtain ⟨v, _, h2, _⟩ := hr; exact h2.1 c (by simp)
    have HF := Lib.hid (first_yes b c t w hr)
    rw [rnum_first] at hn
    have hof : ofN (c % 128) t = some (n, rest) ∧ bl = decide (128 ≤ c) := by
      cases h : ofN (c % 128) t with
      | none => rw [h] at hn; cases hn
      | some p =>
        obtain ⟨n', r'⟩ := p
        rw [h] at hn
        simp only [Option.some.injEq, Prod.mk.injEq] at hn
        obtain ⟨rfl, rfl, rfl⟩ := hn
        exact ⟨rfl, rfl⟩
    obtain ⟨hof, rfl⟩ := hof
    have hnum : ∀ w1, RF w1 b t false → Calls Tryz.prog 71 #[.pointer (some ⟨b, 0, none⟩), .int .i64 ((c % 128 : Nat) : Int)] w1 fun e w2 => e = .returned (.tuple #[.int .u64 ((n : Nat) : Int), .bool true]) ∧ RF w2 b rest false ∧ Rd b w1 w2 := fun w1 h1 => (rfnum_any b (c % 128) t w1 h1).mono fun e w2 hq => by
      rcases hq with ⟨h, _⟩ | ⟨n', rest', h, h2, h3, h4, _⟩
      · rw [hof] at h; cases h
      · rw [hof] at h
        simp only [Option.some.injEq, Prod.mk.injEq] at h
        obtain ⟨rfl, rfl⟩ := h
        exact ⟨h2, h3, h4⟩
    have HQ := Lib.hid hnum
    have hm : ((c % 128 : Nat) : Int) = (c : Int) % 128 := by omega
    have hw : IntKind.i64.wrap ((c : Int) % 128) = (c : Int) % 128 := IntWalk.i64_in _ ⟨by omega, by omega⟩
    rw [hm] at HQ
    rw [hrI]
    clear hr hn hof hnum hm hrI
    by_cases hle : n ≤ 9223372036854775807
    · rw [if_pos hle]
      have hd : decide ((n : Int) ≤ 9223372036854775807) = true := by simp; omega
      have hwn : IntKind.i64.wrap (n : Int) = (n : Int) := IntWalk.i64_in _ ⟨by omega, by omega⟩
      have hws : IntKind.i64.wrap (-1 - (n : Int)) = -1 - (n : Int) := IntWalk.i64_in _ ⟨by omega, by omega⟩
      by_cases h128 : 128 ≤ c
      · have hdc : decide ((128 : Int) ≤ (c : Int)) = true := by simp; omega
        rw [if_pos (by simp [h128])]
        go_enter Tryz.func40, Tryz.ntmps40
        go_wp2_with (first
          | (go_at_call 70; refine HF.out.mono ?_; rintro e w1 ⟨rfl, hr1, ht1⟩)
          | (go_at_call 71; refine (HQ.out w1 hr1).mono ?_; rintro e w2 ⟨rfl, hr2, ht2⟩))
        go_ret
        exact GotF.yes rfl hr2 (ht1.trans ht2)
      · have hdc : decide ((128 : Int) ≤ (c : Int)) = false := by simp; omega
        rw [if_neg (by simp [h128])]
        go_enter Tryz.func40, Tryz.ntmps40
        go_wp2_with (first
          | (go_at_call 70; refine HF.out.mono ?_; rintro e w1 ⟨rfl, hr1, ht1⟩)
          | (go_at_call 71; refine (HQ.out w1 hr1).mono ?_; rintro e w2 ⟨rfl, hr2, ht2⟩))
        go_ret
        exact GotF.yes rfl hr2 (ht1.trans ht2)
    · rw [if_neg hle]
      have hd : decide ((n : Int) ≤ 9223372036854775807) = false := by simp; omega
      go_enter Tryz.func40, Tryz.ntmps40
      go_wp2_with (first
        | (go_at_call 70; refine HF.out.mono ?_; rintro e w1 ⟨rfl, hr1, ht1⟩)
        | (go_at_call 71; refine (HQ.out w1 hr1).mono ?_; rintro e w2 ⟨rfl, hr2, ht2⟩)
        | (go_at_call 42; refine (fail_rf b _ _ _ hr2).mono ?_; rintro e w3 ⟨rfl, hr3, ht3⟩))
      go_ret
      exact GotF.no rfl hr3 ((ht1.trans ht2).trans ht3)
theorem int_rf (b : Nat) (ds : List Nat) (bad : Bool) (w : World) (hr : RF w b ds bad) :
    Calls Tryz.prog 40 #[.pointer (some ⟨b, 0, none⟩)] w (GotF b w (.int .i64 0) ((rInt ds).map i64v)) := by
  cases hn : rnum ds with
  | none =>
    refine (int_rf_no b ds bad w hr hn).mono ?_
    rintro e w' ⟨rfl, h1, h2⟩
    exact GotF.no (by rw [rInt_none hn]; rfl) h1 h2
  | some p =>
    obtain ⟨n, bl, rest⟩ := p
    exact int_rf_some b n bl ds rest bad w hr hn
/- Both readers, one thing read. -/
open Go.RowKit

/-- Bytes don't lie in a block that holds a slice and a flag. -/
theorem RB.beyond {w w' : World} {b' : Nat} {v v' : Value} {ds es : List Nat} {bad' : Bool} {t : TypeId} (h2 : RB w v ds) (k1 : w.heap[b']? = some (.cells #[v', .bool bad'] t (0, 0))) (k2 : RB w v' es) (ht : Rd b' w w') : RB w' v ds := by
  obtain ⟨g1, g2, g3⟩ := h2
  refine ⟨g1, g2, ?_⟩
  rcases g3 with g3 | ⟨x, cap, hv, ha, hm, hc⟩
  · exact .inl g3
  · refine .inr ⟨x, cap, hv, ha, hm, fun i hi => ?_⟩
    have hb : (x.add i).block ≠ b' := by
      intro e
      have hci := hc i hi
      obtain ⟨e2, _⟩ := cell_spot hci
      rw [e2, e] at hci
      unfold World.cell? at hci
      simp only [k1] at hci
      have : (#[v', Value.bool bad'] : Array Value)[(x.add i).off]? = some (Value.int .u8 ((ds.getD i 0 : Nat) : Int)) := by simpa using hci
      rcases h0 : (x.add i).off with _ | _ | k
      · rw [h0] at this
        simp at this
        obtain ⟨a, n, c, hv'⟩ : ∃ a n c, v' = .slice a n c := by
          obtain ⟨a, cap, hq, _, _⟩ := k2.shape
          exact ⟨_, _, _, hq⟩
        rw [hv'] at this
        cases this
      · rw [h0] at this; simp at this
      · rw [h0] at this; simp at this
    rw [ht.cell (p := x.add i) (cell_spot (hc i hi)).2 hb (by simp [Value.ownBlock])]
    exact hc i hi
theorem RF.besides {w w' : World} {b c : Nat} {ds es : List Nat} {bad bad' : Bool} (h : RF w c ds bad) (h' : RR w b es bad') (ht : Rd b w w') (hne : c ≠ b) : RF w' c ds bad := by
  obtain ⟨v, h1, h2, h3, h4⟩ := h
  obtain ⟨v', k1, k2, _⟩ := h'
  exact ⟨v, (ht.block c (lt_of_block h1) hne (by simp [Value.ownBlock])).trans h1, h2.beyond k1 k2 ht, h3, h4⟩
theorem RR.besides {w w' : World} {b c : Nat} {ds es : List Nat} {bad bad' : Bool} (h : RR w b ds bad) (h' : RF w c es bad') (ht : Rd c w w') (hne : b ≠ c) : RR w' b ds bad := by
  obtain ⟨v, h1, h2, h3, h4⟩ := h
  obtain ⟨v', k1, k2, _⟩ := h'
  exact ⟨v, (ht.block b (lt_of_block h1) hne (by simp [Value.ownBlock])).trans h1, h2.beyond k1 k2 ht, h3, h4⟩
/-- Both readers, alike. -/
def Two (w : World) (b c : Nat) (ds : List Nat) (bad : Bool) : Prop := RR w b ds bad ∧ RF w c ds bad ∧ b ≠ c
theorem Two.kept {w w' : World} {b c : Nat} {ds : List Nat} {bad : Bool} (h : Two w b c ds bad) (hb : Below w.heap.size w w') : Two w' b c ds bad := ⟨h.1.kept hb, h.2.1.kept hb, h.2.2⟩
/-- The program's reader has read; the other follows. -/
theorem Two.both {w w1 : World} {b c : Nat} {ds : List Nat} {bad : Bool} {z : Value} {r : Option (Value × List Nat)} {e1 : Ending} (h : Two w b c ds bad) (h1 : Got b w z r e1 w1) :
    ∃ v ds' bad', e1 = .returned v ∧ (v = z ∨ ∃ rest, r = some (v, rest)) ∧ (r = none ∧ ds' = [] ∨ ∃ v', r = some (v', ds')) ∧ RF w1 c ds bad ∧ Rd b w w1 ∧ ∀ e2 w2, GotF c w1 z r e2 w2 → e2 = .returned v ∧ Two w2 b c ds' bad' ∧ Rd c w1 w2 := by
  obtain ⟨hr, hf, hne⟩ := h
  cases r with
  | none =>
    obtain ⟨he, hr1, ht1⟩ := h1.1 rfl
    have hf1 := hf.besides hr ht1 (fun e => hne e.symm)
    refine ⟨z, [], true, he, .inl rfl, .inl ⟨rfl, rfl⟩, hf1, ht1, fun e2 w2 h2 => ?_⟩
    obtain ⟨he2, hf2, ht2⟩ := h2.1 rfl
    exact ⟨he2, ⟨hr1.besides hf1 ht2 hne, hf2, hne⟩, ht2⟩
  | some p =>
    obtain ⟨v, rest⟩ := p
    obtain ⟨he, hr1, ht1⟩ := h1.2 v rest rfl
    have hf1 := hf.besides hr ht1 (fun e => hne e.symm)
    refine ⟨v, rest, false, he, .inr ⟨rest, rfl⟩, .inr ⟨v, rfl⟩, hf1, ht1, fun e2 w2 h2 => ?_⟩
    obtain ⟨he2, hf2, ht2⟩ := h2.2 v rest rfl
    exact ⟨he2, ⟨hr1.besides hf1 ht2 hne, hf2, hne⟩, ht2⟩
/-- What read hands back. -/
def ReadTwo (b c : Nat) (w : World) (ds : List Nat) (e : Ending) (w' : World) : Prop :=
  e = .returned (.bool true) ∧ ∃ ds' bad', Two w' b c ds' bad' ∧ ds'.length ≤ ds.length ∧ ∀ (B : Nat) (W : World), Below B W w → B ≤ w.heap.size → B ≤ b → B ≤ c → Below B W w'
end Go.Proofs.YthnnbmofpmedhaaGreat

import Derived.Laws.MathBits
import Derived.Test.YthefnakbpalecaaLaws
import Derived.Lib.Tables
import Derived.Test.YthefnakbpalecaaMaC
import Derived.ArgAppend
import Derived.OneCell
import Derived.WalkKit
import Derived.WalkSpells
namespace Go.Proofs.Ythefnakbpalecaa
open Go.RowKit
/- The plain arithmetic of numbers as bytes. -/

/-- How many bytes a number has. -/
def sz (n : Nat) : Nat := (bitLen n + 7) / 8
/-- The lowest j bytes of n, the most significant first. -/
def enc : Nat → Nat → List Nat
  | 0, _ => []
  | j + 1, n => (n / 2 ^ (8 * j) % 256) :: enc j n
/-- A number's bytes, with s added to the first. -/
def num (s n : Nat) : List Nat := (s + sz n) :: enc (sz n) n

theorem bitLen_le (n : Nat) (h : n < 18446744073709551616) : bitLen n ≤ 64 := by
  unfold bitLen
  split
  · omega
  · rename_i h0
    have := (Nat.log2_lt h0).2 (show n < 2 ^ 64 from h)
    omega
theorem sz_le (n : Nat) (h : n < 18446744073709551616) : sz n ≤ 8 := by
  have := bitLen_le n h
  unfold sz; omega
theorem sz_up (n : Nat) : n < 2 ^ (8 * sz n) := by
  have h := (bitLen_spec n).1
  have h2 : bitLen n ≤ 8 * sz n := by unfold sz; omega
  exact Nat.lt_of_lt_of_le h (Nat.pow_le_pow_right (by omega) h2)
theorem sz_low (n : Nat) (h : 0 < sz n) : 2 ^ (8 * (sz n - 1)) ≤ n := by
  have h0 : n ≠ 0 := by
    intro e; subst e; simp [sz, bitLen] at h
  have h1 := (bitLen_spec n).2 h0
  have h2 : 8 * (sz n - 1) ≤ bitLen n - 1 := by unfold sz at h ⊢; omega
  exact Nat.le_trans (Nat.pow_le_pow_right (by omega) h2) h1
theorem sz_unique (n j : Nat) (h1 : n < 2 ^ (8 * j)) (h2 : 0 < j → 2 ^ (8 * (j - 1)) ≤ n) : sz n = j := by
  have a := sz_up n
  have b := sz_low n
  rcases Nat.lt_trichotomy (sz n) j with h | h | h
  · have := h2 (by omega)
    have h3 : 2 ^ (8 * sz n) ≤ 2 ^ (8 * (j - 1)) := Nat.pow_le_pow_right (by omega) (by omega)
    omega
  · exact h
  · have := b (by omega)
    have h3 : 2 ^ (8 * j) ≤ 2 ^ (8 * (sz n - 1)) := Nat.pow_le_pow_right (by omega) (by omega)
    omega
theorem sz_zero : sz 0 = 0 := by decide
theorem enc_len (j n : Nat) : (enc j n).length = j := by
  induction j with
  | zero => rfl
  | succ j ih => simp [enc, ih]
theorem enc_lt (j n : Nat) : ∀ c ∈ enc j n, c < 256 := by
  induction j with
  | zero => simp [enc]
  | succ j ih =>
    intro c hc
    simp only [enc, List.mem_cons] at hc
    rcases hc with rfl | hc
    · exact Nat.mod_lt _ (by omega)
    · exact ih c hc
theorem enc_get (j n k r : Nat) (h : k + 1 + r = j) : (enc j n).getD k 0 = n / 2 ^ (8 * r) % 256 := by
  induction j generalizing k with
  | zero => omega
  | succ j ih =>
    cases k with
    | zero =>
      obtain rfl : r = j := by omega
      simp [enc]
    | succ k =>
      have := ih k (by omega)
      simpa [enc] using this
theorem num_len (s n : Nat) : (num s n).length = 1 + sz n := by simp [num, enc_len]; omega
theorem num_lt (s n : Nat) (hs : s + sz n < 256) : ∀ c ∈ num s n, c < 256 := by
  intro c hc
  simp only [num, List.mem_cons] at hc
  rcases hc with rfl | hc
  · exact hs
  · exact enc_lt _ _ c hc
/- Walks of quill: how many bits a number has. -/
open Go.RowKit

theorem tab_get (b : Nat) (h : b < Lib.len8tab.size) : (Lib.len8tab[b]'h).toNat = bitLen b := by
  have all : ∀ j : Fin 256, Lib.len8 ((j.val : Nat) : Int) = ((bitLen j.val : Nat) : Int) := by decide +kernel
  have h2 : b < 256 := by rw [← Lib.len8tab_size]; exact h
  have e := all ⟨b, h2⟩
  simp only [Lib.len8, Int.toNat_natCast, ByteArray.getElem?_lt' _ _ h, Option.getD_some] at e
  omega
theorem tab_way (s n m : Nat) (e : n / 2 ^ s = m) (h0 : m ≠ 0) (h : m < 256) (hs : s ≤ 56) : wrap64 ((s : Int) + wrap64 ((bitLen m : Nat) : Int)) = ((bitLen n : Nat) : Int) := by
  subst e
  have h8 := bitLen_le8 _ h
  rw [bitLen_shift n s h0]
  have e1 : wrap64 ((bitLen (n / 2 ^ s) : Nat) : Int) = ((bitLen (n / 2 ^ s) : Nat) : Int) := IntWalk.wrap64_in _ ⟨by omega, by omega⟩
  rw [e1]
  exact (IntWalk.wrap64_in _ ⟨by omega, by omega⟩).trans (by omega)

set_option maxRecDepth 100000 in
set_option maxHeartbeats 4000000 in
theorem len64_int (x : Int) (w : World) (h0 : 0 ≤ x) (h1 : x ≤ 18446744073709551615) :
    Calls Try.prog 133 #[.int .u64 x] w fun e w' => e = .returned (.int .i64 ((bitLen x.toNat : Nat) : Int)) ∧ w = w' := by
  go_enter Try.func133, Try.ntmps133
  generalize htab : ({ data := _ } : ByteArray) = tab
  have e : tab = Lib.len8tab := htab.symm.trans (by kernel_rfl)
  have hsz : tab.size = 256 := by rw [e]; exact Lib.len8tab_size
  have hg : ∀ (b : Nat) (h : b < tab.size), (tab[b]'h).toNat = bitLen b := by subst e; exact tab_get
  have HG := Lib.hid hg
  clear htab e hg
  go_wp2
  all_goals (go_ret; refine ⟨ret_int ?_, rfl⟩)
  all_goals rw [HG.out]
  all_goals first
    | exact tab_way 56 x.toNat _ (by omega) (by omega) (by omega) (by omega)
    | exact tab_way 48 x.toNat _ (by omega) (by omega) (by omega) (by omega)
    | exact tab_way 40 x.toNat _ (by omega) (by omega) (by omega) (by omega)
    | exact tab_way 32 x.toNat _ (by omega) (by omega) (by omega) (by omega)
    | exact tab_way 24 x.toNat _ (by omega) (by omega) (by omega) (by omega)
    | exact tab_way 16 x.toNat _ (by omega) (by omega) (by omega) (by omega)
    | exact tab_way 8 x.toNat _ (by omega) (by omega) (by omega) (by omega)
    | (have h8 := bitLen_le8 x.toNat (by omega)
       have e1 : wrap64 ((bitLen x.toNat : Nat) : Int) = ((bitLen x.toNat : Nat) : Int) := IntWalk.wrap64_in _ ⟨by omega, by omega⟩
       rw [e1, e1])

theorem len64_any (n : Nat) (w : World) (h : n < 18446744073709551616) :
    Calls Try.prog 133 #[.int .u64 (n : Int)] w fun e w' => e = .returned (.int .i64 ((bitLen n : Nat) : Int)) ∧ w = w' := by
  have := len64_int (n : Int) w (by omega) (by omega)
  rwa [Int.toNat_natCast] at this
/- Walks of quill: a number's bytes behind what was written. -/
open Go.RowKit

theorem rb_lit1 (w : World) (b : Nat) (y : Int) (x : Nat) (hb : b = w.heap.size) (hy : y = (x : Int)) (hx : x < 256) :
    RB (w.alloc (.cells #[.int .u8 y] 5)) (.slice (some ⟨b, 0, none⟩) 1 1) [x] := by
  subst hb
  subst hy
  refine ⟨?_, by simp, .inr ⟨_, _, rfl, by simp, by simp [maxLen], ?_⟩⟩
  · intro c hc
    simp at hc
    omega
  · intro i hi
    obtain rfl : i = 0 := by simp at hi; omega
    rw [add_at]; simp
theorem shiftN (x b : Nat) : (x : Int) / 2 ^ b = ((x / 2 ^ b : Nat) : Int) := by rw [Int.natCast_ediv, Int.natCast_pow]; rfl
theorem take_succ_getD' (l : List Nat) (k : Nat) (h : k < l.length) : l.take (k + 1) = l.take k ++ [l.getD k 0] := by
  rw [List.take_succ_eq_append_getElem h]; simp [h]
/-- A slice of the call's own comes back longer; nothing below the base has turned. -/
def Grew (base : Nat) (w : World) (bs : List Nat) (e : Ending) (w' : World) : Prop := ∃ v', e = .returned v' ∧ OB w' base v' bs ∧ Below base w w'

set_option maxHeartbeats 1000000 in
theorem number_any (v : Value) (bs : List Nat) (s n base : Nat) (w : World) (ho : OB w base v bs) (hbase : base ≤ w.heap.size) (hl : bs.length ≤ 10000000) (hs : s ≤ 128) (hn : n < 18446744073709551616) :
    Calls Try.prog 108 #[v, .int .u8 (s : Int), .int .u64 (n : Int)] w (Grew base w (bs ++ num s n)) := by
  have hlen := len64_any n w hn
  have hz8 := sz_le n hn
  have hL := bitLen_le n hn
  have hnum : num s n = (s + sz n) :: enc (sz n) n := rfl
  have hget : ∀ k r, k + 1 + r = sz n → (enc (sz n) n).getD k 0 = n / 2 ^ (8 * r) % 256 := fun k r h => enc_get _ n k r h
  have hel := enc_len (sz n) n
  obtain ⟨z, hz⟩ : ∃ z, sz n = z := ⟨_, rfl⟩
  obtain ⟨L, hLL⟩ : ∃ L, bitLen n = L := ⟨_, rfl⟩
  have hzz : ((L : Int) + 7) / 8 = (z : Int) := by unfold sz at hz; omega
  rw [hz] at hz8 hnum hget hel
  rw [hLL] at hlen hL
  rw [hnum]
  have HL := Lib.hid hlen
  have HG := Lib.hid hget
  have HE := Lib.hid hel
  have HBS := Lib.hid hl
  have HB0 := Lib.hid hbase
  clear hlen hget hz hLL hn hel hnum hl hbase
  go_enter Try.func108, Try.ntmps108
  go_wp2_with (first
    | (go_at_call 133; refine (HL.out).mono ?_; rintro e w' ⟨rfl, rfl⟩)
    | (at_builtin; refine append_rb rfl (.tmp 13) (.tmp 18) rfl base _ _ bs [s + z] rfl rfl (ho.alloc _) (rb_lit1 _ _ _ _ rfl (by omega) (by omega)) (by have := HBS.out; simp; omega) (by have := HB0.out; simp; omega) ?_; intro v1 w1 ho1 hg1; have hb1 := (ho.alloc _).below hg1 ((Below.refl base w).alloc HB0.out _) (by have := HB0.out; simp; omega); clear hg1))
  clear hzz HL
  have HN1 := Lib.hid (show base ≤ w1.heap.size from Nat.le_trans HB0.out hb1.size)
  go_loopw [0, 21] (fun v i wr => ∃ k : Nat, k ≤ z ∧ i = .int .i64 k ∧ OB wr base v (bs ++ [s + z] ++ (enc z n).take k) ∧ Below base w wr) (fun _ i _ => z - (intOf i).toNat)
  case atStart => exact ⟨0, Nat.zero_le _, rfl, by simpa using ho1, hb1⟩
  case round =>
    obtain ⟨k, hk, rfl, hok, hbk⟩ := hrel
    clear ho1 hb1
    by_cases hlt : k < z
    · obtain ⟨r, hr⟩ : ∃ r, k + 1 + r = z := ⟨z - 1 - k, by omega⟩
      have hd := HG.out k r hr
      have ht := take_succ_getD' (enc z n) k (by rw [HE.out]; exact hlt)
      rw [hd] at ht
      have hr' : (z : Int) - 1 - (k : Int) = (r : Int) := by omega
      have hsh := shiftN n (8 * r)
      obtain ⟨m, hm⟩ : ∃ m, n / 2 ^ (8 * r) = m := ⟨_, rfl⟩
      rw [hm] at hsh ht
      have HT := Lib.hid ht
      have HB1 := Lib.hid (Nat.le_trans HB0.out hbk.size)
      clear hd ht hm hr
      go_wp2_with (at_builtin; refine append_rb rfl (.tmp 24) (.tmp 33) rfl base _ _ _ [m % 256] rfl rfl (hok.alloc _) (rb_lit1 _ _ _ _ rfl (by omega) (by omega)) (by have := HBS.out; have := HE.out; simp; omega) (by have := HB1.out; simp; omega) ?_; intro v2 w2 ho2 hg2; have hb2 := (hok.alloc _).below hg2 (hbk.alloc HB1.out _) (by have := HB1.out; simp; omega); clear hg2)
      go_roundw
      case rel => exact ⟨k + 1, by omega, by go_num, by rw [HT.out, ← List.append_assoc]; exact ho2, hb2⟩
      case measure => simp [intOf]; omega
    · obtain rfl : k = z := by omega
      have ht : (enc k n).take k = enc k n := List.take_of_length_le (by rw [HE.out]; omega)
      rw [ht] at hok
      have HO := Lib.hid hok
      clear hok ht
      go_wp2
      go_ret
      exact ⟨_, rfl, by have := HO.out; simpa using this, hbk⟩
/- What a writer is, and the walks of its two ways to take bytes. -/
open Go.RowKit

/-- The slice v' lies where v lay, or in memory that the world w didn't have yet. -/
def Moved (v : Value) (w : World) (v' : Value) : Prop := v'.ownBlock = v.ownBlock ∨ ∀ k, v'.ownBlock = some k → w.heap.size ≤ k

/-- append(s, x...), with where the result lies. -/
theorem append_moved {w : World} {ops : Array Oper} {rest : List Oper} {o : Oper} {a : Act} {Q : Exit → Act → World → Prop} (hgd : o.guard = none) (s x : Operand)
    (ho : o.op = .call { callee := .builtin .append, args := #[s, x], argTypes := #[28, 28] })
    (base : Nat) (v u : Value) (bs cs : List Nat) (hs : a.eval s = v) (hx : a.eval x = u) (hown : OB w base v bs) (hrb : RB w u cs)
    (hlen : bs.length + cs.length ≤ 140737488351232) (hbase : base ≤ w.heap.size)
    (h : ∀ v' w', OB w' base v' (bs ++ cs) → w.grownBy w' v.ownBlock → Moved v w v' → wpList Try.prog ops Q rest (a.put o.dst v') w') : wpList Try.prog ops Q (o :: rest) a w := by
  obtain ⟨i0, hi, hz0, hz1, hz2⟩ := info_parts info5
  have hown' := hown
  rcases hrb.2.2 with ⟨rfl, rfl⟩ | ⟨ad, cap, rfl, hc, hm, hcell⟩
  · refine wpList_append_own_none hgd s x 28 ho base 5 i0 1 Try.underlying28 hi v bs.length (cb bs) hs hown hx ?_
    exact h v w (by simpa using hown) (World.grownBy.refl _ _) (.inl rfl)
  · have hn : ∀ j y, (cb cs)[j]? = some y → w.cell? (ad.add j) = some y := by
      intro j y hj
      have hlt : j < cs.length := by have := (List.getElem?_eq_some_iff.mp hj).1; rwa [cb_length] at this
      rw [cb_get cs j hlt] at hj
      simp only [Option.some.injEq] at hj
      subst hj
      exact hcell j hlt
    rcases hown'.2 with ⟨hv, h0⟩ | ⟨g, cp, cur, hv, hg, hh, hcp, hcm, hcs, htk⟩
    · subst hv
      have hb0 : bs = [] := List.length_eq_zero_iff.mp h0
      subst hb0
      refine wpList_append_own w hgd s x 28 ho w.heap.size 5 i0 (.int .u8 0) 1 1 Try.underlying28 hi hz0 hz1 hz2 rfl (by decide) (.slice none 0 0) 0 [] hs (World.ownsRow_nil _ _ _ _) ad cs.length cap (cb cs) hx (by simp [cb]) hn (cb_one cs) (by unfold maxLen; omega) (by omega) (Nat.le_refl _) ?_
      intro v' w' h1 h2 _
      have h1' : OB w' w.heap.size v' cs := by simpa [OB] using h1
      exact h v' w' (by simpa using h1'.mono hbase) h2 (.inr fun k hk => (World.ownsRow.lt h1' k hk).1)
    · subst hv
      by_cases hroom : bs.length + cs.length ≤ cp
      · refine wpList_append_fits w hgd s x 28 ho base 5 i0 1 Try.underlying28 hi hz1 g bs.length cp (cb bs) hs hown ad cs.length cap (cb cs) hx (by simp [cb]) hn (cb_one cs) hroom ?_
        intro w' h1 h2
        exact h _ w' (by unfold OB; rw [List.length_append, cb_append]; exact h1) h2 (.inl rfl)
      · refine wpList_append_grows w hgd s x 28 ho 5 i0 (.int .u8 0) 1 1 Try.underlying28 hi hz0 hz1 hz2 rfl (by decide) (some ⟨g, 0, none⟩) bs.length cp (cb bs) hs (by simp) (by simp [cb])
          (fun b hb j u hj => by simp only [Option.some.injEq] at hb; subst hb; exact World.ownsRow.cells hown (g := g) rfl j u hj) ad cs.length cap (cb cs) hx (by simp [cb]) hn (cb_one cs) (by omega) (by unfold maxLen; omega) (by omega) ?_
        intro v' w' h1 h2
        have h1' : OB w' w.heap.size v' (bs ++ cs) := by unfold OB; rw [List.length_append, cb_append]; exact h1
        exact h v' w' (h1'.mono hbase) ⟨h2.os, h2.tape, h2.output, h2.size, fun k hk _ => h2.block k hk (by simp)⟩ (.inr fun k hk => (World.ownsRow.lt h1' k hk).1)

/-- A writer: block b holds the slice v, which is the call's own and whose elements are bs. -/
def WR (w : World) (b base : Nat) (v : Value) (bs : List Nat) : Prop := w.heap[b]? = some (.cells #[v] 104 (0, 0)) ∧ b < base ∧ base ≤ w.heap.size ∧ OB w base v bs ∧ ∀ c ∈ bs, c < 256
/-- Of what was there, block b and the row of v alone may have turned. -/
structure Turn (b : Nat) (v : Value) (w w' : World) : Prop where
  os : w'.os = w.os
  tape : w'.tape = w.tape
  output : w'.output = w.output
  size : w.heap.size ≤ w'.heap.size
  block : ∀ k, k < w.heap.size → k ≠ b → some k ≠ v.ownBlock → w'.heap[k]? = w.heap[k]?
theorem Turn.refl (b : Nat) (v : Value) (w : World) : Turn b v w w := ⟨rfl, rfl, rfl, Nat.le_refl _, fun _ _ _ _ => rfl⟩
theorem Turn.trans {b : Nat} {v v1 : Value} {w w1 w2 : World} (h : Turn b v w w1) (hm : Moved v w v1) (k : Turn b v1 w1 w2) : Turn b v w w2 := by
  refine ⟨k.os.trans h.os, k.tape.trans h.tape, k.output.trans h.output, Nat.le_trans h.size k.size, fun i hi hb hv => ?_⟩
  have : some i ≠ v1.ownBlock := by
    rcases hm with e | e
    · rw [e]; exact hv
    · intro e2; have := e i e2.symm; omega
  exact (k.block i (Nat.lt_of_lt_of_le hi h.size) hb this).trans (h.block i hi hb hv)
theorem Turn.below {b : Nat} {v : Value} {w w' : World} (h : Below w.heap.size w w') : Turn b v w w' := ⟨h.os, h.tape, h.output, h.size, fun k hk _ _ => h.block k hk⟩
theorem OB.slice {w : World} {base : Nat} {v : Value} {bs : List Nat} (h : OB w base v bs) : ∃ a n c, v = .slice a n c := by
  rcases h.2 with ⟨hv, _⟩ | ⟨g, cap, cur, hv, _⟩
  · exact ⟨_, _, _, hv⟩
  · exact ⟨_, _, _, hv⟩
theorem Moved.refl (v : Value) (w : World) : Moved v w v := .inl rfl
theorem Moved.trans {v v1 v2 : Value} {w w1 : World} (h : Moved v w v1) (hs : w.heap.size ≤ w1.heap.size) (k : Moved v1 w1 v2) : Moved v w v2 := by
  rcases k with k | k
  · rcases h with h | h
    · exact .inl (k.trans h)
    · exact .inr fun i hi => h i (k ▸ hi)
  · exact .inr fun i hi => Nat.le_trans hs (k i hi)
theorem Moved.later {v v' : Value} {w w1 : World} (hs : w.heap.size ≤ w1.heap.size) (k : Moved v w1 v') : Moved v w v' := by
  rcases k with k | k
  · exact .inl k
  · exact .inr fun i hi => Nat.le_trans hs (k i hi)
theorem Turn.outside {b B : Nat} {v : Value} {W w w' : World} (h : Turn b v w w') (hW : Below B W w) (hB : B ≤ w.heap.size) (hb : B ≤ b) (hv : ∀ k, v.ownBlock = some k → B ≤ k) : Below B W w' :=
  hW.trans ⟨h.os, h.tape, h.output, h.size, fun k hk => h.block k (by omega) (by omega) (fun e => by have := hv k e.symm; omega)⟩
/-- What a call that writes to a writer leaves. -/
def Wrote (b base : Nat) (v : Value) (w : World) (bs : List Nat) (w' : World) : Prop := ∃ v', WR w' b base v' bs ∧ Turn b v w w' ∧ Moved v w v'
theorem WR.base_le {w : World} {b base : Nat} {v : Value} {bs : List Nat} (h : WR w b base v bs) : ∀ k, v.ownBlock = some k → base ≤ k := fun k hk => (World.ownsRow.lt h.2.2.2.1 k hk).1
theorem WR.kept {w w' : World} {b base : Nat} {v : Value} {bs : List Nat} (h : WR w b base v bs) (hb : Below w.heap.size w w') : WR w' b base v bs :=
  ⟨(hb.block b (by have := h.2.1; have := h.2.2.1; omega)).trans h.1, h.2.1, Nat.le_trans h.2.2.1 hb.size, h.2.2.2.1.kept hb, h.2.2.2.2⟩

theorem WR.grown {w w' : World} {b base : Nat} {v : Value} {bs : List Nat} (h : WR w b base v bs) (hg : w.grownBy w' v.ownBlock) : w'.heap[b]? = some (.cells #[v] 104 (0, 0)) := by
  have h1 := h.2.1
  exact (hg.block b (by have := h.2.2.1; omega) (fun e => by have := h.base_le b e.symm; omega)).trans h.1
theorem WR.put {w w1 : World} {b base : Nat} {v v1 : Value} {bs cs : List Nat} (h : WR w b base v bs) (hcs : ∀ c ∈ cs, c < 256) (ho : OB w1 base v1 (bs ++ cs)) (hg : w.grownBy w1 v.ownBlock) (hm : Moved v w v1) :
    Wrote b base v w (bs ++ cs) (w1.setCell ⟨b, 0, none⟩ v1) := by
  have h1 := h.2.1
  refine ⟨v1, ⟨one_setCell (h.grown hg), h1, ?_, ho.set (by exact h1) _, ?_⟩, ⟨hg.os, hg.tape, hg.output, ?_, ?_⟩, hm⟩
  · have := h.2.2.1; have := hg.size; simp; omega
  · intro c hc
    rw [List.mem_append] at hc
    exact hc.elim (h.2.2.2.2 c) (hcs c)
  · have := hg.size; simp; omega
  · intro k hk hkb hkv
    rw [Below.heap_setCell _ _ _ _ (by exact hkb)]
    exact hg.block k hk hkv

set_option maxHeartbeats 400000 in
theorem keep_any (b base : Nat) (v x : Value) (bs cs : List Nat) (w : World) (hw : WR w b base v bs) (hx : RB w x cs) (hl : bs.length + cs.length ≤ 100000000) :
    Calls Try.prog 135 #[.pointer (some ⟨b, 0, none⟩), x] w fun e w' => e = .returned (.tuple #[]) ∧ Wrote b base v w (bs ++ cs) w' := by
  have hc := cell_of_one hw.1
  have hf := free_of_one hw.1
  have HW := Lib.hid hw
  have HX := Lib.hid hx
  have HL := Lib.hid hl
  clear hw hx hl
  go_enter Try.func135, Try.ntmps135
  go_wp2_with (at_builtin; refine append_moved rfl (.tmp 8) (.tmp 9) rfl base _ _ bs cs rfl rfl HW.out.2.2.2.1 HX.out (by have := HL.out; omega) HW.out.2.2.1 ?_; intro v1 w1 ho1 hg1 hm1; obtain ⟨a1, n1, c1, rfl⟩ := ho1.slice; have hb1 := HW.out.grown hg1; have hc1 := cell_of_one hb1; have hf1 := free_of_one hb1; have HP := Lib.hid (HW.out.put HX.out.1 ho1 hg1 hm1); clear hb1 hg1 hm1 ho1 hc hf)
  go_end0
  exact ⟨rfl, HP.out⟩

theorem drop_any (x : Value) (w : World) : Calls Try.prog 134 #[.pointer none, x] w fun e w' => e = .returned (.tuple #[]) ∧ w = w' := by
  go_enter Try.func134, Try.ntmps134
  go_wp2
  go_end0
  exact ⟨rfl, rfl⟩
theorem target_any (b : Nat) (w : World) : Calls Try.prog 109 #[.pointer (some ⟨b, 0, none⟩)] w fun e w' => e = .returned (.func (.func 135) #[.pointer (some ⟨b, 0, none⟩)] #[]) ∧ w = w' := by
  go_enter Try.func109, Try.ntmps109
  go_wp2
  go_ret
  exact ⟨rfl, rfl⟩
theorem target_nil (w : World) : Calls Try.prog 109 #[.pointer none] w fun e w' => e = .returned (.func (.func 134) #[.pointer none] #[]) ∧ w = w' := by
  go_enter Try.func109, Try.ntmps109
  go_wp2
  go_ret
  exact ⟨rfl, rfl⟩
/- Walks of quill: the writer's methods. -/
open Go.RowKit

/-- A slice of values that can be read. -/
def RV (w : World) (v : Value) (xs : List Value) : Prop :=
  xs.length ≤ 1000000 ∧ ∃ a cap, v = .slice a xs.length cap ∧ ∀ i, i < xs.length → ∃ b off, a = some ⟨b, off, none⟩ ∧ w.cell? ⟨b, off + i, none⟩ = some (xs.getD i .nilIface)
theorem RV.kept {w w' : World} {v : Value} {xs : List Value} (h : RV w v xs) (hb : Below w.heap.size w w') : RV w' v xs := by
  obtain ⟨h1, a, cap, hv, h2⟩ := h
  refine ⟨h1, a, cap, hv, fun i hi => ?_⟩
  obtain ⟨b, off, ha, hc⟩ := h2 i hi
  exact ⟨b, off, ha, by rw [hb.cell (cell_spot hc).2]; exact hc⟩
theorem rv_one (w : World) (b : Nat) (t : TypeId) (x : Value) (hb : b = w.heap.size) : RV (w.alloc (.cells #[x] t)) (.slice (some ⟨b, 0, none⟩) 1 1) [x] := by
  subst hb
  refine ⟨by simp, _, _, rfl, fun i hi => ⟨_, _, rfl, ?_⟩⟩
  obtain rfl : i = 0 := by simp at hi; omega
  simp

theorem Wrote.after {w w1 w' : World} {b base : Nat} {v : Value} {bs : List Nat} (hB : Below w.heap.size w w1) (h : Wrote b base v w1 bs w') : Wrote b base v w bs w' := by
  obtain ⟨v', h1, h2, h3⟩ := h
  exact ⟨v', h1, (Turn.below hB).trans (Moved.refl v w) h2, h3.later hB.size⟩

/-- The bytes of many, one behind the other. -/
def nums (ns : List Nat) : List Nat := (ns.map (num 0)).flatten
/-- The bytes of a number with a sign. -/
def intB (z : Int) : List Nat := if z < 0 then num 128 (-1 - z).toNat else num 0 z.toNat
def ints (zs : List Int) : List Nat := (zs.map intB).flatten
def flagB (x : Bool) : List Nat := if x then num 0 1 else num 0 0
def flags (l : List Bool) : List Nat := (l.map flagB).flatten
theorem flat_snoc {α : Type} (f : α → List Nat) (l : List α) (k : Nat) (d : α) (h : k < l.length) : ((l.take (k + 1)).map f).flatten = ((l.take k).map f).flatten ++ f (l.getD k d) := by
  have e : l.getD k d = l[k] := by simp [h]
  rw [List.take_succ_eq_append_getElem h, List.map_append, List.flatten_append, e]
  simp only [List.map_cons, List.map_nil, List.flatten_cons, List.flatten_nil, List.append_nil]
theorem flat_len {α : Type} (f : α → List Nat) (c : Nat) : ∀ (l : List α), (∀ x ∈ l, (f x).length ≤ c) → (l.map f).flatten.length ≤ c * l.length
  | [], _ => by simp
  | x :: l, h => by
    have h1 := h x (by simp)
    have h2 := flat_len f c l (fun y hy => h y (by simp [hy]))
    simp only [List.map_cons, List.flatten_cons, List.length_append, List.length_cons, Nat.mul_add, Nat.mul_one]
    omega
theorem flat_lt {α : Type} (f : α → List Nat) : ∀ (l : List α), (∀ x ∈ l, ∀ c ∈ f x, c < 256) → ∀ c ∈ (l.map f).flatten, c < 256 := by
  intro l h c hc
  simp only [List.mem_flatten, List.mem_map] at hc
  obtain ⟨_, ⟨x, hx, rfl⟩, hc⟩ := hc
  exact h x hx c hc
theorem num_len9 (s n : Nat) (h : n < 18446744073709551616) : (num s n).length ≤ 9 := by rw [num_len]; have := sz_le n h; omega
theorem num_lt' (s n : Nat) (hs : s ≤ 128) (h : n < 18446744073709551616) : ∀ c ∈ num s n, c < 256 := num_lt s n (by have := sz_le n h; omega)

set_option maxHeartbeats 1000000 in
theorem num_wr (b base : Nat) (v : Value) (bs : List Nat) (ns : List Nat) (x : Value) (w : World) (hw : WR w b base v bs) (hbl : bs.length ≤ 10000000) (hx : RV w x (ns.map fun n => .int .u64 ((n : Nat) : Int))) (hn : ∀ n ∈ ns, n < 18446744073709551616) :
    Calls Try.prog 62 #[.pointer (some ⟨b, 0, none⟩), x] w fun e w' => e = .returned (.tuple #[]) ∧ Wrote b base v w (bs ++ nums ns) w' := by
  obtain ⟨hlen, a, cap, rfl, hcell⟩ := hx
  simp only [List.length_map] at hlen hcell ⊢
  obtain ⟨len, hl⟩ : ∃ len, ns.length = len := ⟨_, rfl⟩
  rw [hl] at hlen hcell ⊢
  have hcase : ∀ k, k < len → ∃ b off, a = some ⟨b, off, none⟩ ∧ b < w.heap.size ∧ w.cell? ⟨b, off + k, none⟩ = some (.int .u64 ((ns.getD k 0 : Nat) : Int)) := by
    intro k hk
    obtain ⟨b, off, ha, hc⟩ := hcell k hk
    refine ⟨b, off, ha, (cell_spot hc).2, hc.trans ?_⟩
    simp [show k < ns.length by omega]
  have HL := Lib.hid hl
  have HS := Lib.hid hcase
  have HN := Lib.hid hn
  have HW := Lib.hid hw
  have HLN := Lib.hid hbl
  clear hw hbl
  have hl9 : ∀ k, k ≤ len → (nums (ns.take k)).length ≤ 9 * k := by
    intro k hk
    have := flat_len (num 0) 9 (ns.take k) (fun y hy => num_len9 0 y (hn y (List.mem_of_mem_take hy)))
    rw [List.length_take] at this
    unfold nums; omega
  have hlt9 : ∀ k, ∀ c ∈ nums (ns.take k), c < 256 := fun k => flat_lt (num 0) (ns.take k) (fun y hy => num_lt' 0 y (by omega) (hn y (List.mem_of_mem_take hy)))
  have H9 := Lib.hid hl9
  have HLT := Lib.hid hlt9
  clear hl hcell hcase hn hl9 hlt9
  go_enter Try.func62, Try.ntmps62
  go_wp2_with fail
  go_loopw [4, 8] (fun v i wr => ∃ k : Nat, k ≤ len ∧ i = .int .i64 k ∧ OB wr w.heap.size v (nums (ns.take k)) ∧ Below w.heap.size w wr) (fun _ i _ => len - (intOf i).toNat)
  case atStart => exact ⟨0, Nat.zero_le _, rfl, World.ownsRow_nil _ _ _ _, Below.refl _ _⟩
  case round =>
    obtain ⟨k, hk, rfl, ho, hW⟩ := hrel
    by_cases hlt : k < len
    · obtain ⟨b', off, rfl, hbs, hc⟩ := HS.out k hlt
      have hc' := (hW.cell (p := ⟨b', off + k, none⟩) hbs).trans hc
      have hlp : k < ns.length := by rw [HL.out]; exact hlt
      have HT := Lib.hid (flat_snoc (num 0) ns k 0 hlp)
      have HM := Lib.hid (HN.out (ns.getD k 0) (by simp [hlp]))
      obtain ⟨m, hm⟩ : ∃ m, ns.getD k 0 = m := ⟨_, rfl⟩
      rw [hm] at hc' HT HM
      clear hc hm hlp
      go_wp2_with (go_at_call 108; refine (number_any _ _ 0 m w.heap.size _ ho hW.size (by have := H9.out k hk; omega) (by omega) HM.out).mono ?_; rintro e w2 ⟨v2, rfl, ho2, hb2⟩)
      go_roundw
      case rel => exact ⟨k + 1, by omega, by go_num, by unfold nums; rw [HT.out]; exact ho2, hW.trans hb2⟩
      case measure => simp [intOf]; omega
    · obtain rfl : k = len := by omega
      have ht : ns.take k = ns := List.take_of_length_le (by rw [HL.out]; omega)
      have h9 := H9.out k hk
      have hlt9 := HLT.out k
      rw [ht] at ho h9 hlt9
      have hrb := ho.rb hlt9 (by omega)
      clear ho
      have HWK := Lib.hid (HW.out.kept hW)
      have HRB := Lib.hid hrb
      clear hrb hlt9 ht
      go_wp2_with (first
        | (go_at_call 109; refine (target_any _ _).mono ?_; rintro e w2 ⟨rfl, rfl⟩)
        | (go_at_call 135; refine (keep_any _ _ _ _ _ _ _ HWK.out HRB.out (by have := HLN.out; omega)).mono ?_; rintro e w2 ⟨rfl, hwr⟩))
      go_end0
      exact ⟨rfl, hwr.after hW⟩

set_option maxHeartbeats 1000000 in
theorem num_nil (ns : List Nat) (x : Value) (w : World) (hx : RV w x (ns.map fun n => .int .u64 ((n : Nat) : Int))) (hn : ∀ n ∈ ns, n < 18446744073709551616) :
    Calls Try.prog 62 #[.pointer none, x] w fun e w' => e = .returned (.tuple #[]) ∧ Below w.heap.size w w' := by
  obtain ⟨hlen, a, cap, rfl, hcell⟩ := hx
  simp only [List.length_map] at hlen hcell ⊢
  obtain ⟨len, hl⟩ : ∃ len, ns.length = len := ⟨_, rfl⟩
  rw [hl] at hlen hcell ⊢
  have hcase : ∀ k, k < len → ∃ b off, a = some ⟨b, off, none⟩ ∧ b < w.heap.size ∧ w.cell? ⟨b, off + k, none⟩ = some (.int .u64 ((ns.getD k 0 : Nat) : Int)) := by
    intro k hk
    obtain ⟨b, off, ha, hc⟩ := hcell k hk
    refine ⟨b, off, ha, (cell_spot hc).2, hc.trans ?_⟩
    simp [show k < ns.length by omega]
  have HL := Lib.hid hl
  have HS := Lib.hid hcase
  have HN := Lib.hid hn
  have hl9 : ∀ k, k ≤ len → (nums (ns.take k)).length ≤ 9 * k := by
    intro k hk
    have := flat_len (num 0) 9 (ns.take k) (fun y hy => num_len9 0 y (hn y (List.mem_of_mem_take hy)))
    rw [List.length_take] at this
    unfold nums; omega
  have hlt9 : ∀ k, ∀ c ∈ nums (ns.take k), c < 256 := fun k => flat_lt (num 0) (ns.take k) (fun y hy => num_lt' 0 y (by omega) (hn y (List.mem_of_mem_take hy)))
  have H9 := Lib.hid hl9
  have HLT := Lib.hid hlt9
  clear hl hcell hcase hn hl9 hlt9
  go_enter Try.func62, Try.ntmps62
  go_wp2_with fail
  go_loopw [4, 8] (fun v i wr => ∃ k : Nat, k ≤ len ∧ i = .int .i64 k ∧ OB wr w.heap.size v (nums (ns.take k)) ∧ Below w.heap.size w wr) (fun _ i _ => len - (intOf i).toNat)
  case atStart => exact ⟨0, Nat.zero_le _, rfl, World.ownsRow_nil _ _ _ _, Below.refl _ _⟩
  case round =>
    obtain ⟨k, hk, rfl, ho, hW⟩ := hrel
    by_cases hlt : k < len
    · obtain ⟨b', off, rfl, hbs, hc⟩ := HS.out k hlt
      have hc' := (hW.cell (p := ⟨b', off + k, none⟩) hbs).trans hc
      have hlp : k < ns.length := by rw [HL.out]; exact hlt
      have HT := Lib.hid (flat_snoc (num 0) ns k 0 hlp)
      have HM := Lib.hid (HN.out (ns.getD k 0) (by simp [hlp]))
      obtain ⟨m, hm⟩ : ∃ m, ns.getD k 0 = m := ⟨_, rfl⟩
      rw [hm] at hc' HT HM
      clear hc hm hlp
      go_wp2_with (go_at_call 108; refine (number_any _ _ 0 m w.heap.size _ ho hW.size (by have := H9.out k hk; omega) (by omega) HM.out).mono ?_; rintro e w2 ⟨v2, rfl, ho2, hb2⟩)
      go_roundw
      case rel => exact ⟨k + 1, by omega, by go_num, by unfold nums; rw [HT.out]; exact ho2, hW.trans hb2⟩
      case measure => simp [intOf]; omega
    · obtain rfl : k = len := by omega
      have ht : ns.take k = ns := List.take_of_length_le (by rw [HL.out]; omega)
      have h9 := H9.out k hk
      have hlt9 := HLT.out k
      rw [ht] at ho h9 hlt9
      have hrb := ho.rb hlt9 (by omega)
      clear ho
      clear hrb hlt9 ht
      go_wp2_with (first
        | (go_at_call 109; refine (target_nil _).mono ?_; rintro e w2 ⟨rfl, rfl⟩)
        | (go_at_call 134; refine (drop_any _ _).mono ?_; rintro e w2 ⟨rfl, rfl⟩))
      go_end0
      exact ⟨rfl, hW⟩
/- The complement of a number below 0. -/
open Go.RowKit
theorem not_neg (z : Int) (h0 : z < 0) (h1 : -9223372036854775808 ≤ z) : bits .xor .i64 (-1) z = -1 - z := by
  show IntKind.i64.wrap ((BitVec.ofInt 64 (-1) ^^^ BitVec.ofInt 64 z).toNat : Int) = _
  have h2 : BitVec.ofInt 64 (-1) = BitVec.allOnes 64 := by decide
  have h3 : (BitVec.ofInt 64 z).toNat = (z + 18446744073709551616).toNat := by
    rw [BitVec.toNat_ofInt]
    congr 1
    have : ((2 ^ 64 : Nat) : Int) = 18446744073709551616 := by decide
    rw [this]
    omega
  rw [h2, BitVec.allOnes_xor, BitVec.toNat_not, h3]
  simp [IntKind.wrap, IntKind.bits, IntKind.signed]
  omega
/- Walks of quill: numbers with a sign, and flags. -/
open Go.RowKit
theorem intB_len9 (z : Int) (h0 : -9223372036854775808 ≤ z) (h1 : z ≤ 9223372036854775807) : (intB z).length ≤ 9 := by
  unfold intB
  split
  · exact num_len9 _ _ (by omega)
  · exact num_len9 _ _ (by omega)
theorem intB_lt (z : Int) (h0 : -9223372036854775808 ≤ z) (h1 : z ≤ 9223372036854775807) : ∀ c ∈ intB z, c < 256 := by
  unfold intB
  split
  · exact num_lt' _ _ (by omega) (by omega)
  · exact num_lt' _ _ (by omega) (by omega)
theorem flagB_len9 (x : Bool) : (flagB x).length ≤ 9 := by
  unfold flagB
  split
  · exact num_len9 _ _ (by omega)
  · exact num_len9 _ _ (by omega)
theorem flagB_lt (x : Bool) : ∀ c ∈ flagB x, c < 256 := by
  unfold flagB
  split
  · exact num_lt' _ _ (by omega) (by omega)
  · exact num_lt' _ _ (by omega) (by omega)

/- Walks of quill: strings and raw bytes; what a writer has. -/
open Go.RowKit

/-- A string's bytes. -/
def sB (s : ByteArray) : List Nat := s.data.toList.map UInt8.toNat
theorem sB_len (s : ByteArray) : (sB s).length = s.size := by rw [sB, List.length_map, Array.length_toList]; rfl
theorem sB_get (s : ByteArray) (i : Nat) (h : i < s.data.size) : (sB s).getD i 0 = (s.data[i]).toNat := by
  rw [sB, List.getD_eq_getElem?_getD, List.getElem?_map, Array.getElem?_toList, Array.getElem?_eq_getElem h]; rfl
theorem sB_lt (s : ByteArray) : ∀ c ∈ sB s, c < 256 := by
  intro c hc
  simp only [sB, List.mem_map] at hc
  obtain ⟨x, _, rfl⟩ := hc
  exact x.toNat_lt
theorem str_bytes (w : World) (s : ByteArray) (hs : s.size ≤ 100000) :
    ∃ v' w', (convert 9 28 (.string s)).run Try.prog w = .ok v' w' ∧ RB w' v' (sB s) ∧ Below w.heap.size w w' := by
  have hr := run_bytes_of_string (P := Try.prog) w 9 28 5 s Try.underlying9 Try.underlying28 Try.underlying5
  refine ⟨_, _, hr, ⟨sB_lt s, by rw [sB_len]; omega, .inr ⟨_, _, by rw [sB_len], ?_, ?_, ?_⟩⟩, ?_⟩
  · rw [sB_len]; exact grownCap_ge w s.size 0 5
  · exact grownCap_le_maxLen w s.size 0 5 (by unfold maxLen; omega)
  · intro i hi
    rw [sB_len] at hi
    rw [add_at]
    have := World.cell?_alloc_mark w.drew (bytesRow s (grownCap w s.size 0 5)) 5 ((bytesRow s (grownCap w s.size 0 5)).size, (bytesRow s (grownCap w s.size 0 5)).size + 1) i
    rw [Nat.zero_add]
    refine this.trans ?_
    have hi2 : i < s.data.size := hi
    rw [sB_get s i hi2, bytesRow, Array.getElem?_append_left (by simpa using hi2), Array.getElem?_map, Array.getElem?_eq_getElem hi2]
    rfl
  · exact ((Below.refl _ _).drew).alloc (by simp) _

theorem WR.lt {w : World} {b base : Nat} {v : Value} {bs : List Nat} (h : WR w b base v bs) : b < w.heap.size := by have := h.2.1; have := h.2.2.1; omega
theorem Wrote.then {b base : Nat} {v : Value} {w w1 w' : World} {bs cs : List Nat} (h : Wrote b base v w bs w1) (k : ∀ v1, WR w1 b base v1 bs → Wrote b base v1 w1 cs w') : Wrote b base v w cs w' := by
  obtain ⟨v1, h1, h2, h3⟩ := h
  obtain ⟨v2, k1, k2, k3⟩ := k v1 h1
  exact ⟨v2, k1, h2.trans h3 k2, h3.trans h2.size k3⟩

theorem Wrote.join {b base : Nat} {v v1 : Value} {w w1 w' : World} {bs cs : List Nat} (h1 : WR w1 b base v1 bs) (h2 : Turn b v w w1) (h3 : Moved v w v1) (k : Wrote b base v1 w1 cs w') : Wrote b base v w cs w' := by
  obtain ⟨v2, k1, k2, k3⟩ := k
  exact ⟨v2, k1, h2.trans h3 k2, h3.trans h2.size k3⟩
theorem num_one (b base : Nat) (v : Value) (n : Nat) (bs : List Nat) (w : World) (hw : WR w b base v bs) (hbl : bs.length ≤ 10000000) (hn : n < 18446744073709551616) :
    Calls Try.prog 62 #[.pointer (some ⟨b, 0, none⟩), .slice (some ⟨w.heap.size, 0, none⟩) 1 1] (w.alloc (.cells #[.int .u64 ((n : Nat) : Int)] 22)) fun e w' => e = .returned (.tuple #[]) ∧ Wrote b base v w (bs ++ num 0 n) w' := by
  have hB : Below w.heap.size w (w.alloc (.cells #[.int .u64 ((n : Nat) : Int)] 22)) := (Below.refl _ _).alloc (Nat.le_refl _) _
  have := num_wr b base v bs [n] _ _ (hw.kept hB) hbl (rv_one w w.heap.size 22 _ rfl) (by simpa using hn)
  have e : nums [n] = num 0 n := by simp [nums]
  rw [e] at this
  exact this.mono fun _ _ h => ⟨h.1, h.2.after hB⟩
theorem num_one_nil (n : Nat) (w : World) (hn : n < 18446744073709551616) :
    Calls Try.prog 62 #[.pointer none, .slice (some ⟨w.heap.size, 0, none⟩) 1 1] (w.alloc (.cells #[.int .u64 ((n : Nat) : Int)] 22)) fun e w' => e = .returned (.tuple #[]) ∧ Below w.heap.size w w' := by
  have hB : Below w.heap.size w (w.alloc (.cells #[.int .u64 ((n : Nat) : Int)] 22)) := (Below.refl _ _).alloc (Nat.le_refl _) _
  have := num_nil [n] _ _ (rv_one w w.heap.size 22 _ rfl) (by simpa using hn)
  exact this.mono fun _ _ h => ⟨h.1, hB.trans (h.2.mono hB.size)⟩
set_option maxHeartbeats 1000000 in
theorem text_wr (b base : Nat) (v : Value) (s : ByteArray) (bs : List Nat) (w : World) (hw : WR w b base v bs) (hl : bs.length ≤ 9000000) (hs : s.size ≤ 40000) :
    Calls Try.prog 67 #[.pointer (some ⟨b, 0, none⟩), .string s] w fun e w' => e = .returned (.tuple #[]) ∧ Wrote b base v w (bs ++ (num 0 s.size ++ sB s)) w' := by
  have hn9 := num_len9 0 s.size (by omega)
  have HW := Lib.hid hw
  have HL := Lib.hid hl
  have H9 := Lib.hid hn9
  clear hw hl hn9
  go_enter Try.func67, Try.ntmps67
  go_wp2_with (first
    | (go_at_call 62; refine (num_one b base v s.size bs w HW.out (by have := HL.out; omega) (by omega)).mono ?_; rintro e w1 ⟨rfl, v1, hw1, ht1, hm1⟩; obtain ⟨x, w2, hrun, hrb2, hb2⟩ := str_bytes w1 s (by omega); have HW2 := Lib.hid (hw1.kept hb2); have HRB := Lib.hid hrb2; clear hrb2)
    | (go_at_call 109; refine (target_any _ _).mono ?_; rintro e w3 ⟨rfl, rfl⟩)
    | (go_at_call 135; refine (keep_any _ _ _ _ _ _ _ HW2.out HRB.out (by have := HL.out; have := H9.out; rw [sB_len]; simp; omega)).mono ?_; rintro e w3 ⟨rfl, hwr⟩))
  go_end0
  exact ⟨rfl, by rw [← List.append_assoc]; exact Wrote.join hw1 ht1 hm1 (hwr.after hb2)⟩
set_option maxHeartbeats 1000000 in
theorem text_nil (s : ByteArray) (w : World) (hs : s.size ≤ 40000) :
    Calls Try.prog 67 #[.pointer none, .string s] w fun e w' => e = .returned (.tuple #[]) ∧ Below w.heap.size w w' := by
  go_enter Try.func67, Try.ntmps67
  go_wp2_with (first
    | (go_at_call 62; refine (num_one_nil s.size w (by omega)).mono ?_; rintro e w1 ⟨rfl, hb1⟩; obtain ⟨x, w2, hrun, hrb2, hb2⟩ := str_bytes w1 s (by omega))
    | (go_at_call 109; refine (target_nil _).mono ?_; rintro e w3 ⟨rfl, rfl⟩)
    | (go_at_call 134; refine (drop_any _ _).mono ?_; rintro e w3 ⟨rfl, rfl⟩))
  go_end0
  exact ⟨rfl, hb1.trans (hb2.mono hb1.size)⟩

/- Walks of quill: what a writer has; and of its reference: the bytes by the text. -/
open Go.RowKit
/-- bytes.Clone. -/
theorem bclone_any (v : Value) (bs : List Nat) (w : World) (hb : RB w v bs) : Calls Try.prog 58 #[v] w (Owned w bs) := by
  rcases hb.2.2 with ⟨rfl, rfl⟩ | ⟨x, cap, rfl, _, _, _⟩
  · have hn := fun (w : World) (n c : Nat) => Lib.run_eql_slice_nil (P := Try.prog) w 28 5 none n c 0 0 Try.underlying28
    go_enter Try.func58, Try.ntmps58
    go_wp2
    go_ret
    exact ⟨_, rfl, World.ownsRow_nil _ _ _ _, Below.refl _ _⟩
  · have hn := fun (w : World) (n c : Nat) => Lib.run_eql_slice_nil (P := Try.prog) w 28 5 (some x) n c 0 0 Try.underlying28
    obtain ⟨n, hnn⟩ : ∃ n, bs.length = n := ⟨_, rfl⟩
    have HB := Lib.hid hb
    have hl := hb.2.1
    rw [hnn] at hl ⊢
    have HN := Lib.hid hnn
    clear hb hnn
    go_enter Try.func58, Try.ntmps58
    go_wp2_with (first
      | (at_builtin; refine append_rb rfl _ _ rfl w.heap.size _ _ [] bs rfl rfl (ob_empty _ _ rfl) (by have := HB.out.kept ((Below.refl _ _).alloc (Nat.le_refl _) (.cells #[] 5)); rw [HN.out] at this; exact this) (by have := HN.out; simp; omega) (by simp) ?_; intro v1 w1 ho1 hg1; have hb1 := (ob_empty w _ rfl).below hg1 ((Below.refl w.heap.size w).alloc (Nat.le_refl _) _) (by simp); clear hg1))
    go_ret
    exact ⟨_, rfl, ho1, hb1⟩


theorem bytes_wr (b base : Nat) (v : Value) (bs : List Nat) (w : World) (hw : WR w b base v bs) (hl : bs.length ≤ 10000000) : Calls Try.prog 64 #[.pointer (some ⟨b, 0, none⟩)] w (Owned w bs) := by
  have hc := cell_of_one hw.1
  have H := Lib.hid (bclone_any v bs w (hw.2.2.2.1.rb hw.2.2.2.2 (by omega)))
  clear hw hl
  go_enter Try.func64, Try.ntmps64
  go_wp2_with (go_at_call 58; refine (H.out).mono ?_; rintro e w' ⟨v', rfl, ho, hb⟩)
  go_ret
  exact ⟨v', rfl, ho, hb⟩
theorem bytes_nil (w : World) : Calls Try.prog 64 #[.pointer none] w fun e w' => e = .returned (.slice none 0 0) ∧ w = w' := by
  go_enter Try.func64, Try.ntmps64
  go_wp2
  go_ret
  exact ⟨rfl, rfl⟩

theorem RB.shapeN' {w : World} {v : Value} {bs : List Nat} {n : Nat} (h : RB w v bs) (hn : bs.length = n) : ∃ a cap, v = .slice a n cap := by
  obtain ⟨a, cap, hv, _, _⟩ := h.shape
  exact ⟨a, cap, by rw [← hn]; exact hv⟩
theorem ob_lit1 (w : World) (b base : Nat) (y : Int) (x : Nat) (hb : b = w.heap.size) (hy : y = (x : Int)) (hB : base ≤ w.heap.size) : OB (w.alloc (.cells #[.int .u8 y] 5)) base (.slice (some ⟨b, 0, none⟩) 1 1) [x] := by
  subst hb
  subst hy
  exact World.ownsRow_lit w #[.int .u8 (x : Int)] 1 hB (by simp [maxLen]) rfl

set_option maxHeartbeats 1000000 in
theorem refnum_any (n : Nat) (w : World) (hn : n < 18446744073709551616) : Calls Try.prog 66 #[.int .u64 (n : Int)] w (Owned w (num 0 n)) := by
  have HN := Lib.hid hn
  clear hn
  go_enter Try.func66, Try.ntmps66
  go_wp2_with fail
  go_loopw [0, 3] (fun m v wr => ∃ j : Nat, j ≤ 8 ∧ m = .int .u64 ((n / 2 ^ (8 * j) : Nat) : Int) ∧ OB wr w.heap.size v (enc j n) ∧ Below w.heap.size w wr ∧ (0 < j → 2 ^ (8 * (j - 1)) ≤ n)) (fun m _ _ => (intOf m).toNat)
  case atStart => exact ⟨0, by omega, by simp, World.ownsRow_nil _ _ _ _, Below.refl _ _, by omega⟩
  case round =>
    obtain ⟨j, hj, rfl, ho, hW, hlow⟩ := hrel
    obtain ⟨m, hm⟩ : ∃ m, n / 2 ^ (8 * j) = m := ⟨_, rfl⟩
    rw [hm]
    have hrb := ho.rb (enc_lt j n) (by rw [enc_len]; omega)
    by_cases h0 : 0 < m
    · have h8 : j < 8 := by
        rcases Nat.lt_or_ge j 8 with h | h
        · exact h
        · have e : j = 8 := by omega
          subst e
          have := HN.out
          have e2 : (2 : Nat) ^ (8 * 8) = 18446744073709551616 := by decide
          rw [e2] at hm
          omega
      have hnext : n / 2 ^ (8 * (j + 1)) = m / 256 := by rw [← hm, Nat.div_div_eq_div_mul, Nat.mul_add, Nat.pow_add]
      have hlow2 : 2 ^ (8 * j) ≤ n := by
        rcases Nat.lt_or_ge n (2 ^ (8 * j)) with h | h
        · rw [Nat.div_eq_of_lt h] at hm; omega
        · exact h
      have hmn : m ≤ n := by rw [← hm]; exact Nat.div_le_self _ _
      have hwr : IntKind.u64.wrap ((m : Int) / 256) = (m : Int) / 256 := by have := HN.out; exact IntWalk.u64_in _ ⟨by omega, by omega⟩
      have HE := Lib.hid (show enc (j + 1) n = [m % 256] ++ enc j n by rw [enc, hm]; rfl)
      have HX := Lib.hid hnext
      have HL := Lib.hid hlow2
      have HR := Lib.hid (hrb.kept ((Below.refl _ _).alloc (Nat.le_refl _) (.cells #[.int .u8 ((m : Int) % 256)] 5)))
      have hsz := hW.size
      clear hm hrb hlow ho hnext hlow2 hmn
      go_wp2_with (at_builtin; refine append_rb rfl (.tmp 9) (.tmp 10) rfl w.heap.size _ _ [m % 256] (enc j n) rfl rfl (ob_lit1 _ _ _ _ _ rfl (by omega) hsz) HR.out (by rw [enc_len]; simp; omega) (by simp; omega) ?_; intro v2 w2 ho2 hg2; have hb2 := (ob_lit1 wr _ w.heap.size ((m : Int) % 256) (m % 256) rfl (by omega) hsz).below hg2 (hW.alloc hsz _) (by simp; omega); clear hg2)
      go_roundw
      case rel => exact ⟨j + 1, by omega, by rw [HX.out]; go_num, by rw [HE.out]; exact ho2, hb2, fun _ => HL.out⟩
      case measure => simp [intOf]; omega
    · obtain rfl : m = 0 := by omega
      have hup : n < 2 ^ (8 * j) := by
        rcases Nat.lt_or_ge n (2 ^ (8 * j)) with h | h
        · exact h
        · have := Nat.div_pos h (Nat.two_pow_pos _); omega
      have hz := sz_unique n j hup hlow
      have HE := Lib.hid (show num 0 n = [j] ++ enc j n by unfold num; rw [hz]; simp)
      have hel := enc_len j n
      obtain ⟨a, c, hv⟩ := hrb.shapeN' hel
      subst hv
      have HEL := Lib.hid hel
      have HR := Lib.hid hrb
      have hsz := hW.size
      clear hm hup hz hel hlow hrb ho
      go_wp2_with (at_builtin; refine append_rb rfl (.tmp 17) (.tmp 18) rfl w.heap.size _ _ [j] (enc j n) rfl rfl (ob_lit1 _ _ _ _ _ rfl (by omega) hsz) (HR.out.kept ((Below.refl _ _).alloc (Nat.le_refl _) _)) (by rw [HEL.out]; simp; omega) (by simp; omega) ?_; intro v2 w2 ho2 hg2; have hb2 := (ob_lit1 wr _ w.heap.size (j : Int) j rfl rfl hsz).below hg2 (hW.alloc hsz _) (by simp; omega); clear hg2)
      go_ret
      exact ⟨_, rfl, by rw [HE.out]; exact ho2, hb2⟩
end Go.Proofs.Ythefnakbpalecaa

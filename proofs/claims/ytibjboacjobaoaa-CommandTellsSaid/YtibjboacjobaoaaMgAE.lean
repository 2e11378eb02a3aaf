import Derived.Test.YtibjboacjobaoaaMgAD
import Derived.BigQuiet
import Derived.Lib.MinMax
import Derived.Deep.QuietTactic
import Derived.RangeFuncNested
import Derived.RangeFuncBound
import Derived.RangeFuncCalls
import Derived.RangeFuncLeaves
import Derived.Shelf.Abstract
import Derived.Shelf.RegionOpen
import Derived.OwnWalkIn
import Derived.TacticsInMore
import Derived.LoopNIn
import Derived.LoopIn
namespace Go.Proofs.Ytibjboacjobaoaa
open Go.RowKit
/- Rows of spans of one's own: a copy, and add. -/
open Go.RowKit

/-- A copy of a row is the call's own. -/
def Copied (l : List (Int × Int)) (w : World) (e : Ending) (w' : World) : Prop := ∃ v, e = .returned v ∧ OS w' w.heap.size v l ∧ Below w.heap.size w w'
set_option maxRecDepth 100000 in
set_option maxHeartbeats 1600000 in
theorem clone_any (a : Option Addr) (n cap : Nat) (F T : Nat → Int) (w : World) (hS : Sps w a n F T) (hn : n ≤ 100000) :
    Calls Try.prog 140 #[.slice a n cap] w (Copied (pairs F T n) w) := by
  have HL := Lib.hid (pairs_len F T n)
  cases a with
  | none =>
    have h0 : n = 0 := by
      rcases Nat.eq_zero_or_pos n with h | h
      · exact h
      · obtain ⟨ab, ao, e, _⟩ := hS.2 h
        cases e
    subst h0
    clear hS
    have he : ∀ w : World, (binOp .eql 23 (.slice none 0 cap) (.slice none 0 0)).run Try.prog w = .ok (.bool true) w := fun _ => rfl
    go_enter Try.func140, Try.ntmps140
    go_wp2_with fail
    go_ret
    exact ⟨_, rfl, OS.nil _ _, Below.refl _ _⟩
  | some x =>
    obtain ⟨i0, hi, hz0, hz1, hz2⟩ := info_parts spans_info
    have hnews : ∀ j u, (spc (pairs F T n))[j]? = some u → (w.alloc (.cells #[] 193)).cell? (x.add j) = some u := by
      intro j u hu
      have hj : j < n * 2 := by
        have := (List.getElem?_eq_some_iff.1 hu).1
        rwa [spc_len, pairs_len] at this
      obtain ⟨ab, ao, e, hlt, hc⟩ := hS.2 (by omega)
      injection e with e
      subst e
      obtain ⟨k, hk | hk⟩ : ∃ k, j = k * 2 ∨ j = k * 2 + 1 := ⟨j / 2, by omega⟩
      · have hkn : k < n := by omega
        have h1 := (spc_at (pairs F T n) k (by rw [pairs_len]; exact hkn)).1
        rw [hk] at hu ⊢
        rw [h1] at hu
        rw [add_at, World.cell?_alloc_past _ _ _ hlt, (hc k hkn).1, ← hu, ← (pairs_at F T n k hkn).1]
        rfl
      · have hkn : k < n := by omega
        have h1 := (spc_at (pairs F T n) k (by rw [pairs_len]; exact hkn)).2
        rw [hk] at hu ⊢
        rw [h1] at hu
        rw [add_at, ← Nat.add_assoc, World.cell?_alloc_past _ _ _ hlt, (hc k hkn).2.1, ← hu, ← (pairs_at F T n k hkn).2]
        rfl
    have HN := Lib.hid hnews
    clear hS hnews
    have he : ∀ w : World, (binOp .eql 23 (.slice (some x) n cap) (.slice none 0 0)).run Try.prog w = .ok (.bool false) w := fun _ => rfl
    go_enter Try.func140, Try.ntmps140
    go_wp2_with (at_builtin; refine wpList_append_own _ rfl (.tmp 5) (.tmp 6) 23 rfl w.heap.size 193 i0 (.agg #[.int .i64 0, .int .i64 0]) 2 16 Try.underlying23 hi hz0 hz1 hz2 rfl (by decide) _ _ _ rfl (ow_none w) x n cap (spc (pairs F T n)) rfl ?c0 HN.out (spc_one _) ?c3 ?c4 ?c5 ?_)
    case c0 => rw [spc_len, HL.out]
    case c3 => unfold maxLen; show 0 + n ≤ _; omega
    case c4 => show (0 + n) * 16 ≤ _; omega
    case c5 => simp
    intro v1 w1 hown hgrow _
    have hB : Below w.heap.size w w1 := ((Below.refl w.heap.size w).alloc (Nat.le_refl _) (.cells #[] 193)).grown hgrow (by simp) fun k hk => (World.ownsRow.lt (ow_none w) k hk).1
    have hO : OS w1 w.heap.size v1 (pairs F T n) := by
      unfold OS
      rw [HL.out]
      exact hown
    have HB := Lib.hid hB
    have HO := Lib.hid hO
    clear hown hgrow hB hO
    go_wp2_with fail
    go_ret
    exact ⟨_, rfl, HO.out, HB.out⟩

/-- What add makes of a row of the call's own. -/
def Added (base : Nat) (l : List (Int × Int)) (w : World) (e : Ending) (w' : World) : Prop := ∃ v, e = .returned v ∧ OS w' base v l ∧ Stays base w w'
/- An almanac in memory; the search for the first span that ends behind an instant; closed, after. -/
open Go.RowKit

/-- How many spans end up to t. -/
def idx (T : Nat → Int) (t : Int) : Nat → Nat
  | 0 => 0
  | n + 1 => if T n ≤ t then n + 1 else idx T t n
theorem idx_le (T : Nat → Int) (t : Int) : ∀ n, idx T t n ≤ n := by
  intro n
  induction n with
  | zero => exact Nat.le_refl _
  | succ n ih => simp only [idx]; split <;> omega
theorem idx_hi {T : Nat → Int} {t : Int} : ∀ n j, idx T t n ≤ j → j < n → t < T j := by
  intro n
  induction n with
  | zero => intro j _ h; omega
  | succ n ih =>
    intro j h1 h2
    simp only [idx] at h1
    split at h1
    · omega
    · by_cases e : j = n
      · subst e; omega
      · exact ih j h1 (by omega)
theorem idx_top {T : Nat → Int} {t : Int} : ∀ n, 0 < idx T t n → T (idx T t n - 1) ≤ t := by
  intro n
  induction n with
  | zero => intro h; simp [idx] at h
  | succ n ih =>
    intro h
    simp only [idx] at h ⊢
    split
    · simpa using by assumption
    · rename_i hc
      rw [if_neg hc] at h
      exact ih h
theorem good_mono {F T : Nat → Int} {n : Nat} (hg : good F T n = true) : ∀ j k, j ≤ k → k < n → T j ≤ T k := fun j k hjk hk => by
  by_cases e : j = k
  · subst e; exact Int.le_refl _
  · have := good_order hg k j (by omega) hk
    have := (good_at hg hk).2.1
    omega
theorem idx_lo {F T : Nat → Int} {t : Int} {n : Nat} (hg : good F T n = true) : ∀ j, j < idx T t n → T j ≤ t := by
  intro j hj
  have h1 := idx_top n (show 0 < idx T t n by omega)
  have h2 := good_mono hg j (idx T t n - 1) (by omega) (by have := idx_le T t n; omega)
  omega
theorem idx_eq {T : Nat → Int} {t : Int} {n i : Nat} (hi : i ≤ n) (hlo : ∀ j, j < i → T j ≤ t) (hhi : ∀ j, i ≤ j → j < n → t < T j) : i = idx T t n := by
  rcases Nat.lt_trichotomy i (idx T t n) with h | h | h
  · have h1 := idx_top n (show 0 < idx T t n by omega)
    have h2 := hhi (idx T t n - 1) (by omega) (by have := idx_le T t n; omega)
    omega
  · exact h
  · have h1 := hlo (idx T t n) h
    have h2 := idx_hi (t := t) n (idx T t n) (Nat.le_refl _) (by omega)
    omega

/-- An almanac: none, or one in its block; its row. -/
structure Alm (p : Option Addr) (a : Option Addr) (n c : Nat) (F T : Nat → Int) (w : World) : Prop where
  mem : (p = none ∧ a = none ∧ n = 0 ∧ c = 0) ∨ ∃ A, p = some ⟨A, 0, none⟩ ∧ w.cell? ⟨A, 0, none⟩ = some (.slice a n c)
  sps : Sps w a n F T
  cap : n ≤ c
  len : n ≤ 32
  good : good F T n = true
theorem Alm.kept {p a : Option Addr} {n c : Nat} {F T : Nat → Int} {w w' : World} (h : Alm p a n c F T w) (hb : Below w.heap.size w w') : Alm p a n c F T w' := by
  refine ⟨?_, h.sps.kept hb, h.cap, h.len, h.good⟩
  rcases h.mem with h | ⟨A, hp, hc⟩
  · exact .inl h
  · exact .inr ⟨A, hp, (hb.cell (p := ⟨A, 0, none⟩) (cell_spot hc).2).trans hc⟩

/- An almanac's after, Next, Closed; between; New; Row. -/
open Go.RowKit

/-- A row from its span i on. -/
def sh (F : Nat → Int) (i k : Nat) : Int := F (i + k)
theorem sh_zero (F : Nat → Int) : sh F 0 = F := by funext k; simp [sh]
theorem sh_at (F : Nat → Int) (i : Nat) : sh F i 0 = F i := rfl
theorem Sps.alike {w : World} {a : Option Addr} {n : Nat} {F T F' T' : Nat → Int} (h : Sps w a n F T) (he : ∀ k, k < n → F k = F' k ∧ T k = T' k) : Sps w a n F' T' := by
  refine ⟨h.1, fun hp => ?_⟩
  obtain ⟨ab, ao, e, hl, hc⟩ := h.2 hp
  exact ⟨ab, ao, e, hl, fun k hk => by rw [← (he k hk).1, ← (he k hk).2]; exact hc k hk⟩
/-- What after hands back: the row from its first span on that ends behind t. -/
def Rest (a : Option Addr) (i n : Nat) (F T : Nat → Int) (w : World) (e : Ending) (w' : World) : Prop :=
  ∃ a' c', e = .returned (.slice a' (n - i : Nat) c') ∧ n - i ≤ c' ∧ Sps w' a' (n - i) (sh F i) (sh T i) ∧ (∀ x', 0 < n - i → a' = some x' → ∃ x, a = some x ∧ x.block = x'.block) ∧ Below w.heap.size w w'
theorem Sps.empty {w : World} {a : Option Addr} {n : Nat} {F T : Nat → Int} (h : n = 0) : Sps w a n F T := by
  subst h
  exact ⟨Nat.zero_le _, fun h => by omega⟩
theorem Sps.from_ {w : World} {a : Option Addr} {n : Nat} {F T : Nat → Int} (h : Sps w a n F T) (i : Nat) : Sps w (a.map (fun x => x.add (i * 2))) (n - i) (sh F i) (sh T i) := by
  refine ⟨by have := h.1; omega, fun hp => ?_⟩
  obtain ⟨ab, ao, rfl, hl, hc⟩ := h.2 (by omega)
  refine ⟨ab, ao + i * 2, by simp [Option.map, Addr.add], hl, fun k hk => ?_⟩
  have := hc (i + k) (by omega)
  rw [show ao + (i + k) * 2 = ao + i * 2 + k * 2 by omega] at this
  exact this
/-- The first closed span that ends behind t, or zeros. -/
def nx (G T : Nat → Int) (n : Nat) (t : Int) : Int := if idx T t n < n then G (idx T t n) else 0
/-- What lies between two instants: from, to; 0 and 0 where there is nothing. -/
def gapF (x y : Int) : Int := if y ≤ x then 0 else x
def gapT (x y : Int) : Int := if y ≤ x then 0 else y
/-- Whether a second is closed. -/
def closedB (F T : Nat → Int) (n : Nat) (t : Int) : Bool := decide (idx T t n < n) && decide (nx F T n t ≤ t)
theorem closedB_iff {F T : Nat → Int} {n : Nat} (hg : good F T n = true) (t : Int) : closedB F T n t = hasB F T t n := by
  have h1 := idx_le T t n
  by_cases h : idx T t n < n
  · have h2 := idx_hi (t := t) n (idx T t n) (Nat.le_refl _) h
    have e : nx F T n t = F (idx T t n) := if_pos h
    unfold closedB
    rw [e, decide_eq_true h, Bool.true_and]
    cases hh : hasB F T t n with
    | true =>
      obtain ⟨k, hk, h3, h4⟩ := (hasB_iff n).1 hh
      refine decide_eq_true ?_
      by_cases e2 : k < idx T t n
      · have := idx_lo hg k e2; omega
      · by_cases e3 : k = idx T t n
        · rw [← e3]; exact h3
        · have := good_order hg k (idx T t n) (by omega) hk; omega
    | false =>
      refine decide_eq_false fun h3 => ?_
      have : hasB F T t n = true := (hasB_iff n).2 ⟨idx T t n, h, h3, h2⟩
      rw [hh] at this
      cases this
  · unfold closedB
    rw [decide_eq_false h, Bool.false_and]
    cases hh : hasB F T t n with
    | false => rfl
    | true =>
      obtain ⟨k, hk, h3, h4⟩ := (hasB_iff n).1 hh
      have := idx_lo (t := t) hg k (by omega)
      omega

/-- An almanac made. -/
def AlmMade (n : Nat) (F T : Nat → Int) (w : World) (e : Ending) (w' : World) : Prop :=
  ∃ A a c, e = .returned (.tuple #[.pointer (some ⟨A, 0, none⟩), .int .i64 0]) ∧ w.heap.size ≤ A ∧ Alm (some ⟨A, 0, none⟩) a n c F T w' ∧ (∀ x, 0 < n → a = some x → w.heap.size ≤ x.block ∧ x.block ≠ A) ∧ Below w.heap.size w w'
set_option maxRecDepth 100000 in
theorem made_ok (a : Option Addr) (n cap : Nat) (F T : Nat → Int) (w : World) (hS : Sps w a n F T) (hn : n ≤ 32) (hg : good F T n = true) :
    Calls Try.prog 132 #[.slice a n cap] w (AlmMade n F T w) := by
  have hr := row_any a n cap F T w hS
  rw [rowE_ok hn hg] at hr
  have HCL := Lib.hid (fun w1 (hb : Below w.heap.size w w1) => clone_any a n cap F T w1 (hS.kept hb) (by omega))
  have HG := Lib.hid hg
  have HLN := Lib.hid (pairs_len F T n)
  have HC := Lib.hid hS
  clear hS hg
  go_enter Try.func132, Try.ntmps132
  go_wp2_with fail
  refine hr.mono ?_
  rintro e w1 ⟨rfl, hb1⟩
  have hcl := HCL.out w1 hb1
  have HB1 := Lib.hid hb1
  clear hr hb1
  go_wp2_with fail
  refine hcl.mono ?_
  rintro e w2 ⟨v, rfl, hO, hb2⟩
  obtain ⟨va, vc, rfl, _, hsh⟩ := hO.shape
  have hS2 : Sps w2 va n F T := by
    have h := (hO.sps (by
      intro s hs
      obtain ⟨k, hk, rfl⟩ := pairs_mem.1 hs
      obtain ⟨_, _, _, _, _, _, b⟩ := HC.out.at (Below.refl _ _) k hk
      exact b)).2
    rw [HLN.out] at h
    exact h.alike fun k hk => pairs_at F T n k hk
  have hcap : n ≤ vc := by
    rcases hO.2 with ⟨hv, h0⟩ | ⟨g, cap2, cur, hv, hg2, hh, hc, hm, _⟩
    · rw [HLN.out] at h0; omega
    · injection hv with _ _ hv3
      rw [HLN.out] at hc; omega
  rw [HLN.out] at hsh ⊢
  have hblk : ∀ x, 0 < n → va = some x → w.heap.size ≤ x.block ∧ x.block ≠ w2.heap.size := by
    intro x hp hx
    obtain ⟨g, e, h1, h2, _⟩ := hsh hp
    rw [hx] at e
    injection e with e
    subst e
    have := HB1.out.size
    exact ⟨by show w.heap.size ≤ g; omega, by show g ≠ w2.heap.size; omega⟩
  have HB2 := Lib.hid (HB1.out.trans (hb2.mono HB1.out.size))
  have HS2 := Lib.hid hS2
  have HK := Lib.hid hblk
  clear hcl hO hb2 hS2 hsh hblk
  go_wp2_with fail
  go_ret2
  have B3 : Below w2.heap.size w2 (w2.alloc (.cells #[.slice va n vc] 204)) := (Below.refl _ _).alloc (Nat.le_refl _) _
  exact ⟨w2.heap.size, va, vc, rfl, HB2.out.size, ⟨.inr ⟨_, rfl, by simp⟩, HS2.out.kept B3, hcap, hn, HG.out⟩, HK.out, HB2.out.alloc HB2.out.size _⟩
theorem made_bad (a : Option Addr) (n cap : Nat) (F T : Nat → Int) (w : World) (hS : Sps w a n F T) (hw : (rowE F T n != 0) = true) :
    Calls Try.prog 132 #[.slice a n cap] w fun e w' => e = .returned (.tuple #[.pointer none, .int .i64 (rowE F T n)]) ∧ Below w.heap.size w w' := by
  have hr := row_any a n cap F T w hS
  clear hS
  generalize rowE F T n = z at hr hw ⊢
  go_enter Try.func132, Try.ntmps132
  go_wp2_with fail
  refine hr.mono ?_
  rintro e w1 ⟨rfl, hb1⟩
  clear hr
  go_wp2_with fail
  go_ret2
  exact ⟨rfl, hb1⟩
/- A range over a function that hands out spans: what the loop owes, and what its function owes; rounds may leave the loop. -/
open Go.RowKit Go.Shelf

/-- All blocks but those of X lie as they lay. -/
structure Kept (X : Nat → Prop) (W W' : World) : Prop where
  size : W.heap.size ≤ W'.heap.size
  block : ∀ b, b < W.heap.size → ¬ X b → W'.heap[b]? = W.heap[b]?
theorem Kept.refl (X : Nat → Prop) (W : World) : Kept X W W := ⟨Nat.le_refl _, fun _ _ _ => rfl⟩
theorem Kept.trans {X : Nat → Prop} {A B C : World} (h : Kept X A B) (k : Kept X B C) : Kept X A C :=
  ⟨Nat.le_trans h.size k.size, fun b hb hx => (k.block b (Nat.lt_of_lt_of_le hb h.size) hx).trans (h.block b hb hx)⟩
theorem Kept.more {X Y : Nat → Prop} {A B : World} (h : Kept X A B) (hxy : ∀ b, X b → Y b) : Kept Y A B := ⟨h.size, fun b hb hy => h.block b hb (fun hx => hy (hxy b hx))⟩
theorem Kept.below {X : Nat → Prop} {W W' : World} (h : Below W.heap.size W W') : Kept X W W' := ⟨h.size, fun b hb _ => h.block b hb⟩
theorem Kept.only {X : Nat → Prop} {W W' : World} (h : Only X W W') : Kept X W W' := ⟨h.size, h.block⟩
theorem Kept.putObj {X : Nat → Prop} (W : World) (l : Nat) (o : Obj) (hl : X l) : Kept X W (W.putObj l o) :=
  ⟨by simp, fun b _ hx => World.putObj_heap_other (fun e => hx (e ▸ hl))⟩
theorem Kept.setCell {X : Nat → Prop} (W : World) (p : Addr) (v : Value) (hl : X p.block) : Kept X W (W.setCell p v) :=
  ⟨by simp, fun b _ hx => Below.heap_setCell _ _ _ _ (fun e => hx (e ▸ hl))⟩
theorem Kept.cell {X : Nat → Prop} {W W' : World} (h : Kept X W W') {p : Addr} (hp : p.block < W.heap.size) (hx : ¬ X p.block) : W'.cell? p = W.cell? p := World.cell?_of_block (h.block _ hp hx)
theorem Sps.keptX {X : Nat → Prop} {w w' : World} {a : Option Addr} {n : Nat} {F T : Nat → Int} (h : Sps w a n F T) (o : Kept X w w') (hx : ∀ x, 0 < n → a = some x → ¬ X x.block) : Sps w' a n F T := by
  refine ⟨h.1, fun hp => ?_⟩
  obtain ⟨ab, ao, e, hl, hc⟩ := h.2 hp
  have hn : ¬ X ab := hx _ hp e
  exact ⟨ab, ao, e, Nat.lt_of_lt_of_le hl o.size, fun k hk => ⟨(o.cell (p := ⟨ab, ao + k * 2, none⟩) hl hn).trans (hc k hk).1, (o.cell (p := ⟨ab, ao + k * 2 + 1, none⟩) hl hn).trans (hc k hk).2.1, (hc k hk).2.2⟩⟩

/-- All cells, and all blocks below B, lie as they lay. -/
structure Tame (B : Nat) (V V' : World) : Prop where
  os : V'.os = V.os
  tape : V'.tape = V.tape
  output : V'.output = V.output
  size : V.heap.size ≤ V'.heap.size
  block : ∀ b o, V.heap[b]? = some o → (o.isCells = true ∨ b < B) → V'.heap[b]? = some o
theorem Tame.below {B : Nat} {V V' : World} (h : Tame B V V') (hB : B ≤ V.heap.size) : Below B V V' :=
  ⟨h.os, h.tape, h.output, h.size, fun k hk => by
    have hlt : k < V.heap.size := by omega
    obtain ⟨o, ho⟩ : ∃ o, V.heap[k]? = some o := ⟨_, Array.getElem?_eq_getElem hlt⟩
    rw [ho]; exact h.block k o ho (.inr hk)⟩
theorem Tame.belowLe {B B' : Nat} {V V' : World} (h : Tame B V V') (hB : B' ≤ B) (hV : B' ≤ V.heap.size) : Below B' V V' :=
  ⟨h.os, h.tape, h.output, h.size, fun k hk => by
    have hlt : k < V.heap.size := by omega
    obtain ⟨o, ho⟩ : ∃ o, V.heap[k]? = some o := ⟨_, Array.getElem?_eq_getElem hlt⟩
    rw [ho]; exact h.block k o ho (.inr (by omega))⟩
theorem Tame.of_below {B : Nat} {V V' : World} (h : Below V.heap.size V V') : Tame B V V' :=
  ⟨h.os, h.tape, h.output, h.size, fun b o ho _ => (h.block b (Array.getElem?_eq_some_iff.1 ho).1).trans ho⟩
theorem Tame.trans {B : Nat} {A V V' : World} (h : Tame B A V) (k : Tame B V V') : Tame B A V' :=
  ⟨k.os.trans h.os, k.tape.trans h.tape, k.output.trans h.output, Nat.le_trans h.size k.size, fun b o ho hb => k.block b o (h.block b o ho hb) hb⟩
theorem Tame.putObj {B : Nat} (V : World) {l : Nat} {o : Obj} (o' : Obj) (hl : V.heap[l]? = some o) (ho : o.isCells = false) (hB : B ≤ l) : Tame B V (V.putObj l o') :=
  ⟨rfl, rfl, rfl, by simp, fun b u hu hb => by
    by_cases e : b = l
    · subst e
      rw [hl] at hu
      injection hu with hu
      subst hu
      rcases hb with hb | hb
      · rw [ho] at hb; cases hb
      · omega
    · exact (World.putObj_heap_other e).trans hu⟩
theorem isCells_of_cell {V : World} {p : Addr} {v : Value} (h : V.cell? p = some v) : ∃ o, V.heap[p.block]? = some o ∧ o.isCells = true := by
  have hlt := (cell_spot h).2
  refine ⟨V.heap[p.block], Array.getElem?_eq_getElem hlt, ?_⟩
  have h2 : V.heap[p.block]? = some V.heap[p.block] := Array.getElem?_eq_getElem hlt
  cases hc : V.heap[p.block] with
  | cells vs t => rfl
  | _ => simp [World.cell?, h2, hc] at h
theorem Tame.cell {B : Nat} {V V' : World} (h : Tame B V V') {p : Addr} {v : Value} (hc : V.cell? p = some v) : V'.cell? p = some v := by
  obtain ⟨o, ho, hi⟩ := isCells_of_cell hc
  exact (World.cell?_of_block ((h.block _ o ho (.inl hi)).trans ho.symm)).trans hc
theorem Tame.frozen {B : Nat} {V V' : World} (h : Tame B V V') {p : Addr} {v : Value} (hc : V.cell? p = some v) : V'.frozen? p = V.frozen? p := by
  obtain ⟨o, ho, hi⟩ := isCells_of_cell hc
  exact World.frozen?_of_block ((h.block _ o ho (.inl hi)).trans ho.symm)
/-- A variable of one's own in a block. -/
def Var (W : World) (b : Nat) (v : Value) : Prop := W.cell? ⟨b, 0, none⟩ = some v ∧ W.frozen? ⟨b, 0, none⟩ = false
theorem Var.lt {W : World} {b : Nat} {v : Value} (h : Var W b v) : b < W.heap.size := (cell_spot h.1).2
theorem Var.tame {B : Nat} {W W' : World} {b : Nat} {v : Value} (h : Var W b v) (t : Tame B W W') : Var W' b v := ⟨t.cell h.1, (t.frozen h.1).trans h.2⟩
theorem Var.kept {W W' : World} {b : Nat} {v : Value} (h : Var W b v) (t : Below W.heap.size W W') : Var W' b v := h.tame (Tame.of_below (B := 0) t)
theorem Var.keptX {X : Nat → Prop} {W W' : World} {b : Nat} {v : Value} (h : Var W b v) (t : Kept X W W') (hx : ¬ X b) : Var W' b v :=
  ⟨(t.cell (p := ⟨b, 0, none⟩) h.lt hx).trans h.1, (World.frozen?_of_block (t.block _ h.lt hx)).trans h.2⟩
theorem Var.set {W : World} {b : Nat} {v : Value} (h : Var W b v) (u : Value) (hu : u.oneCell' = true) (hv : v.oneCell' = true) : Var (W.setCell ⟨b, 0, none⟩ u) b u :=
  ⟨World.cell?_setCell_same' _ _ _ (by rw [h.1]; rfl), (World.frozen?_setCell _ _ _ _).trans h.2⟩
theorem Var.other {W : World} {b c : Nat} {v : Value} (h : Var W b v) (hne : b ≠ c) (o : Nat) (u : Value) : Var (W.setCell ⟨c, o, none⟩ u) b v :=
  ⟨(World.cell?_of_block (Below.heap_setCell _ _ _ _ hne)).trans h.1, (World.frozen?_setCell _ _ _ _).trans h.2⟩
theorem Var.new (W : World) (v : Value) (t : TypeId) (hv : v.oneCell' = true) : Var (W.alloc (.cells #[v] t)) W.heap.size v := ⟨by simp, by simp⟩
theorem Sps.tame {B : Nat} {w w' : World} {a : Option Addr} {n : Nat} {F T : Nat → Int} (h : Sps w a n F T) (o : Tame B w w') : Sps w' a n F T := by
  refine ⟨h.1, fun hp => ?_⟩
  obtain ⟨ab, ao, e, hl, hc⟩ := h.2 hp
  exact ⟨ab, ao, e, Nat.lt_of_lt_of_le hl o.size, fun k hk => ⟨o.cell (hc k hk).1, o.cell (hc k hk).2.1, (hc k hk).2.2⟩⟩
theorem OS.tame {B : Nat} {w w' : World} {base : Nat} {v : Value} {l : List (Int × Int)} (h : OS w base v l) (o : Tame B w w') : OS w' base v l := by
  obtain ⟨h1, h2⟩ := h
  refine ⟨h1, ?_⟩
  rcases h2 with h2 | ⟨g, cap, cur, hv, hg, hh, r⟩
  · exact .inl h2
  · exact .inr ⟨g, cap, cur, hv, hg, o.block g _ hh (.inl rfl), r⟩

/-- What may turn: what lay in V, but for P. -/
def Turns (P : Nat → Prop) (V : World) (b : Nat) : Prop := ¬ P b ∧ b < V.heap.size
/-- What yield owes the function that calls it: round k takes span k, and says 'on', or 'enough'. V: where the caller's own invariant stood; what the function laid since then stays, and so does P. -/
def Yielding (l : Nat) (P : Nat → Prop) (rows : List (Int × Int)) (J : Nat → World → Prop) (Js : World → Prop) : Prop :=
  ∀ (k : Nat) (f t : Int) (V W : World), rows[k]? = some (f, t) → J k V → Below V.heap.size V W →
    YieldAt Fence.wide 1 Try.prog l #[.agg #[.int .i64 f, .int .i64 t]] W fun e W' => (∃ b, e = .returned (.bool b) ∧ (b = true → J (k + 1) W' ∧ Kept (Turns P V) W W') ∧ (b = false → Js W'))
/-- What the function owes the loop. -/
def Handing (gf : Nat) (lb : Array Value) (rows : List (Int × Int)) (P : Nat → Prop) (w : World) : Prop :=
  ∀ (J : Nat → World → Prop) (Js : World → Prop), (∀ k V V', J k V → Below V.heap.size V V' → J k V') → (∀ V V', Js V → Below V.heap.size V V' → Js V') → ∀ (l : Nat) (W : World), w.heap.size < l → Below w.heap.size w W →
    Yielding l P rows J Js → J 0 W → CallsIn Fence.wide 2 Try.prog gf (#[.func (.yield l) #[] #[]] ++ lb) W fun e W' => (∃ v, e = .returned v) ∧ (J rows.length W' ∨ Js W')
/-- How a round is left. -/
def Around (X : Nat → Prop) (I : World → Prop) (Ix : Code → World → Prop) (W : World) : Exit → Act → World → Prop
  | .normal, _, W' => KeepsOthers W W' ∧ Kept X W W' ∧ I W'
  | .ret, _, W' => KeepsOthers W W' ∧ Ix .ret W'
  | .exit id, _, W' => KeepsOthers W W' ∧ Ix (.exit id) W'
  | _, _, _ => False

theorem range_spans {g : Operand} {ps : Array Tmp} {assign body : Code} {Q : Exit → Act → World → Prop} {a : Act} {w : World} {gf : Nat} {lb : Array Value}
    (hg : a.eval g = .func (.func gf) #[] lb) (eg : ∀ args w, (callFunc gf args).run Try.prog w = .ok (.enter gf args) w)
    (rows : List (Int × Int)) (P : Nat → Prop) (hP : ∀ b, P b → b < w.heap.size) (hiter : Handing gf lb rows P w)
    (I : Nat → World → Prop) (Ix : Code → World → Prop) (hI : ∀ k V V', I k V → Tame w.heap.size V V' → I k V') (hIx : ∀ c V V', Ix c V → Tame w.heap.size V V' → Ix c V') (h0 : I 0 w) (hps : ps.size = 1) (a₁ : Int → Int → Nat → Act)
    (hassign : ∀ (l : Nat) (f t : Int) (W : World) (K : Act → World → Prop), K (a₁ f t W.heap.size) (W.alloc (.cells #[.int .i64 f, .int .i64 t] 193)) →
      assign.wpIn (Fence.wide.inRound l) 1 Try.prog (Exit.then K (fun _ _ _ => False)) { tmps := (ps.zip #[.agg #[.int .i64 f, .int .i64 t]]).foldl (fun t (p, v) => t.setIfInBounds p v) a.tmps, defers := [] } W)
    (hbody : ∀ (l k : Nat) (f t : Int) (c : Nat) (V W : World), rows[k]? = some (f, t) → I k V → Tame w.heap.size V W → W.cell? ⟨c, 0, none⟩ = some (.int .i64 f) → W.cell? ⟨c, 1, none⟩ = some (.int .i64 t) → V.heap.size ≤ c → body.wpIn (Fence.wide.inRound l) 1 Try.prog (Around (Turns P V) (I (k + 1)) Ix W) (a₁ f t c) W)
    (hdone : ∀ (W : World), I rows.length W → W.heap[w.heap.size]? = some (.deferred (some [])) → Q .normal { a with defers := { target := .collected w.heap.size, args := #[] } :: a.defers } W)
    (hstop : ∀ (c : Code) (W : World), Ix c W → W.heap[w.heap.size]? = some (.deferred (some [])) → c.wpIn Fence.wide 3 Try.prog Q { a with defers := { target := .collected w.heap.size, args := #[] } :: a.defers } W) :
    (Code.rangeFunc g ps assign body).wpIn Fence.wide 3 Try.prog Q a w := by
  refine wpIn_rangeFunc fun fn _ => ?_
  obtain ⟨B, hB⟩ : ∃ B, w.heap.size = B := ⟨_, rfl⟩
  rw [hB] at hI hIx hdone hstop hbody hP
  obtain ⟨rec, hrec⟩ : ∃ rec : LoopState → Option Code → Loop, rec = fun st pe => { state := st, pending := pe, fn, tmps := a.tmps, params := ps, assign, body, defers := B } := ⟨_, rfl⟩
  have start := run_enterLoop_outer (P := Try.prog) (w := w) fn a.tmps ps assign body
  rw [hB] at start
  obtain ⟨W1, hW1⟩ : ∃ W1, (w.alloc (.deferred (some []))).alloc (.loop (rec .ready none)) = W1 := ⟨_, rfl⟩
  have start' : (Instr.enterLoop fn a.tmps ps assign body Fence.wide.round).run Try.prog w = .ok (B + 1, [{ target := .collected B, args := #[] }]) W1 := by
    rw [← hW1, hrec]; exact start
  have hlt : (w.alloc (.deferred (some []))).heap.size = B + 1 := by rw [World.size_alloc, hB]
  have hL : W1.heap[B + 1]? = some (.loop (rec .ready none)) := by
    have := World.alloc_heap_new (w.alloc (.deferred (some []))) (.loop (rec .ready none)); rw [hlt, hW1] at this; exact this
  have hD : W1.heap[B]? = some (.deferred (some [])) := by
    rw [← hW1, Below.heap_alloc _ _ _ (by omega), ← hB]; exact World.alloc_heap_new w _
  have hbW : Below B w W1 := by
    rw [← hW1]
    exact ((Below.refl B w).alloc (by omega) _).alloc (by omega) _
  -- the call's own invariant, and the loop's record and block beside it
  let J : Nat → World → Prop := fun k V => I k V ∧ V.heap[B + 1]? = some (.loop (rec .ready none)) ∧ V.heap[B]? = some (.deferred (some []))
  let Js : World → Prop := fun V => ∃ c, Ix c V ∧ V.heap[B + 1]? = some (.loop (rec .done (some c))) ∧ V.heap[B]? = some (.deferred (some []))
  have hJ : ∀ k V V', J k V → Below V.heap.size V V' → J k V' := fun k V V' ⟨h1, h2, h3⟩ hb => by
    have s2 := (Array.getElem?_eq_some_iff.1 h2).1
    exact ⟨hI k V V' h1 (Tame.of_below hb), (hb.block _ s2).trans h2, (hb.block _ (by omega)).trans h3⟩
  have hJs : ∀ V V', Js V → Below V.heap.size V V' → Js V' := fun V V' ⟨c, h1, h2, h3⟩ hb => by
    have s2 := (Array.getElem?_eq_some_iff.1 h2).1
    exact ⟨c, hIx c V V' h1 (Tame.of_below hb), (hb.block _ s2).trans h2, (hb.block _ (by omega)).trans h3⟩
  have hY : Yielding (B + 1) P rows J Js := by
    rintro k f t V W hrow ⟨h1, h2, h3⟩ hVW
    have hV := h1
    have sV := (Array.getElem?_eq_some_iff.1 h2).1
    have htl : Turns P V (B + 1) := ⟨fun h => by have := hP _ h; omega, sV⟩
    have hVs := hVW.size
    have hTV := Tame.of_below (B := B) hVW
    replace h1 := hI k V W h1 hTV
    replace h2 := (hVW.block _ sV).trans h2
    replace h3 := (hVW.block _ (by omega)).trans h3
    have hy := run_yield (P := Try.prog) (args := #[.agg #[.int .i64 f, .int .i64 t]]) h2 (by rw [hrec]; exact hps.symm)
    refine ⟨_, _, _, _, hy, roundIn_of_wpIn trivial ?_⟩
    rw [hrec]
    have s2 := (Array.getElem?_eq_some_iff.1 h2).1
    refine hassign (B + 1) f t W _ ⟨_, run_beginRound (r := rec .ready none) ((Below.heap_alloc _ _ _ s2).trans h2) (by rw [hrec]), ?_⟩
    have hbA : Below W.heap.size W (W.alloc (.cells #[.int .i64 f, .int .i64 t] 193)) := (Below.refl _ _).alloc (Nat.le_refl _) _
    have e1 := (hbA.block _ s2).trans h2
    have e2 := (hbA.block _ (show B < W.heap.size by omega)).trans h3
    have c0 : (W.alloc (.cells #[.int .i64 f, .int .i64 t] 193)).cell? ⟨W.heap.size, 0, none⟩ = some (.int .i64 f) := by simp
    have c1 : (W.alloc (.cells #[.int .i64 f, .int .i64 t] 193)).cell? ⟨W.heap.size, 1, none⟩ = some (.int .i64 t) := by simp
    have hTA := hTV.trans (Tame.of_below (B := B) hbA)
    have hKA : Kept (Turns P V) W (W.alloc (.cells #[.int .i64 f, .int .i64 t] 193)) := Kept.below hbA
    have hcs : V.heap.size ≤ W.heap.size := hVs
    generalize W.heap.size = cb at c0 c1 hcs
    generalize W.alloc (.cells #[.int .i64 f, .int .i64 t] 193) = WA at *
    have hst : ({ rec .ready none with state := .busy } : Loop) = rec .busy none := by rw [hrec]
    rw [hst]
    have sA := (Array.getElem?_eq_some_iff.1 e1).1
    have hT := Tame.putObj (B := B) WA (.loop (rec .busy none)) e1 rfl (show B ≤ B + 1 by omega)
    have g2 : (WA.putObj (B + 1) (.loop (rec .busy none))).heap[B + 1]? = some (.loop (rec .busy none)) := World.putObj_heap_same sA
    have g3 : (WA.putObj (B + 1) (.loop (rec .busy none))).heap[B]? = some (.deferred (some [])) := (World.putObj_heap_other (by omega)).trans e2
    refine wpIn_mono (hbody (B + 1) k f t cb V _ hrow hV (hTA.trans hT) (hT.cell c0) (hT.cell c1) hcs) ?_
    have fin : ∀ (jump : Option Code) (W3 : World), KeepsOthers (WA.putObj (B + 1) (.loop (rec .busy none))) W3 →
        (Instr.endRound (B + 1) jump).run Try.prog W3 = .ok (.bool jump.isNone) (W3.putObj (B + 1) (.loop (rec (if jump.isNone then .ready else .done) jump))) ∧
        Tame B W3 (W3.putObj (B + 1) (.loop (rec (if jump.isNone then .ready else .done) jump))) ∧
        (W3.putObj (B + 1) (.loop (rec (if jump.isNone then .ready else .done) jump))).heap[B + 1]? = some (.loop (rec (if jump.isNone then .ready else .done) jump)) ∧
        (W3.putObj (B + 1) (.loop (rec (if jump.isNone then .ready else .done) jump))).heap[B]? = some (.deferred (some [])) := fun jump W3 hk3 => by
      have k2 := hk3.same _ _ g2 rfl
      have k3 := hk3.same _ _ g3 rfl
      have hend := run_endRound (P := Try.prog) jump k2
      have hfin : ({ rec .busy none with state := if jump.isNone then LoopState.ready else LoopState.done, pending := jump } : Loop) = rec (if jump.isNone then .ready else .done) jump := by rw [hrec]
      rw [hfin] at hend
      exact ⟨hend, Tame.putObj W3 _ k2 rfl (by omega), World.putObj_heap_same (Array.getElem?_eq_some_iff.1 k2).1, (World.putObj_heap_other (by omega)).trans k3⟩
    rintro e a3 W3 hp
    cases e with
    | normal =>
      obtain ⟨hk, hx, hi⟩ := hp
      obtain ⟨hr, ht, hl3, hd3⟩ := fin none W3 hk
      refine ⟨_, _, hr, true, rfl, fun _ => ⟨⟨hI _ _ _ hi ht, hl3, hd3⟩, ?_⟩, fun h => by cases h⟩
      exact hKA.trans (((Kept.putObj WA _ _ htl).trans hx).trans (Kept.putObj W3 _ _ htl))
    | ret =>
      obtain ⟨hk, hi⟩ := hp
      obtain ⟨hr, ht, hl3, hd3⟩ := fin (some .ret) W3 hk
      exact ⟨_, _, hr, false, rfl, fun h => (by cases h), fun _ => ⟨.ret, hIx _ _ _ hi ht, hl3, hd3⟩⟩
    | exit id =>
      obtain ⟨hk, hi⟩ := hp
      obtain ⟨hr, ht, hl3, hd3⟩ := fin (some (.exit id)) W3 hk
      exact ⟨_, _, hr, false, rfl, fun h => (by cases h), fun _ => ⟨.exit id, hIx _ _ _ hi ht, hl3, hd3⟩⟩
    | goto t => exact hp.elim
    | panic ch => exact hp.elim
    | outgrown => exact hp.elim
  refine ⟨B + 1, [{ target := .collected B, args := #[] }], W1, { target := .fn (.func gf) lb, args := #[.func (.yield (B + 1)) #[] #[]] }, W1, gf, #[.func (.yield (B + 1)) #[] #[]] ++ lb, W1, start', ?_, fun _ _ => trivial, ?_, fun _ => by omega, ?_⟩
  · simp only [resolve, hg]
    simp [go_sem]
  · simp [invoke, go_sem, eg]
  · refine (hiter J Js hJ hJs (B + 1) W1 (by omega) (by rw [hB]; exact hbW) hY ⟨hI 0 _ _ h0 (Tame.of_below (by rw [hB]; exact hbW)), hL, hD⟩).mono ?_
    rintro e W2 ⟨⟨v, rfl⟩, (⟨h1, h2, h3⟩ | ⟨c, h1, h2, h3⟩)⟩
    · have hend := run_endLoop (P := Try.prog) h2 (by rw [hrec]; simp)
      have hp : (rec .ready none).pending = none := by rw [hrec]
      rw [hp] at hend
      exact ⟨none, _, hend, hdone _ (hI _ _ _ h1 (Tame.putObj W2 _ h2 rfl (by omega))) ((World.putObj_heap_other (by omega)).trans h3)⟩
    · have hend := run_endLoop (P := Try.prog) h2 (by rw [hrec]; simp)
      have hp : (rec .done (some c)).pending = some c := by rw [hrec]
      rw [hp] at hend
      exact ⟨some c, _, hend, hstop c _ (hIx c _ _ h1 (Tame.putObj W2 _ h2 rfl (by omega))) ((World.putObj_heap_other (by omega)).trans h3)⟩
end Go.Proofs.Ytibjboacjobaoaa

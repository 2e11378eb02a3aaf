import Derived.Test.YthnnbmofpmedhaaGreatSp1
import Derived.Laws.AppendOwnNone
import Derived.Laws.OwnMore
import Derived.OwnWalk
import Derived.BigQuiet
import Derived.Lib.MinMax
import Derived.Deep.QuietTactic
namespace Go.Proofs.YthnnbmofpmedhaaGreat
open Go.RowKit
/- Rows of spans of one's own: an append of one span, a copy of a row, add. -/
open Go.RowKit

theorem below_drewN' {B : Nat} {w w' : World} (h : Below B w w') (n : Nat) : Below B w (w'.drewN n) := ⟨h.os, h.tape, h.output, h.size, h.block⟩
/-- The cells of spans. -/
def spc (l : List (Int × Int)) : List Value := l.flatMap fun x => [.int .i64 x.1, .int .i64 x.2]
theorem spc_append (a b : List (Int × Int)) : spc (a ++ b) = spc a ++ spc b := by simp [spc]
theorem spc_len (l : List (Int × Int)) : (spc l).length = l.length * 2 := by
  unfold spc
  induction l with
  | nil => rfl
  | cons r l ih => rw [List.flatMap_cons, List.length_append, ih]; simp; omega
theorem spc_one (l : List (Int × Int)) : ∀ u ∈ spc l, u.oneCell' = true := by
  intro u hu
  simp only [spc, List.mem_flatMap, List.mem_cons, List.not_mem_nil, or_false] at hu
  obtain ⟨x, _, rfl | rfl⟩ := hu <;> rfl
theorem spc_at : ∀ (l : List (Int × Int)) (k : Nat), k < l.length → (spc l)[k * 2]? = some (.int .i64 (l.getD k (0, 0)).1) ∧ (spc l)[k * 2 + 1]? = some (.int .i64 (l.getD k (0, 0)).2)
  | [], k, h => by simp at h
  | x :: l, 0, _ => ⟨rfl, rfl⟩
  | x :: l, k + 1, h => by
    have := spc_at l k (by simpa using h)
    have e : spc (x :: l) = .int .i64 x.1 :: .int .i64 x.2 :: spc l := rfl
    rw [e, show (k + 1) * 2 = k * 2 + 1 + 1 by omega, show k * 2 + 1 + 1 + 1 = (k * 2 + 1) + 1 + 1 by omega]
    simp only [List.getElem?_cons_succ]
    exact this
/-- Where the spans of a list begin, and end. -/
def fr (l : List (Int × Int)) (k : Nat) : Int := (l.getD k (0, 0)).1
def til (l : List (Int × Int)) (k : Nat) : Int := (l.getD k (0, 0)).2
/-- A row as a list. -/
def pairs (F T : Nat → Int) (n : Nat) : List (Int × Int) := (List.range n).map fun k => (F k, T k)
theorem pairs_len (F T : Nat → Int) (n : Nat) : (pairs F T n).length = n := by simp [pairs]
theorem pairs_succ (F T : Nat → Int) (n : Nat) : pairs F T (n + 1) = pairs F T n ++ [(F n, T n)] := by simp [pairs, List.range_succ]
theorem pairs_at (F T : Nat → Int) (n k : Nat) (h : k < n) : fr (pairs F T n) k = F k ∧ til (pairs F T n) k = T k := by
  simp [fr, til, pairs, h]
theorem pairs_mem {F T : Nat → Int} {n : Nat} {s : Int × Int} : s ∈ pairs F T n ↔ ∃ k, k < n ∧ s = (F k, T k) := by
  simp only [pairs, List.mem_map, List.mem_range]
  constructor
  · rintro ⟨k, hk, rfl⟩; exact ⟨k, hk, rfl⟩
  · rintro ⟨k, hk, rfl⟩; exact ⟨k, hk, rfl⟩
theorem spans_info : (Tryz.prog.info? 61).map (fun i => (i.zero, i.size, i.bytes)) = some (some (.agg #[.int .i64 0, .int .i64 0]), 2, 16) := by kernel_rfl

/-- The slice v, whose spans are l, is the call's own. -/
def OS (w : World) (base : Nat) (v : Value) (l : List (Int × Int)) : Prop := w.ownsRow base 61 2 v l.length (spc l)
theorem OS.kept {w w' : World} {base : Nat} {v : Value} {l : List (Int × Int)} (h : OS w base v l) (hb : Below w.heap.size w w') : OS w' base v l := by
  obtain ⟨h1, h2⟩ := h
  refine ⟨h1, ?_⟩
  rcases h2 with h2 | ⟨g, cap, cur, hv, hg, hh, r⟩
  · exact .inl h2
  · exact .inr ⟨g, cap, cur, hv, hg, by rw [hb.block g (Array.getElem?_eq_some_iff.mp hh).1]; exact hh, r⟩
theorem OS.mono {w : World} {base base' : Nat} {v : Value} {l : List (Int × Int)} (h : OS w base v l) (hb : base' ≤ base) : OS w base' v l := by
  obtain ⟨h1, h2⟩ := h
  refine ⟨h1, ?_⟩
  rcases h2 with h2 | ⟨g, cap, cur, hv, hg, r⟩
  · exact .inl h2
  · exact .inr ⟨g, cap, cur, hv, by omega, r⟩
theorem OS.nil (w : World) (base : Nat) : OS w base (.slice none 0 0) [] := ⟨rfl, .inl ⟨rfl, rfl⟩⟩
theorem OS.shape {w : World} {base : Nat} {v : Value} {l : List (Int × Int)} (h : OS w base v l) : ∃ a c, v = .slice a l.length c ∧ l.length ≤ maxLen ∧
    (0 < l.length → ∃ g, a = some ⟨g, 0, none⟩ ∧ base ≤ g ∧ g < w.heap.size ∧ ∀ k, k < l.length → w.cell? ⟨g, k * 2, none⟩ = some (.int .i64 (fr l k)) ∧ w.cell? ⟨g, k * 2 + 1, none⟩ = some (.int .i64 (til l k)) ∧ w.frozen? ⟨g, k * 2, none⟩ = false ∧ w.frozen? ⟨g, k * 2 + 1, none⟩ = false) := by
  have h' := h
  rcases h'.2 with ⟨hv, h0⟩ | ⟨g, cap, cur, hv, hg, hh, hc, hm, _⟩
  · exact ⟨none, 0, by rw [hv, h0], by rw [h0]; exact Nat.zero_le _, fun h1 => by omega⟩
  · subst hv
    refine ⟨_, cap, rfl, by omega, fun h1 => ⟨g, rfl, hg, (Array.getElem?_eq_some_iff.mp hh).1, fun k hk => ?_⟩⟩
    have c0 := World.ownsRow.cellAt h (k * 2) (by omega)
    have c1 := World.ownsRow.cellAt h (k * 2 + 1) (by omega)
    have hs := spc_at l k hk
    rw [hs.1] at c0
    rw [hs.2] at c1
    exact ⟨c0, c1, World.ownsRow.frozenAt h _, World.ownsRow.frozenAt h _⟩
/-- An own row can be read. -/
theorem OS.sps {w : World} {base : Nat} {a : Option Addr} {n c : Nat} {l : List (Int × Int)} (h : OS w base (.slice a n c) l)
    (hb : ∀ s ∈ l, -9223372036854775808 ≤ s.1 ∧ s.1 ≤ 9223372036854775807 ∧ -9223372036854775808 ≤ s.2 ∧ s.2 ≤ 9223372036854775807) : n = l.length ∧ Sps w a n (fr l) (til l) := by
  obtain ⟨a', c', e, hm, hc⟩ := h.shape
  injection e with e1 e2 e3
  subst e1 e2
  refine ⟨rfl, hm, fun hp => ?_⟩
  obtain ⟨g, ha, _, hlt, hk⟩ := hc hp
  refine ⟨g, 0, ha, hlt, fun k hkl => ?_⟩
  obtain ⟨c0, c1, _, _⟩ := hk k hkl
  refine ⟨by rw [Nat.zero_add]; exact c0, by rw [Nat.zero_add]; exact c1, ?_⟩
  have := hb (l.getD k (0, 0)) (by simp [hkl])
  exact this

theorem ow_none (w : World) : OS (w.alloc (.cells #[] 61)) w.heap.size (.slice (some ⟨w.heap.size, 0, none⟩) 0 0) [] :=
  World.ownsRow_lit w #[] 0 (Nat.le_refl _) (by simp) rfl
theorem new_span (w : World) (x y : Value) (t : TypeId) : ∀ j u, [x, y][j]? = some u → (w.alloc (.cells #[x, y] t)).cell? ((⟨w.heap.size, 0, none⟩ : Addr).add j) = some u := by
  intro j u h
  rw [add_at]
  match j with
  | 0 => simp at h; subst h; simp
  | 1 => simp at h; subst h; simp
  | j + 2 => simp at h
/-- What was there below a base stays, whatever is appended to a row of one's own. -/
def Stays (base : Nat) (w w' : World) : Prop := w.heap.size ≤ w'.heap.size ∧ ∀ W, Below base W w → Below base W w'
theorem Stays.refl (base : Nat) (w : World) : Stays base w w := ⟨Nat.le_refl _, fun _ h => h⟩
theorem Stays.trans {base : Nat} {a b c : World} (h : Stays base a b) (k : Stays base b c) : Stays base a c := ⟨Nat.le_trans h.1 k.1, fun W hW => k.2 W (h.2 W hW)⟩
theorem Stays.below {base : Nat} {w w' : World} (hb : base ≤ w.heap.size) (h : Below w.heap.size w w') : Stays base w w' := ⟨h.size, fun _ hW => hW.trans (h.mono hb)⟩

/-- append(s, one span). -/
theorem append_span {w : World} {ops : Array Oper} {rest : List Oper} {o : Oper} {a : Act} {Q : Exit → Act → World → Prop} (hgd : o.guard = none) (s x : Operand)
    (ho : o.op = .call { callee := .builtin .append, args := #[s, x], argTypes := #[22, 22] })
    (base : Nat) (v : Value) (l : List (Int × Int)) (f t : Int) (ad : Addr) (c : Nat) (hs : a.eval s = v) (hx : a.eval x = .slice (some ad) 1 c) (hown : OS w base v l)
    (hc : ∀ j u, [Value.int .i64 f, .int .i64 t][j]? = some u → w.cell? (ad.add j) = some u)
    (hlen : l.length ≤ 100000) (hbase : base ≤ w.heap.size)
    (h : ∀ v' w', OS w' base v' (l ++ [(f, t)]) → Stays base w w' → wpList Tryz.prog ops Q rest (a.put o.dst v') w') : wpList Tryz.prog ops Q (o :: rest) a w := by
  obtain ⟨i0, hi, hz0, hz1, hz2⟩ := info_parts spans_info
  refine wpList_append_own w hgd s x 22 ho base 61 i0 (.agg #[.int .i64 0, .int .i64 0]) 2 16 Tryz.underlying22 hi hz0 hz1 hz2 rfl (by decide) v l.length (spc l) hs hown ad 1 c [.int .i64 f, .int .i64 t] hx rfl hc
    (by intro u hu; simp only [List.mem_cons, List.not_mem_nil, or_false] at hu; rcases hu with rfl | rfl <;> rfl) (by unfold maxLen; omega) (by omega) hbase ?_
  intro v' w' h1 h2 _
  exact h v' w' (by unfold OS; rw [List.length_append, spc_append]; exact h1) ⟨h2.size, fun W hW => hW.grown h2 hbase fun k hk => (World.ownsRow.lt hown k hk).1⟩
/- Rows of spans of one's own: a copy, and add. -/
open Go.RowKit

/-- A copy of a row is the call's own. -/
def Copied (l : List (Int × Int)) (w : World) (e : Ending) (w' : World) : Prop := ∃ v, e = .returned v ∧ OS w' w.heap.size v l ∧ Below w.heap.size w w'
set_option maxRecDepth 100000 in
set_option maxHeartbeats 1600000 in
theorem clone_any (a : Option Addr) (n cap : Nat) (F T : Nat → Int) (w : World) (hS : Sps w a n F T) (hn : n ≤ 100000) :
    Calls Tryz.prog 79 #[.slice a n cap] w (Copied (pairs F T n) w) := by
  have HL := Lib.hid (pairs_len F T n)
  cases a with
  | none =>
    have h0 : n = 0 := by
      rcases Nat.eq_zero_or_pos n with h | h
      · exact h
      · obtain ⟨ab, ao, e, _⟩ := hS.2 h
        cases e
    subst h0
    clear hS
    have he : ∀ w : World, (binOp .eql 22 (.slice none 0 cap) (.slice none 0 0)).run Tryz.prog w = .ok (.bool true) w := fun _ => rfl
    go_enter Tryz.func79, Tryz.ntmps79
    go_wp2_with fail
    go_ret
    exact ⟨_, rfl, OS.nil _ _, Below.refl _ _⟩
  | some x =>
    obtain ⟨i0, hi, hz0, hz1, hz2⟩ := info_parts spans_info
    have hnews : ∀ j u, (spc (pairs F T n))[j]? = some u → (w.alloc (.cells #[] 61)).cell? (x.add j) = some u := by
      intro j u hu
      have hj : j < n * 2 := by
        have := (List.getElem?_eq_some_iff.1 hu).1
        rwa [spc_len, pairs_len] at this
      obtain ⟨ab, ao, e, hlt, hc⟩ := hS.2 (by omega)
      injection e with e
      subst e
      obtain ⟨k, hk | hk⟩ : ∃ k, j = k * 2 ∨ j = k * 2 + 1 := ⟨j / 2, by omega⟩
      · have hkn : k < n := by omega
        have h1 := (spc_at (pairs F T n) k (by rw [pairs_len]; exact hkn)).1
        rw [hk] at hu ⊢
        rw [h1] at hu
        rw [add_at, World.cell?_alloc_past _ _ _ hlt, (hc k hkn).1, ← hu, ← (pairs_at F T n k hkn).1]
        rfl
      · have hkn : k < n := by omega
        have h1 := (spc_at (pairs F T n) k (by rw [pairs_len]; exact hkn)).2
        rw [hk] at hu ⊢
        rw [h1] at hu
        rw [add_at, ← Nat.add_assoc, World.cell?_alloc_past _ _ _ hlt, (hc k hkn).2.1, ← hu, ← (pairs_at F T n k hkn).2]
        rfl
    have HN := Lib.hid hnews
    clear hS hnews
    have he : ∀ w : World, (binOp .eql 22 (.slice (some x) n cap) (.slice none 0 0)).run Tryz.prog w = .ok (.bool false) w := fun _ => rfl
    go_enter Tryz.func79, Tryz.ntmps79
    go_wp2_with (at_builtin; refine wpList_append_own _ rfl (.tmp 5) (.tmp 6) 22 rfl w.heap.size 61 i0 (.agg #[.int .i64 0, .int .i64 0]) 2 16 Tryz.underlying22 hi hz0 hz1 hz2 rfl (by decide) _ _ _ rfl (ow_none w) x n cap (spc (pairs F T n)) rfl ?c0 HN.out (spc_one _) ?c3 ?c4 ?c5 ?_)
    case c0 => rw [spc_len, HL.out]
    case c3 => unfold maxLen; show 0 + n ≤ _; omega
    case c4 => show (0 + n) * 16 ≤ _; omega
    case c5 => simp
    intro v1 w1 hown hgrow _
    have hB : Below w.heap.size w w1 := ((Below.refl w.heap.size w).alloc (Nat.le_refl _) (.cells #[] 61)).grown hgrow (by simp) fun k hk => (World.ownsRow.lt (ow_none w) k hk).1
    have hO : OS w1 w.heap.size v1 (pairs F T n) := by
      unfold OS
      rw [HL.out]
      exact hown
    have HB := Lib.hid hB
    have HO := Lib.hid hO
    clear hown hgrow hB hO
    go_wp2_with fail
    go_ret
    exact ⟨_, rfl, HO.out, HB.out⟩

/-- What add makes of a row of the call's own. -/
def Added (base : Nat) (l : List (Int × Int)) (w : World) (e : Ending) (w' : World) : Prop := ∃ v, e = .returned v ∧ OS w' base v l ∧ Stays base w w'
/- An almanac in memory; the search for the first span that ends behind an instant; closed, after. -/
open Go.RowKit

/-- How many spans end up to t. -/
def idx (T : Nat → Int) (t : Int) : Nat → Nat
  | 0 => 0
  | n + 1 => if T n ≤ t then n + 1 else idx T t n
theorem idx_le (T : Nat → Int) (t : Int) : ∀ n, idx T t n ≤ n := by
  intro n
  induction n with
  | zero => exact Nat.le_refl _
  | succ n ih => simp only [idx]; split <;> omega
theorem idx_hi {T : Nat → Int} {t : Int} : ∀ n j, idx T t n ≤ j → j < n → t < T j := by
  intro n
  induction n with
  | zero => intro j _ h; omega
  | succ n ih =>
    intro j h1 h2
    simp only [idx] at h1
    split at h1
    · omega
    · by_cases e : j = n
      · subst e; omega
      · exact ih j h1 (by omega)
theorem idx_top {T : Nat → Int} {t : Int} : ∀ n, 0 < idx T t n → T (idx T t n - 1) ≤ t := by
  intro n
  induction n with
  | zero => intro h; simp [idx] at h
  | succ n ih =>
    intro h
    simp only [idx] at h ⊢
    split
    · simpa using by assumption
    · rename_i hc
      rw [if_neg hc] at h
      exact ih h
theorem good_mono {F T : Nat → Int} {n : Nat} (hg : good F T n = true) : ∀ j k, j ≤ k → k < n → T j ≤ T k := fun j k hjk hk => by
  by_cases e : j = k
  · subst e; exact Int.le_refl _
  · have := good_order hg k j (by omega) hk
    have := (good_at hg hk).2.1
    omega
theorem idx_lo {F T : Nat → Int} {t : Int} {n : Nat} (hg : good F T n = true) : ∀ j, j < idx T t n → T j ≤ t := by
  intro j hj
  have h1 := idx_top n (show 0 < idx T t n by omega)
  have h2 := good_mono hg j (idx T t n - 1) (by omega) (by have := idx_le T t n; omega)
  omega
theorem idx_eq {T : Nat → Int} {t : Int} {n i : Nat} (hi : i ≤ n) (hlo : ∀ j, j < i → T j ≤ t) (hhi : ∀ j, i ≤ j → j < n → t < T j) : i = idx T t n := by
  rcases Nat.lt_trichotomy i (idx T t n) with h | h | h
  · have h1 := idx_top n (show 0 < idx T t n by omega)
    have h2 := hhi (idx T t n - 1) (by omega) (by have := idx_le T t n; omega)
    omega
  · exact h
  · have h1 := hlo (idx T t n) h
    have h2 := idx_hi (t := t) n (idx T t n) (Nat.le_refl _) (by omega)
    omega

/-- An almanac: none, or one in its block; its row. -/
structure Alm (p : Option Addr) (a : Option Addr) (n c : Nat) (F T : Nat → Int) (w : World) : Prop where
  mem : (p = none ∧ a = none ∧ n = 0 ∧ c = 0) ∨ ∃ A, p = some ⟨A, 0, none⟩ ∧ w.cell? ⟨A, 0, none⟩ = some (.slice a n c)
  sps : Sps w a n F T
  cap : n ≤ c
  len : n ≤ 32
  good : good F T n = true
theorem Alm.kept {p a : Option Addr} {n c : Nat} {F T : Nat → Int} {w w' : World} (h : Alm p a n c F T w) (hb : Below w.heap.size w w') : Alm p a n c F T w' := by
  refine ⟨?_, h.sps.kept hb, h.cap, h.len, h.good⟩
  rcases h.mem with h | ⟨A, hp, hc⟩
  · exact .inl h
  · exact .inr ⟨A, hp, (hb.cell (p := ⟨A, 0, none⟩) (cell_spot hc).2).trans hc⟩

theorem closed_any {p a : Option Addr} {n c : Nat} {F T : Nat → Int} {w : World} (h : Alm p a n c F T w) :
    Calls Tryz.prog 102 #[.pointer p] w fun e w' => e = .returned (.slice a n c) ∧ w = w' := by
  rcases h.mem with ⟨rfl, rfl, rfl, rfl⟩ | ⟨A, rfl, hc⟩
  · go_enter Tryz.func102, Tryz.ntmps102
    go_wp2
    go_ret
    exact ⟨rfl, rfl⟩
  · go_enter Tryz.func102, Tryz.ntmps102
    go_wp2
    go_ret
    exact ⟨rfl, rfl⟩

set_option maxRecDepth 100000 in
/-- The function that the search asks. -/
theorem asked_after (tb lb k : Nat) (a : Option Addr) (n c : Nat) (F T : Nat → Int) (t : Int) (w : World) (ht : w.cell? ⟨tb, 0, none⟩ = some (.int .i64 t)) (hl : w.cell? ⟨lb, 0, none⟩ = some (.slice a n c)) (hS : Sps w a n F T) (hk : k < n) :
    Calls Tryz.prog 104 #[.int .i64 k, .pointer (some ⟨tb, 0, none⟩), .pointer (some ⟨lb, 0, none⟩)] w fun e w' => e = .returned (.bool (decide (t < T k))) ∧ ∃ q, w' = w.drewN q := by
  obtain ⟨ab, ao, rfl, hab, c0, c1, _⟩ := hS.at (Below.refl _ _) k hk
  have k0 : (0 : Int) ≤ (k : Int) := by omega
  have kl : (k : Int) < (n : Int) := by omega
  obtain ⟨u, hu⟩ : ∃ u, T k = u := ⟨_, rfl⟩
  rw [hu] at c1 ⊢
  obtain ⟨b, hb⟩ : ∃ b, decide (t < u) = b := ⟨_, rfl⟩
  rw [hb]
  clear hS hu c0
  go_enter Tryz.func104, Tryz.ntmps104
  go_wp2_with fail
  go_quiet (fail)
  go_wp2_with fail
  go_ret
  exact ⟨rfl, _, rfl⟩

set_option maxRecDepth 100000 in
set_option maxHeartbeats 4000000 in
theorem search_after (tb lb : Nat) (a : Option Addr) (n c : Nat) (F T : Nat → Int) (t : Int) (w : World) (ht : w.cell? ⟨tb, 0, none⟩ = some (.int .i64 t)) (hl : w.cell? ⟨lb, 0, none⟩ = some (.slice a n c)) (hS : Sps w a n F T) (hn : n ≤ 32) (hg : good F T n = true) :
    Calls Tryz.prog 103 #[.int .i64 n, .func (.func 104) #[] #[.pointer (some ⟨tb, 0, none⟩), .pointer (some ⟨lb, 0, none⟩)]] w fun e w' => e = .returned (.int .i64 (idx T t n : Nat)) ∧ ∃ q, w' = w.drewN q := by
  have HB := Lib.hid (fun k q (hk : k < n) => asked_after tb lb k a n c F T t (w.drewN q) ht hl (hS.kept ⟨rfl, rfl, rfl, Nat.le_refl _, fun _ _ => rfl⟩) hk)
  have HM := Lib.hid (good_mono hg)
  clear ht hl hS hg
  go_enter Tryz.func103, Tryz.ntmps103
  go_wp2_with fail
  go_loopw [5, 6] (fun i j wr => ∃ (x y : Nat), i = .int .i64 x ∧ j = .int .i64 y ∧ x ≤ y ∧ y ≤ n ∧ (∀ k, k < x → T k ≤ t) ∧ (∀ k, y ≤ k → k < n → t < T k) ∧ ∃ q, wr = w.drewN q) (fun i j _ => (intOf j).toNat - (intOf i).toNat)
  case atStart => exact ⟨0, n, rfl, rfl, Nat.zero_le _, Nat.le_refl _, fun k h => by omega, fun k h1 h2 => by omega, 0, rfl⟩
  case round =>
    obtain ⟨x, y, rfl, rfl, hxy, hyn, hlo, hhi, q, rfl⟩ := hrel
    have HLO := Lib.hid hlo
    have HHI := Lib.hid hhi
    clear hlo hhi
    by_cases hlt : x < y
    · have d1 : decide ((x : Int) < (y : Int)) = true := by simp [hlt]
      have x0 : (0 : Int) ≤ (x : Int) := by omega
      have y0 : (0 : Int) ≤ (y : Int) := by omega
      have y1 : (y : Int) ≤ 32 := by omega
      have x1 : (x : Int) ≤ 32 := by omega
      go_wp2_with fail
      obtain ⟨m, hm⟩ : ∃ m : Nat, ((x : Int) + (y : Int)) / 2 = (m : Int) := ⟨(x + y) / 2, by omega⟩
      rw [hm]
      have hxm : x ≤ m := by omega
      have hmy : m < y := by omega
      clear hm
      have hb := HB.out m q (by omega)
      obtain ⟨b, hd⟩ : ∃ b, decide (t < T m) = b := ⟨_, rfl⟩
      rw [hd] at hb
      have m0 : (0 : Int) ≤ (m : Int) := by omega
      have m1 : (m : Int) ≤ 32 := by omega
      cases b
      · have hf := of_decide_eq_false hd
        have HF := Lib.hid hf
        clear hd hf
        go_wp2_with fail
        refine hb.mono ?_
        rintro e w1 ⟨rfl, q1, rfl⟩
        clear hb
        go_wp2_with fail
        go_roundw
        case rel => exact ⟨m + 1, y, by go_num, rfl, by omega, hyn, (fun k hk => by
          have h1 := HM.out k m (by omega) (by omega)
          have h2 := HF.out
          omega), HHI.out, _, rfl⟩
        case measure => simp [intOf]; omega
      · have ht := of_decide_eq_true hd
        have HF := Lib.hid ht
        clear hd ht
        go_wp2_with fail
        refine hb.mono ?_
        rintro e w1 ⟨rfl, q1, rfl⟩
        clear hb
        go_wp2_with fail
        go_roundw
        case rel => exact ⟨x, m, rfl, rfl, hxm, by omega, HLO.out, (fun k h1 h2 => by
          have h3 := HM.out m k h1 h2
          have h4 := HF.out
          omega), _, rfl⟩
        case measure => simp [intOf]; omega
    · obtain rfl : x = y := by omega
      go_wp2_with fail
      go_ret
      exact ⟨ret_int (by rw [idx_eq hyn HLO.out HHI.out]), q, rfl⟩
/- An almanac's after, Next, Closed; between; New; Row. -/
open Go.RowKit

/-- A row from its span i on. -/
def sh (F : Nat → Int) (i k : Nat) : Int := F (i + k)
theorem sh_zero (F : Nat → Int) : sh F 0 = F := by funext k; simp [sh]
theorem sh_at (F : Nat → Int) (i : Nat) : sh F i 0 = F i := rfl
theorem Sps.alike {w : World} {a : Option Addr} {n : Nat} {F T F' T' : Nat → Int} (h : Sps w a n F T) (he : ∀ k, k < n → F k = F' k ∧ T k = T' k) : Sps w a n F' T' := by
  refine ⟨h.1, fun hp => ?_⟩
  obtain ⟨ab, ao, e, hl, hc⟩ := h.2 hp
  exact ⟨ab, ao, e, hl, fun k hk => by rw [← (he k hk).1, ← (he k hk).2]; exact hc k hk⟩
/-- What after hands back: the row from its first span on that ends behind t. -/
def Rest (a : Option Addr) (i n : Nat) (F T : Nat → Int) (w : World) (e : Ending) (w' : World) : Prop :=
  ∃ a' c', e = .returned (.slice a' (n - i : Nat) c') ∧ n - i ≤ c' ∧ Sps w' a' (n - i) (sh F i) (sh T i) ∧ (∀ x', 0 < n - i → a' = some x' → ∃ x, a = some x ∧ x.block = x'.block) ∧ Below w.heap.size w w'
theorem Sps.empty {w : World} {a : Option Addr} {n : Nat} {F T : Nat → Int} (h : n = 0) : Sps w a n F T := by
  subst h
  exact ⟨Nat.zero_le _, fun h => by omega⟩
theorem Sps.from_ {w : World} {a : Option Addr} {n : Nat} {F T : Nat → Int} (h : Sps w a n F T) (i : Nat) : Sps w (a.map (fun x => x.add (i * 2))) (n - i) (sh F i) (sh T i) := by
  refine ⟨by have := h.1; omega, fun hp => ?_⟩
  obtain ⟨ab, ao, rfl, hl, hc⟩ := h.2 (by omega)
  refine ⟨ab, ao + i * 2, by simp [Option.map, Addr.add], hl, fun k hk => ?_⟩
  have := hc (i + k) (by omega)
  rw [show ao + (i + k) * 2 = ao + i * 2 + k * 2 by omega] at this
  exact this
set_option maxRecDepth 100000 in
set_option maxHeartbeats 4000000 in
theorem after_any {p a : Option Addr} {n c : Nat} {F T : Nat → Int} {w : World} (t : Int) (h : Alm p a n c F T w) :
    Calls Tryz.prog 85 #[.pointer p, .int .i64 t] w (Rest a (idx T t n) n F T w) := by
  have B1 : Below w.heap.size w (w.alloc (.cells #[.int .i64 t] 2)) := (Below.refl _ _).alloc (Nat.le_refl _) _
  have B2 : Below w.heap.size w ((w.alloc (.cells #[.int .i64 t] 2)).alloc (.cells #[.slice a n c] 22)) := B1.alloc B1.size _
  have hcl := closed_any (h.kept B1)
  have h2 := h.kept B2
  have z0 : ((w.alloc (.cells #[.int .i64 t] 2)).alloc (.cells #[.slice a n c] 22)).cell? ⟨w.heap.size, 0, none⟩ = some (.int .i64 t) := by rw [World.cell?_alloc_past _ _ _ (by simp)]; simp
  have z1 : ((w.alloc (.cells #[.int .i64 t] 2)).alloc (.cells #[.slice a n c] 22)).cell? ⟨w.heap.size + 1, 0, none⟩ = some (.slice a n c) := by simp
  have hcap := h.cap
  have hlen := h.len
  have hm := h.sps.1
  have hi := idx_le T t n
  have hse := search_after w.heap.size (w.heap.size + 1) a n c F T t
  have HS := Lib.hid (fun q => hse ((((w.alloc (.cells #[.int .i64 t] 2)).alloc (.cells #[.slice a n c] 22))).drewN q) z0 z1 (h2.sps.kept ⟨rfl, rfl, rfl, Nat.le_refl _, fun _ _ => rfl⟩) h.len h.good)
  obtain ⟨i, hx⟩ : ∃ i, idx T t n = i := ⟨_, rfl⟩
  rw [hx] at hi HS ⊢
  have HP := Lib.hid h2.sps
  have HB := Lib.hid B2
  have i0 : (0 : Int) ≤ (i : Int) := by omega
  have i1 : (i : Int) ≤ (n : Int) := by omega
  have i2 : (i : Int) ≤ (c : Int) := by omega
  clear h h2 B1 B2 hse hx
  go_enter Tryz.func85, Tryz.ntmps85
  go_wp2_with (go_at_call 102; refine hcl.mono ?_; rintro e w' ⟨rfl, rfl⟩)
  generalize hW : ((w.alloc (.cells #[.int .i64 t] 2)).alloc (.cells #[.slice a n c] 22)) = W at *
  go_quiet ((go_at_call 103; exact Calls.quiet_of (HS.out _)))
  go_wp2_with fail
  all_goals go_ret
  · exact ⟨_, _, rfl, by omega, Sps.empty (by omega), fun x' h _ => by omega, below_drewN' HB.out _⟩
  · refine ⟨_, _, rfl, by omega, (HP.out.kept ⟨rfl, rfl, rfl, Nat.le_refl _, fun _ _ => rfl⟩).from_ i, ?_, below_drewN' HB.out _⟩
    intro x' _ hx
    cases a with
    | none => cases hx
    | some x =>
      injection hx with hx
      subst hx
      exact ⟨x, rfl, by unfold Addr.add; split <;> rfl⟩

/-- The first closed span that ends behind t, or zeros. -/
def nx (G T : Nat → Int) (n : Nat) (t : Int) : Int := if idx T t n < n then G (idx T t n) else 0
/-- What lies between two instants: from, to; 0 and 0 where there is nothing. -/
def gapF (x y : Int) : Int := if y ≤ x then 0 else x
def gapT (x y : Int) : Int := if y ≤ x then 0 else y
theorem between_span (x y : Int) (w : World) : Calls Tryz.prog 86 #[.int .i64 x, .int .i64 y] w (GotSpan (gapF x y) (gapT x y) w) := by
  by_cases h : y ≤ x
  · have d : decide (y ≤ x) = true := decide_eq_true h
    have e1 : gapF x y = 0 := if_pos h
    have e2 : gapT x y = 0 := if_pos h
    rw [e1, e2]
    clear e1 e2
    go_enter Tryz.func86, Tryz.ntmps86
    go_wp2_with fail
    refine bodyPost_ret (v := .agg #[.int .i64 0, .int .i64 0]) (by simp [results, Tryz.results86, go_sem]) rfl ⟨_, _, rfl, rfl, rfl, ?_⟩
    exact (Below.refl _ _).alloc (Nat.le_refl _) _
  · have d : decide (y ≤ x) = false := decide_eq_false h
    have e1 : gapF x y = x := if_neg h
    have e2 : gapT x y = y := if_neg h
    rw [e1, e2]
    clear e1 e2
    go_enter Tryz.func86, Tryz.ntmps86
    go_wp2_with fail
    refine bodyPost_ret (v := .agg #[.int .i64 x, .int .i64 y]) (by simp [results, Tryz.results86, go_sem]) rfl ⟨_, _, rfl, rfl, rfl, ?_⟩
    exact (Below.refl _ _).alloc (Nat.le_refl _) _

/-- Whether a second is closed. -/
def closedB (F T : Nat → Int) (n : Nat) (t : Int) : Bool := decide (idx T t n < n) && decide (nx F T n t ≤ t)
theorem closedB_iff {F T : Nat → Int} {n : Nat} (hg : good F T n = true) (t : Int) : closedB F T n t = hasB F T t n := by
  have h1 := idx_le T t n
  by_cases h : idx T t n < n
  · have h2 := idx_hi (t := t) n (idx T t n) (Nat.le_refl _) h
    have e : nx F T n t = F (idx T t n) := if_pos h
    unfold closedB
    rw [e, decide_eq_true h, Bool.true_and]
    cases hh : hasB F T t n with
    | true =>
      obtain ⟨k, hk, h3, h4⟩ := (hasB_iff n).1 hh
      refine decide_eq_true ?_
      by_cases e2 : k < idx T t n
      · have := idx_lo hg k e2; omega
      · by_cases e3 : k = idx T t n
        · rw [← e3]; exact h3
        · have := good_order hg k (idx T t n) (by omega) hk; omega
    | false =>
      refine decide_eq_false fun h3 => ?_
      have : hasB F T t n = true := (hasB_iff n).2 ⟨idx T t n, h, h3, h2⟩
      rw [hh] at this
      cases this
  · unfold closedB
    rw [decide_eq_false h, Bool.false_and]
    cases hh : hasB F T t n with
    | false => rfl
    | true =>
      obtain ⟨k, hk, h3, h4⟩ := (hasB_iff n).1 hh
      have := idx_lo (t := t) hg k (by omega)
      omega

/-- An almanac made. -/
def AlmMade (n : Nat) (F T : Nat → Int) (w : World) (e : Ending) (w' : World) : Prop :=
  ∃ A a c, e = .returned (.tuple #[.pointer (some ⟨A, 0, none⟩), .int .i64 0]) ∧ w.heap.size ≤ A ∧ Alm (some ⟨A, 0, none⟩) a n c F T w' ∧ (∀ x, 0 < n → a = some x → w.heap.size ≤ x.block ∧ x.block ≠ A) ∧ Below w.heap.size w w'
set_option maxRecDepth 100000 in
theorem made_ok (a : Option Addr) (n cap : Nat) (F T : Nat → Int) (w : World) (hS : Sps w a n F T) (hn : n ≤ 32) (hg : good F T n = true) :
    Calls Tryz.prog 58 #[.slice a n cap] w (AlmMade n F T w) := by
  have hr := row_any a n cap F T w hS
  rw [rowE_ok hn hg] at hr
  have HCL := Lib.hid (fun w1 (hb : Below w.heap.size w w1) => clone_any a n cap F T w1 (hS.kept hb) (by omega))
  have HG := Lib.hid hg
  have HLN := Lib.hid (pairs_len F T n)
  have HC := Lib.hid hS
  clear hS hg
  go_enter Tryz.func58, Tryz.ntmps58
  go_wp2_with fail
  refine hr.mono ?_
  rintro e w1 ⟨rfl, hb1⟩
  have hcl := HCL.out w1 hb1
  have HB1 := Lib.hid hb1
  clear hr hb1
  go_wp2_with fail
  refine hcl.mono ?_
  rintro e w2 ⟨v, rfl, hO, hb2⟩
  obtain ⟨va, vc, rfl, _, hsh⟩ := hO.shape
  have hS2 : Sps w2 va n F T := by
    have h := (hO.sps (by
      intro s hs
      obtain ⟨k, hk, rfl⟩ := pairs_mem.1 hs
      obtain ⟨_, _, _, _, _, _, b⟩ := HC.out.at (Below.refl _ _) k hk
      exact b)).2
    rw [HLN.out] at h
    exact h.alike fun k hk => pairs_at F T n k hk
  have hcap : n ≤ vc := by
    rcases hO.2 with ⟨hv, h0⟩ | ⟨g, cap2, cur, hv, hg2, hh, hc, hm, _⟩
    · rw [HLN.out] at h0; omega
    · injection hv with _ _ hv3
      rw [HLN.out] at hc; omega
  rw [HLN.out] at hsh ⊢
  have hblk : ∀ x, 0 < n → va = some x → w.heap.size ≤ x.block ∧ x.block ≠ w2.heap.size := by
    intro x hp hx
    obtain ⟨g, e, h1, h2, _⟩ := hsh hp
    rw [hx] at e
    injection e with e
    subst e
    have := HB1.out.size
    exact ⟨by show w.heap.size ≤ g; omega, by show g ≠ w2.heap.size; omega⟩
  have HB2 := Lib.hid (HB1.out.trans (hb2.mono HB1.out.size))
  have HS2 := Lib.hid hS2
  have HK := Lib.hid hblk
  clear hcl hO hb2 hS2 hsh hblk
  go_wp2_with fail
  go_ret2
  have B3 : Below w2.heap.size w2 (w2.alloc (.cells #[.slice va n vc] 139)) := (Below.refl _ _).alloc (Nat.le_refl _) _
  exact ⟨w2.heap.size, va, vc, rfl, HB2.out.size, ⟨.inr ⟨_, rfl, by simp⟩, HS2.out.kept B3, hcap, hn, HG.out⟩, HK.out, HB2.out.alloc HB2.out.size _⟩
theorem made_bad (a : Option Addr) (n cap : Nat) (F T : Nat → Int) (w : World) (hS : Sps w a n F T) (hw : (rowE F T n != 0) = true) :
    Calls Tryz.prog 58 #[.slice a n cap] w fun e w' => e = .returned (.tuple #[.pointer none, .int .i64 (rowE F T n)]) ∧ Below w.heap.size w w' := by
  have hr := row_any a n cap F T w hS
  clear hS
  generalize rowE F T n = z at hr hw ⊢
  go_enter Tryz.func58, Tryz.ntmps58
  go_wp2_with fail
  refine hr.mono ?_
  rintro e w1 ⟨rfl, hb1⟩
  clear hr
  go_wp2_with fail
  go_ret2
  exact ⟨rfl, hb1⟩
end Go.Proofs.YthnnbmofpmedhaaGreat

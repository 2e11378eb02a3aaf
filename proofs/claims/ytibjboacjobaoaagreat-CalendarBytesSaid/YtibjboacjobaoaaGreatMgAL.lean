import Derived.Test.YtibjboacjobaoaaGreatMgAK
import Derived.Laws.StructEq
import Derived.Laws.AppendOwnNone
import Derived.Laws.OwnMore
import Derived.OwnWalk
namespace Go.Proofs.YtibjboacjobaoaaGreat
open Go.RowKit
/- Rows of spans: whether a list is one, the program's and the reference's. -/
open Go.RowKit

/-- A list of spans that can be read: where each begins and ends. -/
def Sps (w : World) (a : Option Addr) (n : Nat) (F T : Nat → Int) : Prop := n ≤ maxLen ∧
  (0 < n → ∃ ab ao, a = some ⟨ab, ao, none⟩ ∧ ab < w.heap.size ∧ ∀ k, k < n → w.cell? ⟨ab, ao + k * 2, none⟩ = some (.int .i64 (F k)) ∧ w.cell? ⟨ab, ao + k * 2 + 1, none⟩ = some (.int .i64 (T k)) ∧
    (-9223372036854775808 ≤ F k ∧ F k ≤ 9223372036854775807 ∧ -9223372036854775808 ≤ T k ∧ T k ≤ 9223372036854775807))
theorem Sps.kept {w w' : World} {a : Option Addr} {n : Nat} {F T : Nat → Int} (h : Sps w a n F T) (hb : Below w.heap.size w w') : Sps w' a n F T := by
  refine ⟨h.1, fun hp => ?_⟩
  obtain ⟨ab, ao, e, hl, hc⟩ := h.2 hp
  exact ⟨ab, ao, e, Nat.lt_of_lt_of_le hl hb.size, fun k hk => ⟨(hb.cell (p := ⟨ab, ao + k * 2, none⟩) hl).trans (hc k hk).1, (hb.cell (p := ⟨ab, ao + k * 2 + 1, none⟩) hl).trans (hc k hk).2.1, (hc k hk).2.2⟩⟩

theorem Sps.at {w wr : World} {a : Option Addr} {n : Nat} {F T : Nat → Int} (h : Sps w a n F T) (hb : Below w.heap.size w wr) (k : Nat) (hk : k < n) :
    ∃ ab ao, a = some ⟨ab, ao, none⟩ ∧ ab < wr.heap.size ∧ wr.cell? ⟨ab, ao + k * 2, none⟩ = some (.int .i64 (F k)) ∧ wr.cell? ⟨ab, ao + k * 2 + 1, none⟩ = some (.int .i64 (T k)) ∧ -9223372036854775808 ≤ F k ∧ F k ≤ 9223372036854775807 ∧ -9223372036854775808 ≤ T k ∧ T k ≤ 9223372036854775807 := by
  obtain ⟨ab, ao, e, hl, hc⟩ := (h.kept hb).2 (by omega)
  obtain ⟨h1, h2, h3⟩ := hc k hk
  exact ⟨ab, ao, e, hl, h1, h2, h3⟩
def good (F T : Nat → Int) : Nat → Bool
  | 0 => true
  | k + 1 => good F T k && (rightB (F k) (T k) && (k == 0 || decide (T (k - 1) ≤ F k)))
theorem good_le {F T : Nat → Int} {n : Nat} : ∀ {k}, good F T n = true → k ≤ n → good F T k = true := by
  induction n with
  | zero => intro k h hk; obtain rfl : k = 0 := by omega
            exact h
  | succ n ih =>
    intro k h hk
    by_cases e : k = n + 1
    · subst e; exact h
    · simp only [good, Bool.and_eq_true] at h
      exact ih h.1 (by omega)
theorem good_at {F T : Nat → Int} {n k : Nat} (h : good F T n = true) (hk : k < n) : 0 ≤ F k ∧ F k < T k ∧ T k ≤ 1125899906842624 ∧ (k = 0 ∨ T (k - 1) ≤ F k) := by
  have h1 := good_le h (show k + 1 ≤ n from hk)
  simp only [good, Bool.and_eq_true, rightB_iff, Bool.or_eq_true, beq_iff_eq, decide_eq_true_eq] at h1
  omega
theorem good_bad {F T : Nat → Int} {n k : Nat} (h : good F T (k + 1) = false) (hk : k < n) : good F T n = false := by
  cases hg : good F T n with
  | false => rfl
  | true => rw [good_le hg hk] at h; cases h
def endF (T : Nat → Int) : Nat → Int
  | 0 => 0
  | k + 1 => T k
theorem dec_not (a b : Int) : (!decide (a < b)) = decide (b ≤ a) := by
  by_cases h : a < b
  · rw [decide_eq_true h, decide_eq_false (by omega)]; rfl
  · rw [decide_eq_false h, decide_eq_true (by omega)]; rfl
theorem good_step {F T : Nat → Int} {k : Nat} (h : good F T k = true) : good F T (k + 1) = (rightB (F k) (T k) && !decide (F k < endF T k)) := by
  rw [dec_not]
  simp only [good, h, Bool.true_and]
  cases k with
  | zero =>
    cases hr : rightB (F 0) (T 0) with
    | false => rfl
    | true =>
      have := (rightB_iff _ _).1 hr
      have e : endF T 0 = 0 := rfl
      rw [e, decide_eq_true (show 0 ≤ F 0 by omega)]
      rfl
  | succ k =>
    have e : endF T (k + 1) = T k := rfl
    rw [e]
    rfl
/-- Row's number. -/
def rowE (F T : Nat → Int) (n : Nat) : Int := if 32 < n then 21 else if good F T n = true then 0 else 2
theorem rowE_long {F T : Nat → Int} {n : Nat} (h : 32 < n) : rowE F T n = 21 := by simp [rowE, h]
theorem rowE_ok {F T : Nat → Int} {n : Nat} (h : n ≤ 32) (g : good F T n = true) : rowE F T n = 0 := by simp [rowE, g]; omega
theorem rowE_bad {F T : Nat → Int} {n : Nat} (h : n ≤ 32) (g : good F T n = false) : rowE F T n = 2 := by simp [rowE, g]; omega

set_option maxRecDepth 100000 in
set_option maxHeartbeats 4000000 in
theorem row_any (a : Option Addr) (n cap : Nat) (F T : Nat → Int) (w : World) (hS : Sps w a n F T) :
    Calls Tryz.prog 111 #[.slice a n cap] w fun e w' => e = .returned (.int .i64 (rowE F T n)) ∧ Below w.heap.size w w' := by
  have hm := hS.1
  unfold maxLen at hm
  by_cases hl : 32 < n
  · have d : decide (32 < (n : Int)) = true := by simp; omega
    rw [rowE_long hl]
    go_enter Tryz.func111, Tryz.ntmps111
    go_wp2
    go_ret
    exact ⟨rfl, Below.refl _ _⟩
  have d : decide (32 < (n : Int)) = false := by simp; omega
  have HC := Lib.hid hS
  have HL := Lib.hid hl
  clear hS hl
  go_enter Tryz.func111, Tryz.ntmps111
  go_wp2
  go_loopw [3, 11] (fun e i wr => ∃ k : Nat, k ≤ n ∧ i = .int .i64 k ∧ e = .int .i64 (endF T k) ∧ good F T k = true ∧ Below w.heap.size w wr) (fun _ i _ => n - (intOf i).toNat)
  case atStart => exact ⟨0, Nat.zero_le _, rfl, rfl, rfl, Below.refl _ _⟩
  case round =>
    obtain ⟨k, hk, rfl, rfl, hg, hB⟩ := hrel
    by_cases hlt : k < n
    · obtain ⟨ab, ao, rfl, hab, c0, c1, b0, b1, b2, b3⟩ := HC.out.at hB k hlt
      have HB := Lib.hid hB
      have HS := Lib.hid hB.size
      have HG := Lib.hid (good_step hg)
      have HT := Lib.hid (show T k = endF T (k + 1) from rfl)
      obtain ⟨f, e0⟩ : ∃ x, F k = x := ⟨_, rfl⟩
      obtain ⟨t, e1⟩ : ∃ x, T k = x := ⟨_, rfl⟩
      obtain ⟨z, e2⟩ : ∃ x, endF T k = x := ⟨_, rfl⟩
      rw [e0] at c0 b0 b1 HG
      rw [e1] at c1 b2 b3 HG HT
      rw [e2] at HG ⊢
      clear hg hB e0 e1 e2
      have k0 : (0 : Int) ≤ (k : Int) := by omega
      have kl : (k : Int) < (n : Int) := by omega
      have d4 : decide ((k : Int) < (n : Int)) = true := by simp [hlt]
      obtain ⟨c, hr⟩ : ∃ c, rightB f t = c := ⟨_, rfl⟩
      obtain ⟨c', hd⟩ : ∃ c, decide (f < z) = c := ⟨_, rfl⟩
      rw [hr, hd] at HG
      cases c
      · go_wp2_with (go_at_call 133; refine (right_any f t _).mono ?_; rintro e w' ⟨rfl, hb⟩)
        go_ret
        exact ⟨ret_int (rowE_bad (by have := HL.out; omega) (good_bad HG.out hlt)).symm, below_call HB.out HS.out hb⟩
      · cases c'
        · go_wp2_with (go_at_call 133; refine (right_any f t _).mono ?_; rintro e w' ⟨rfl, hb⟩; obtain ⟨hc', hf'⟩ := bcell hb)
          go_roundw
          case rel => exact ⟨k + 1, hlt, by go_num, by rw [HT.out], HG.out, below_call HB.out HS.out hb⟩
          case measure => simp [intOf]; omega
        · go_wp2_with (go_at_call 133; refine (right_any f t _).mono ?_; rintro e w' ⟨rfl, hb⟩; obtain ⟨hc', hf'⟩ := bcell hb)
          go_ret
          exact ⟨ret_int (rowE_bad (by have := HL.out; omega) (good_bad HG.out hlt)).symm, below_call HB.out HS.out hb⟩
    · obtain rfl : k = n := by omega
      have HB := Lib.hid hB
      have HG := Lib.hid hg
      clear hB hg
      go_wp2
      go_ret
      exact ⟨ret_int (rowE_ok (by have := HL.out; omega) HG.out).symm, HB.out⟩

/- Two spans compared. -/
open Go.RowKit
theorem span_struct : Tryz.prog.underlying 101 = some (.struct (Tryz.prog.fieldsOf 101)) := by kernel_rfl
theorem span_held : Tryz.prog.stoodInHeld 101 = false := by kernel_rfl
theorem span_guard : Tryz.prog.eqGuardType Tryz.prog.depth 101 = false := by kernel_rfl
theorem guard_span (op : BinOp) (x y : Operand) (xs ys : Array Value) (w : World) : (eqGuard op 101 x y (.agg xs) (.agg ys)).run Tryz.prog w = .ok () w := run_eqGuard_agg w op _ x y xs ys span_guard
theorem eq_span (f t f' t' : Int) (w : World) : (Op.equalIn 10000 101 (.agg #[.int .i64 f, .int .i64 t]) (.agg #[.int .i64 f', .int .i64 t'])).run Tryz.prog w = .ok (f == f' && t == t') w := by
  rw [run_equalIn_agg w 9999 _ _ _ span_struct span_held]
  have h : Tryz.prog.underlying 2 = some (.int .i64) := Tryz.underlying2
  simp [Op.eqFields, go_sem, h, Tryz.underlying101]
  cases hf : f == f' <;> cases ht : t == t' <;> simp_all [go_sem]
theorem eql_span (f t f' t' : Int) (w : World) : (binOp .eql 101 (.agg #[.int .i64 f, .int .i64 t]) (.agg #[.int .i64 f', .int .i64 t'])).run Tryz.prog w = .ok (.bool (f == f' && t == t')) w := by
  rw [run_eql_struct, eq_span]; rfl
theorem neq_span (f t f' t' : Int) (w : World) : (binOp .neq 101 (.agg #[.int .i64 f, .int .i64 t]) (.agg #[.int .i64 f', .int .i64 t'])).run Tryz.prog w = .ok (.bool (!(f == f' && t == t'))) w := by
  rw [run_neq_struct, eq_span]; rfl
/- Rows of spans of one's own: an append of one span, a copy of a row, add. -/
open Go.RowKit

theorem below_drewN' {B : Nat} {w w' : World} (h : Below B w w') (n : Nat) : Below B w (w'.drewN n) := ⟨h.os, h.tape, h.output, h.size, h.block⟩
/-- The cells of spans. -/
def spc (l : List (Int × Int)) : List Value := l.flatMap fun x => [.int .i64 x.1, .int .i64 x.2]
theorem spc_append (a b : List (Int × Int)) : spc (a ++ b) = spc a ++ spc b := by simp [spc]
theorem spc_len (l : List (Int × Int)) : (spc l).length = l.length * 2 := by
  unfold spc
  induction l with
  | nil => rfl
  | cons r l ih => rw [List.flatMap_cons, List.length_append, ih]; simp; omega
theorem spc_one (l : List (Int × Int)) : ∀ u ∈ spc l, u.oneCell' = true := by
  intro u hu
  simp only [spc, List.mem_flatMap, List.mem_cons, List.not_mem_nil, or_false] at hu
  obtain ⟨x, _, rfl | rfl⟩ := hu <;> rfl
theorem spc_at : ∀ (l : List (Int × Int)) (k : Nat), k < l.length → (spc l)[k * 2]? = some (.int .i64 (l.getD k (0, 0)).1) ∧ (spc l)[k * 2 + 1]? = some (.int .i64 (l.getD k (0, 0)).2)
  | [], k, h => by simp at h
  | x :: l, 0, _ => ⟨rfl, rfl⟩
  | x :: l, k + 1, h => by
    have := spc_at l k (by simpa using h)
    have e : spc (x :: l) = .int .i64 x.1 :: .int .i64 x.2 :: spc l := rfl
    rw [e, show (k + 1) * 2 = k * 2 + 1 + 1 by omega, show k * 2 + 1 + 1 + 1 = (k * 2 + 1) + 1 + 1 by omega]
    simp only [List.getElem?_cons_succ]
    exact this
/-- Where the spans of a list begin, and end. -/
def fr (l : List (Int × Int)) (k : Nat) : Int := (l.getD k (0, 0)).1
def til (l : List (Int × Int)) (k : Nat) : Int := (l.getD k (0, 0)).2
/-- A row as a list. -/
def pairs (F T : Nat → Int) (n : Nat) : List (Int × Int) := (List.range n).map fun k => (F k, T k)
theorem pairs_len (F T : Nat → Int) (n : Nat) : (pairs F T n).length = n := by simp [pairs]
theorem pairs_succ (F T : Nat → Int) (n : Nat) : pairs F T (n + 1) = pairs F T n ++ [(F n, T n)] := by simp [pairs, List.range_succ]
theorem pairs_at (F T : Nat → Int) (n k : Nat) (h : k < n) : fr (pairs F T n) k = F k ∧ til (pairs F T n) k = T k := by
  simp [fr, til, pairs, h]
theorem pairs_mem {F T : Nat → Int} {n : Nat} {s : Int × Int} : s ∈ pairs F T n ↔ ∃ k, k < n ∧ s = (F k, T k) := by
  simp only [pairs, List.mem_map, List.mem_range]
  constructor
  · rintro ⟨k, hk, rfl⟩; exact ⟨k, hk, rfl⟩
  · rintro ⟨k, hk, rfl⟩; exact ⟨k, hk, rfl⟩
theorem spans_info : (Tryz.prog.info? 101).map (fun i => (i.zero, i.size, i.bytes)) = some (some (.agg #[.int .i64 0, .int .i64 0]), 2, 16) := by kernel_rfl

/-- The slice v, whose spans are l, is the call's own. -/
def OS (w : World) (base : Nat) (v : Value) (l : List (Int × Int)) : Prop := w.ownsRow base 101 2 v l.length (spc l)
theorem OS.kept {w w' : World} {base : Nat} {v : Value} {l : List (Int × Int)} (h : OS w base v l) (hb : Below w.heap.size w w') : OS w' base v l := by
  obtain ⟨h1, h2⟩ := h
  refine ⟨h1, ?_⟩
  rcases h2 with h2 | ⟨g, cap, cur, hv, hg, hh, r⟩
  · exact .inl h2
  · exact .inr ⟨g, cap, cur, hv, hg, by rw [hb.block g (Array.getElem?_eq_some_iff.mp hh).1]; exact hh, r⟩
theorem OS.mono {w : World} {base base' : Nat} {v : Value} {l : List (Int × Int)} (h : OS w base v l) (hb : base' ≤ base) : OS w base' v l := by
  obtain ⟨h1, h2⟩ := h
  refine ⟨h1, ?_⟩
  rcases h2 with h2 | ⟨g, cap, cur, hv, hg, r⟩
  · exact .inl h2
  · exact .inr ⟨g, cap, cur, hv, by omega, r⟩
theorem OS.nil (w : World) (base : Nat) : OS w base (.slice none 0 0) [] := ⟨rfl, .inl ⟨rfl, rfl⟩⟩
theorem OS.shape {w : World} {base : Nat} {v : Value} {l : List (Int × Int)} (h : OS w base v l) : ∃ a c, v = .slice a l.length c ∧ l.length ≤ maxLen ∧
    (0 < l.length → ∃ g, a = some ⟨g, 0, none⟩ ∧ base ≤ g ∧ g < w.heap.size ∧ ∀ k, k < l.length → w.cell? ⟨g, k * 2, none⟩ = some (.int .i64 (fr l k)) ∧ w.cell? ⟨g, k * 2 + 1, none⟩ = some (.int .i64 (til l k)) ∧ w.frozen? ⟨g, k * 2, none⟩ = false ∧ w.frozen? ⟨g, k * 2 + 1, none⟩ = false) := by
  have h' := h
  rcases h'.2 with ⟨hv, h0⟩ | ⟨g, cap, cur, hv, hg, hh, hc, hm, _⟩
  · exact ⟨none, 0, by rw [hv, h0], by rw [h0]; exact Nat.zero_le _, fun h1 => by omega⟩
  · subst hv
    refine ⟨_, cap, rfl, by omega, fun h1 => ⟨g, rfl, hg, (Array.getElem?_eq_some_iff.mp hh).1, fun k hk => ?_⟩⟩
    have c0 := World.ownsRow.cellAt h (k * 2) (by omega)
    have c1 := World.ownsRow.cellAt h (k * 2 + 1) (by omega)
    have hs := spc_at l k hk
    rw [hs.1] at c0
    rw [hs.2] at c1
    exact ⟨c0, c1, World.ownsRow.frozenAt h _, World.ownsRow.frozenAt h _⟩
/-- An own row can be read. -/
theorem OS.sps {w : World} {base : Nat} {a : Option Addr} {n c : Nat} {l : List (Int × Int)} (h : OS w base (.slice a n c) l)
    (hb : ∀ s ∈ l, -9223372036854775808 ≤ s.1 ∧ s.1 ≤ 9223372036854775807 ∧ -9223372036854775808 ≤ s.2 ∧ s.2 ≤ 9223372036854775807) : n = l.length ∧ Sps w a n (fr l) (til l) := by
  obtain ⟨a', c', e, hm, hc⟩ := h.shape
  injection e with e1 e2 e3
  subst e1 e2
  refine ⟨rfl, hm, fun hp => ?_⟩
  obtain ⟨g, ha, _, hlt, hk⟩ := hc hp
  refine ⟨g, 0, ha, hlt, fun k hkl => ?_⟩
  obtain ⟨c0, c1, _, _⟩ := hk k hkl
  refine ⟨by rw [Nat.zero_add]; exact c0, by rw [Nat.zero_add]; exact c1, ?_⟩
  have := hb (l.getD k (0, 0)) (by simp [hkl])
  exact this

theorem ow_none (w : World) : OS (w.alloc (.cells #[] 101)) w.heap.size (.slice (some ⟨w.heap.size, 0, none⟩) 0 0) [] :=
  World.ownsRow_lit w #[] 0 (Nat.le_refl _) (by simp) rfl
theorem new_span (w : World) (x y : Value) (t : TypeId) : ∀ j u, [x, y][j]? = some u → (w.alloc (.cells #[x, y] t)).cell? ((⟨w.heap.size, 0, none⟩ : Addr).add j) = some u := by
  intro j u h
  rw [add_at]
  match j with
  | 0 => simp at h; subst h; simp
  | 1 => simp at h; subst h; simp
  | j + 2 => simp at h
/-- What was there below a base stays, whatever is appended to a row of one's own. -/
def Stays (base : Nat) (w w' : World) : Prop := w.heap.size ≤ w'.heap.size ∧ ∀ W, Below base W w → Below base W w'
theorem Stays.refl (base : Nat) (w : World) : Stays base w w := ⟨Nat.le_refl _, fun _ h => h⟩
theorem Stays.trans {base : Nat} {a b c : World} (h : Stays base a b) (k : Stays base b c) : Stays base a c := ⟨Nat.le_trans h.1 k.1, fun W hW => k.2 W (h.2 W hW)⟩
theorem Stays.below {base : Nat} {w w' : World} (hb : base ≤ w.heap.size) (h : Below w.heap.size w w') : Stays base w w' := ⟨h.size, fun _ hW => hW.trans (h.mono hb)⟩

/-- append(s, one span). -/
theorem append_span {w : World} {ops : Array Oper} {rest : List Oper} {o : Oper} {a : Act} {Q : Exit → Act → World → Prop} (hgd : o.guard = none) (s x : Operand)
    (ho : o.op = .call { callee := .builtin .append, args := #[s, x], argTypes := #[22, 22] })
    (base : Nat) (v : Value) (l : List (Int × Int)) (f t : Int) (ad : Addr) (c : Nat) (hs : a.eval s = v) (hx : a.eval x = .slice (some ad) 1 c) (hown : OS w base v l)
    (hc : ∀ j u, [Value.int .i64 f, .int .i64 t][j]? = some u → w.cell? (ad.add j) = some u)
    (hlen : l.length ≤ 100000) (hbase : base ≤ w.heap.size)
    (h : ∀ v' w', OS w' base v' (l ++ [(f, t)]) → Stays base w w' → wpList Tryz.prog ops Q rest (a.put o.dst v') w') : wpList Tryz.prog ops Q (o :: rest) a w := by
  obtain ⟨i0, hi, hz0, hz1, hz2⟩ := info_parts spans_info
  refine wpList_append_own w hgd s x 22 ho base 101 i0 (.agg #[.int .i64 0, .int .i64 0]) 2 16 Tryz.underlying22 hi hz0 hz1 hz2 rfl (by decide) v l.length (spc l) hs hown ad 1 c [.int .i64 f, .int .i64 t] hx rfl hc
    (by intro u hu; simp only [List.mem_cons, List.not_mem_nil, or_false] at hu; rcases hu with rfl | rfl <;> rfl) (by unfold maxLen; omega) (by omega) hbase ?_
  intro v' w' h1 h2 _
  exact h v' w' (by unfold OS; rw [List.length_append, spc_append]; exact h1) ⟨h2.size, fun W hW => hW.grown h2 hbase fun k hk => (World.ownsRow.lt hown k hk).1⟩
end Go.Proofs.YtibjboacjobaoaaGreat

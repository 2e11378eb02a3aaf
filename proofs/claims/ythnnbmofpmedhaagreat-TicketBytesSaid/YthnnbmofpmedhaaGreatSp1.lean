import Derived.Test.YthnnbmofpmedhaaGreatLzA
import Derived.Deep.Slices
import Derived.BigQuiet
import Derived.Deep.QuietTactic
import Derived.LoopTactic
import Derived.Laws.StructEq
import Derived.Deep.RegionHeld3
import Derived.IntWalk
import Derived.ProofKit
import Derived.ChangeOld
namespace Go.Proofs.YthnnbmofpmedhaaGreat
open Go.RowKit
/- Spans: how a row of them reads; the small functions, the program's and the reference's. -/
open Go.RowKit

/-- All old cells and marks read as before. -/
theorem bcell {W w1 : World} (hb : Below W.heap.size W w1) : (∀ b o, b < W.heap.size → w1.cell? ⟨b, o, none⟩ = W.cell? ⟨b, o, none⟩) ∧ (∀ b o, b < W.heap.size → w1.frozen? ⟨b, o, none⟩ = W.frozen? ⟨b, o, none⟩) :=
  ⟨fun b o h => hb.cell (p := ⟨b, o, none⟩) h, fun b o h => hb.frozen (p := ⟨b, o, none⟩) h⟩

/-- A new block, then a call that leaves what was there. -/
theorem below_call {B : Nat} {w wr w' : World} {o : Obj} (h : Below B w wr) (hB : B ≤ wr.heap.size) (hb : Below (wr.alloc o).heap.size (wr.alloc o) w') : Below B w w' :=
  (h.alloc hB _).trans (hb.mono (by simp; omega))

def rightB (f t : Int) : Bool := decide (0 ≤ f) && (decide (f < t) && decide (t ≤ 1125899906842624))
theorem rightB_iff (f t : Int) : rightB f t = true ↔ 0 ≤ f ∧ f < t ∧ t ≤ 1125899906842624 := by simp [rightB]

theorem right_any (f t : Int) (w : World) : Calls Tryz.prog 98 #[.agg #[.int .i64 f, .int .i64 t]] w fun e w' => e = .returned (.bool (rightB f t)) ∧ Below w.heap.size w w' := by
  obtain ⟨c1, d1⟩ : ∃ c, decide (0 ≤ f) = c := ⟨_, rfl⟩
  obtain ⟨c2, d2⟩ : ∃ c, decide (f < t) = c := ⟨_, rfl⟩
  obtain ⟨c3, d3⟩ : ∃ c, decide (t ≤ 1125899906842624) = c := ⟨_, rfl⟩
  have e : rightB f t = (c1 && (c2 && c3)) := by rw [← d1, ← d2, ← d3]; rfl
  rw [e]
  clear e
  cases c1 <;> cases c2 <;> cases c3
  all_goals
    go_enter Tryz.func98, Tryz.ntmps98
    go_wp2
    go_ret
    exact ⟨rfl, (Below.refl _ _).alloc (Nat.le_refl _) _⟩
theorem rright_any (f t : Int) (w : World) : Calls Tryz.prog 66 #[.agg #[.int .i64 f, .int .i64 t]] w fun e w' => e = .returned (.bool (rightB f t)) ∧ Below w.heap.size w w' := by
  obtain ⟨c1, d1⟩ : ∃ c, decide (0 ≤ f) = c := ⟨_, rfl⟩
  obtain ⟨c2, d2⟩ : ∃ c, decide (f < t) = c := ⟨_, rfl⟩
  obtain ⟨c3, d3⟩ : ∃ c, decide (t ≤ 1125899906842624) = c := ⟨_, rfl⟩
  have e : rightB f t = (c1 && (c2 && c3)) := by rw [← d1, ← d2, ← d3]; rfl
  rw [e]
  clear e
  cases c1 <;> cases c2 <;> cases c3
  all_goals
    go_enter Tryz.func66, Tryz.ntmps66
    go_wp2
    go_ret
    exact ⟨rfl, (Below.refl _ _).alloc (Nat.le_refl _) _⟩

theorem size_any (f t : Int) (w : World) (h1 : -9223372036854775808 ≤ t - f) (h2 : t - f ≤ 9223372036854775807) : Calls Tryz.prog 112 #[.agg #[.int .i64 f, .int .i64 t]] w fun e w' => e = .returned (.int .i64 (t - f)) ∧ Below w.heap.size w w' := by
  go_enter Tryz.func112, Tryz.ntmps112
  go_wp2
  go_ret
  exact ⟨rfl, (Below.refl _ _).alloc (Nat.le_refl _) _⟩

def mx (a b : Int) : Int := if a < b then b else a
def mn (a b : Int) : Int := if b < a then b else a
/-- What two spans have in common: from, to; 0 and 0 where there is nothing. -/
def comF (f t f' t' : Int) : Int := if mn t t' ≤ mx f f' then 0 else mx f f'
def comT (f t f' t' : Int) : Int := if mn t t' ≤ mx f f' then 0 else mn t t'
theorem com_cases (f t f' t' : Int) : (mn t t' ≤ mx f f' ∧ comF f t f' t' = 0 ∧ comT f t f' t' = 0) ∨ (mx f f' < mn t t' ∧ comF f t f' t' = mx f f' ∧ comT f t f' t' = mn t t') := by
  unfold comF comT
  by_cases h : mn t t' ≤ mx f f'
  · exact .inl ⟨h, by simp [h], by simp [h]⟩
  · exact .inr ⟨by omega, by simp [h], by simp [h]⟩
theorem mx_cases (a b : Int) : (a < b ∧ mx a b = b) ∨ (b ≤ a ∧ mx a b = a) := by unfold mx; split <;> omega
theorem mn_cases (a b : Int) : (b < a ∧ mn a b = b) ∨ (a ≤ b ∧ mn a b = a) := by unfold mn; split <;> omega
/-- A span handed back. -/
def GotSpan (x y : Int) (w : World) (e : Ending) (w' : World) : Prop := ∃ u v, e = .returned (.agg #[.int .i64 u, .int .i64 v]) ∧ u = x ∧ v = y ∧ Below w.heap.size w w'

def GotPart (x y : Int) (w : World) (e : Ending) (w' : World) : Prop := ∃ u v b, e = .returned (.tuple #[.agg #[.int .i64 u, .int .i64 v], .bool b]) ∧ u = x ∧ v = y ∧ b = decide (x < y) ∧ Below w.heap.size w w'
/- Rows of spans: whether a list is one, the program's and the reference's. -/
open Go.RowKit

/-- A list of spans that can be read: where each begins and ends. -/
def Sps (w : World) (a : Option Addr) (n : Nat) (F T : Nat → Int) : Prop := n ≤ maxLen ∧
  (0 < n → ∃ ab ao, a = some ⟨ab, ao, none⟩ ∧ ab < w.heap.size ∧ ∀ k, k < n → w.cell? ⟨ab, ao + k * 2, none⟩ = some (.int .i64 (F k)) ∧ w.cell? ⟨ab, ao + k * 2 + 1, none⟩ = some (.int .i64 (T k)) ∧
    (-9223372036854775808 ≤ F k ∧ F k ≤ 9223372036854775807 ∧ -9223372036854775808 ≤ T k ∧ T k ≤ 9223372036854775807))
theorem Sps.kept {w w' : World} {a : Option Addr} {n : Nat} {F T : Nat → Int} (h : Sps w a n F T) (hb : Below w.heap.size w w') : Sps w' a n F T := by
  refine ⟨h.1, fun hp => ?_⟩
  obtain ⟨ab, ao, e, hl, hc⟩ := h.2 hp
  exact ⟨ab, ao, e, Nat.lt_of_lt_of_le hl hb.size, fun k hk => ⟨(hb.cell (p := ⟨ab, ao + k * 2, none⟩) hl).trans (hc k hk).1, (hb.cell (p := ⟨ab, ao + k * 2 + 1, none⟩) hl).trans (hc k hk).2.1, (hc k hk).2.2⟩⟩

theorem Sps.at {w wr : World} {a : Option Addr} {n : Nat} {F T : Nat → Int} (h : Sps w a n F T) (hb : Below w.heap.size w wr) (k : Nat) (hk : k < n) :
    ∃ ab ao, a = some ⟨ab, ao, none⟩ ∧ ab < wr.heap.size ∧ wr.cell? ⟨ab, ao + k * 2, none⟩ = some (.int .i64 (F k)) ∧ wr.cell? ⟨ab, ao + k * 2 + 1, none⟩ = some (.int .i64 (T k)) ∧ -9223372036854775808 ≤ F k ∧ F k ≤ 9223372036854775807 ∧ -9223372036854775808 ≤ T k ∧ T k ≤ 9223372036854775807 := by
  obtain ⟨ab, ao, e, hl, hc⟩ := (h.kept hb).2 (by omega)
  obtain ⟨h1, h2, h3⟩ := hc k hk
  exact ⟨ab, ao, e, hl, h1, h2, h3⟩
def good (F T : Nat → Int) : Nat → Bool
  | 0 => true
  | k + 1 => good F T k && (rightB (F k) (T k) && (k == 0 || decide (T (k - 1) ≤ F k)))
theorem good_le {F T : Nat → Int} {n : Nat} : ∀ {k}, good F T n = true → k ≤ n → good F T k = true := by
  induction n with
  | zero => intro k h hk; obtain rfl : k = 0 := by omega
            exact h
  | succ n ih =>
    intro k h hk
    by_cases e : k = n + 1
    · subst e; exact h
    · simp only [good, Bool.and_eq_true] at h
      exact ih h.1 (by omega)
theorem good_at {F T : Nat → Int} {n k : Nat} (h : good F T n = true) (hk : k < n) : 0 ≤ F k ∧ F k < T k ∧ T k ≤ 1125899906842624 ∧ (k = 0 ∨ T (k - 1) ≤ F k) := by
  have h1 := good_le h (show k + 1 ≤ n from hk)
  simp only [good, Bool.and_eq_true, rightB_iff, Bool.or_eq_true, beq_iff_eq, decide_eq_true_eq] at h1
  omega
theorem good_bad {F T : Nat → Int} {n k : Nat} (h : good F T (k + 1) = false) (hk : k < n) : good F T n = false := by
  cases hg : good F T n with
  | false => rfl
  | true => rw [good_le hg hk] at h; cases h
def endF (T : Nat → Int) : Nat → Int
  | 0 => 0
  | k + 1 => T k
theorem dec_not (a b : Int) : (!decide (a < b)) = decide (b ≤ a) := by
  by_cases h : a < b
  · rw [decide_eq_true h, decide_eq_false (by omega)]; rfl
  · rw [decide_eq_false h, decide_eq_true (by omega)]; rfl
theorem good_step {F T : Nat → Int} {k : Nat} (h : good F T k = true) : good F T (k + 1) = (rightB (F k) (T k) && !decide (F k < endF T k)) := by
  rw [dec_not]
  simp only [good, h, Bool.true_and]
  cases k with
  | zero =>
    cases hr : rightB (F 0) (T 0) with
    | false => rfl
    | true =>
      have := (rightB_iff _ _).1 hr
      have e : endF T 0 = 0 := rfl
      rw [e, decide_eq_true (show 0 ≤ F 0 by omega)]
      rfl
  | succ k =>
    have e : endF T (k + 1) = T k := rfl
    rw [e]
    rfl
/-- Row's number. -/
def rowE (F T : Nat → Int) (n : Nat) : Int := if 32 < n then 21 else if good F T n = true then 0 else 2
theorem rowE_long {F T : Nat → Int} {n : Nat} (h : 32 < n) : rowE F T n = 21 := by simp [rowE, h]
theorem rowE_ok {F T : Nat → Int} {n : Nat} (h : n ≤ 32) (g : good F T n = true) : rowE F T n = 0 := by simp [rowE, g]; omega
theorem rowE_bad {F T : Nat → Int} {n : Nat} (h : n ≤ 32) (g : good F T n = false) : rowE F T n = 2 := by simp [rowE, g]; omega

set_option maxRecDepth 100000 in
set_option maxHeartbeats 4000000 in
theorem row_any (a : Option Addr) (n cap : Nat) (F T : Nat → Int) (w : World) (hS : Sps w a n F T) :
    Calls Tryz.prog 78 #[.slice a n cap] w fun e w' => e = .returned (.int .i64 (rowE F T n)) ∧ Below w.heap.size w w' := by
  have hm := hS.1
  unfold maxLen at hm
  by_cases hl : 32 < n
  · have d : decide (32 < (n : Int)) = true := by simp; omega
    rw [rowE_long hl]
    go_enter Tryz.func78, Tryz.ntmps78
    go_wp2
    go_ret
    exact ⟨rfl, Below.refl _ _⟩
  have d : decide (32 < (n : Int)) = false := by simp; omega
  have HC := Lib.hid hS
  have HL := Lib.hid hl
  clear hS hl
  go_enter Tryz.func78, Tryz.ntmps78
  go_wp2
  go_loopw [3, 11] (fun e i wr => ∃ k : Nat, k ≤ n ∧ i = .int .i64 k ∧ e = .int .i64 (endF T k) ∧ good F T k = true ∧ Below w.heap.size w wr) (fun _ i _ => n - (intOf i).toNat)
  case atStart => exact ⟨0, Nat.zero_le _, rfl, rfl, rfl, Below.refl _ _⟩
  case round =>
    obtain ⟨k, hk, rfl, rfl, hg, hB⟩ := hrel
    by_cases hlt : k < n
    · obtain ⟨ab, ao, rfl, hab, c0, c1, b0, b1, b2, b3⟩ := HC.out.at hB k hlt
      have HB := Lib.hid hB
      have HS := Lib.hid hB.size
      have HG := Lib.hid (good_step hg)
      have HT := Lib.hid (show T k = endF T (k + 1) from rfl)
      obtain ⟨f, e0⟩ : ∃ x, F k = x := ⟨_, rfl⟩
      obtain ⟨t, e1⟩ : ∃ x, T k = x := ⟨_, rfl⟩
      obtain ⟨z, e2⟩ : ∃ x, endF T k = x := ⟨_, rfl⟩
      rw [e0] at c0 b0 b1 HG
      rw [e1] at c1 b2 b3 HG HT
      rw [e2] at HG ⊢
      clear hg hB e0 e1 e2
      have k0 : (0 : Int) ≤ (k : Int) := by omega
      have kl : (k : Int) < (n : Int) := by omega
      have d4 : decide ((k : Int) < (n : Int)) = true := by simp [hlt]
      obtain ⟨c, hr⟩ : ∃ c, rightB f t = c := ⟨_, rfl⟩
      obtain ⟨c', hd⟩ : ∃ c, decide (f < z) = c := ⟨_, rfl⟩
      rw [hr, hd] at HG
      cases c
      · go_wp2_with (go_at_call 98; refine (right_any f t _).mono ?_; rintro e w' ⟨rfl, hb⟩)
        go_ret
        exact ⟨ret_int (rowE_bad (by have := HL.out; omega) (good_bad HG.out hlt)).symm, below_call HB.out HS.out hb⟩
      · cases c'
        · go_wp2_with (go_at_call 98; refine (right_any f t _).mono ?_; rintro e w' ⟨rfl, hb⟩; obtain ⟨hc', hf'⟩ := bcell hb)
          go_roundw
          case rel => exact ⟨k + 1, hlt, by go_num, by rw [HT.out], HG.out, below_call HB.out HS.out hb⟩
          case measure => simp [intOf]; omega
        · go_wp2_with (go_at_call 98; refine (right_any f t _).mono ?_; rintro e w' ⟨rfl, hb⟩; obtain ⟨hc', hf'⟩ := bcell hb)
          go_ret
          exact ⟨ret_int (rowE_bad (by have := HL.out; omega) (good_bad HG.out hlt)).symm, below_call HB.out HS.out hb⟩
    · obtain rfl : k = n := by omega
      have HB := Lib.hid hB
      have HG := Lib.hid hg
      clear hB hg
      go_wp2
      go_ret
      exact ⟨ret_int (rowE_ok (by have := HL.out; omega) HG.out).symm, HB.out⟩

/- Two spans compared. -/
open Go.RowKit
theorem span_struct : Tryz.prog.underlying 61 = some (.struct (Tryz.prog.fieldsOf 61)) := by kernel_rfl
theorem span_held : Tryz.prog.stoodInHeld 61 = false := by kernel_rfl
theorem span_guard : Tryz.prog.eqGuardType Tryz.prog.depth 61 = false := by kernel_rfl
theorem guard_span (op : BinOp) (x y : Operand) (xs ys : Array Value) (w : World) : (eqGuard op 61 x y (.agg xs) (.agg ys)).run Tryz.prog w = .ok () w := run_eqGuard_agg w op _ x y xs ys span_guard
theorem eq_span (f t f' t' : Int) (w : World) : (Op.equalIn 10000 61 (.agg #[.int .i64 f, .int .i64 t]) (.agg #[.int .i64 f', .int .i64 t'])).run Tryz.prog w = .ok (f == f' && t == t') w := by
  rw [run_equalIn_agg w 9999 _ _ _ span_struct span_held]
  have h : Tryz.prog.underlying 2 = some (.int .i64) := Tryz.underlying2
  simp [Op.eqFields, go_sem, h, Tryz.underlying61]
  cases hf : f == f' <;> cases ht : t == t' <;> simp_all [go_sem]
theorem eql_span (f t f' t' : Int) (w : World) : (binOp .eql 61 (.agg #[.int .i64 f, .int .i64 t]) (.agg #[.int .i64 f', .int .i64 t'])).run Tryz.prog w = .ok (.bool (f == f' && t == t')) w := by
  rw [run_eql_struct, eq_span]; rfl
theorem neq_span (f t f' t' : Int) (w : World) : (binOp .neq 61 (.agg #[.int .i64 f, .int .i64 t]) (.agg #[.int .i64 f', .int .i64 t'])).run Tryz.prog w = .ok (.bool (!(f == f' && t == t'))) w := by
  rw [run_neq_struct, eq_span]; rfl
/- Rows of spans: the reference's Row. -/
open Go.RowKit

set_option maxRecDepth 100000 in
set_option maxHeartbeats 4000000 in
theorem rrow_any (a : Option Addr) (n cap : Nat) (F T : Nat → Int) (w : World) (hS : Sps w a n F T) :
    Calls Tryz.prog 30 #[.slice a n cap] w fun e w' => e = .returned (.int .i64 (rowE F T n)) ∧ Below w.heap.size w w' := by
  have hm := hS.1
  unfold maxLen at hm
  by_cases hl : 32 < n
  · have d : decide (32 < (n : Int)) = true := by simp; omega
    rw [rowE_long hl]
    go_enter Tryz.func30, Tryz.ntmps30
    go_wp2
    go_ret
    exact ⟨rfl, Below.refl _ _⟩
  have d : decide (32 < (n : Int)) = false := by simp; omega
  have HC := Lib.hid hS
  have HL := Lib.hid hl
  clear hS hl
  go_enter Tryz.func30, Tryz.ntmps30
  go_wp2
  go_loopw [3] (fun i wr => ∃ k : Nat, k ≤ n ∧ i = .int .i64 k ∧ good F T k = true ∧ Below w.heap.size w wr) (fun i _ => n - (intOf i).toNat)
  case atStart => exact ⟨0, Nat.zero_le _, rfl, rfl, Below.refl _ _⟩
  case round =>
    obtain ⟨k, hk, rfl, hg, hB⟩ := hrel
    by_cases hlt : k < n
    · obtain ⟨ab, ao, rfl, hab, c0, c1, b0, b1, b2, b3⟩ := HC.out.at hB k hlt
      have hx : 0 < k → ∃ j : Nat, k = j + 1 ∧ wr.cell? ⟨ab, ao + j * 2 + 1, none⟩ = some (.int .i64 (endF T k)) := by
        intro h0
        obtain ⟨j, rfl⟩ : ∃ j, k = j + 1 := ⟨k - 1, by omega⟩
        obtain ⟨ab', ao', e, _, _, h1, _⟩ := HC.out.at hB j (by omega)
        injection e with e; injection e with e1 e2; subst e1 e2
        exact ⟨j, rfl, h1⟩
      have HB := Lib.hid hB
      have HG := Lib.hid (good_step hg)
      obtain ⟨f, e0⟩ : ∃ x, F k = x := ⟨_, rfl⟩
      obtain ⟨t, e1⟩ : ∃ x, T k = x := ⟨_, rfl⟩
      obtain ⟨z, e2⟩ : ∃ x, endF T k = x := ⟨_, rfl⟩
      have hz0 : k = 0 → z = 0 := by intro e; subst e; rw [← e2]; rfl
      rw [e0] at c0 b0 b1 HG
      rw [e1] at c1 b2 b3 HG
      rw [e2] at HG hx
      clear hg hB e0 e1 e2
      have k0 : (0 : Int) ≤ (k : Int) := by omega
      have kl : (k : Int) < (n : Int) := by omega
      have d4 : decide ((k : Int) < (n : Int)) = true := by simp [hlt]
      have fin : ∀ w8 : World, Below wr.heap.size wr w8 → Below w.heap.size w w8 := fun w8 h => HB.out.trans (h.mono HB.out.size)
      have FIN := Lib.hid fin
      clear fin
      obtain ⟨c, hr⟩ : ∃ c, rightB f t = c := ⟨_, rfl⟩
      cases c
      · rw [hr] at HG
        clear hx hz0
        go_wp2
        have hS : ∀ w1, Below wr.heap.size wr w1 → w1.cell? ⟨ab, ao + k * 2, none⟩ = some (.int .i64 f) ∧ w1.cell? ⟨ab, ao + k * 2 + 1, none⟩ = some (.int .i64 t) ∧ Below wr.heap.size wr w1 := fun w1 B =>
          ⟨(B.cell (p := ⟨ab, ao + k * 2, none⟩) hab).trans c0, (B.cell (p := ⟨ab, ao + k * 2 + 1, none⟩) hab).trans c1, B⟩
        have hR : ∀ w1, Below wr.heap.size wr w1 → Calls Tryz.prog 66 #[.agg #[.int .i64 f, .int .i64 t]] w1 fun e w' => e = .returned (.bool false) ∧ (w'.cell? ⟨ab, ao + k * 2, none⟩ = some (.int .i64 f) ∧ w'.cell? ⟨ab, ao + k * 2 + 1, none⟩ = some (.int .i64 t) ∧ Below wr.heap.size wr w') := fun w1 B =>
          (rright_any f t w1).mono (by rintro e w' ⟨rfl, hb⟩; exact ⟨by rw [hr], hS _ (B.trans (hb.mono B.size))⟩)
        have h0 := hS wr.drew (Below.refl _ _).drew
        have HR := Lib.hid hR
        clear hS hR
        refine wp_region_held_drew (S := (fun w' => w'.cell? ⟨ab, ao + k * 2, none⟩ = some (.int .i64 f) ∧ w'.cell? ⟨ab, ao + k * 2 + 1, none⟩ = some (.int .i64 t) ∧ Below wr.heap.size wr w')) (by kernel_rfl) h0 (fun hHeld => ?_)
        refine wpAnyH_take (i := 0) (v := ?_) rfl (by kernel_rfl) (by kernel_rfl) (by kernel_rfl) (fun _ _ _ h => h) (Or.inl ⟨by rfl, ?_⟩) (by assumption) ?_
        case refine_2 => (intro w1 hS1; (try dsimp only at hS1); go_simp; try with_reducible rfl)
        try simp only [List.getElem_toArray, List.getElem_cons_zero, List.getElem_cons_succ, Act.put, List.setIfInBounds_toArray, List.set_cons_zero, List.set_cons_succ]
        refine wpAnyH_take (i := 1) (v := ?_) rfl (by kernel_rfl) (by kernel_rfl) (by kernel_rfl) (fun _ _ _ h => h) (Or.inl ⟨by rfl, ?_⟩) (by assumption) ?_
        case refine_2 => (intro w1 hS1; (try dsimp only at hS1); go_simp; try with_reducible rfl)
        try simp only [List.getElem_toArray, List.getElem_cons_zero, List.getElem_cons_succ, Act.put, List.setIfInBounds_toArray, List.set_cons_zero, List.set_cons_succ]
        refine wpAnyH_take (i := 2) (v := ?_) rfl (by kernel_rfl) (by kernel_rfl) (by kernel_rfl) (fun _ _ _ h => h) (Or.inl ⟨by rfl, ?_⟩) (by assumption) ?_
        case refine_2 => (intro w1 hS1; (try dsimp only at hS1); go_simp; try with_reducible rfl)
        try simp only [List.getElem_toArray, List.getElem_cons_zero, List.getElem_cons_succ, Act.put, List.setIfInBounds_toArray, List.set_cons_zero, List.set_cons_succ]
        refine wpAnyH_take (i := 3) (v := ?_) rfl (by kernel_rfl) (by kernel_rfl) (by kernel_rfl) (fun _ _ _ h => h) (Or.inl ⟨by rfl, ?_⟩) (by assumption) ?_
        case refine_2 => (intro w1 hS1; (try dsimp only at hS1); go_simp; try with_reducible rfl)
        try simp only [List.getElem_toArray, List.getElem_cons_zero, List.getElem_cons_succ, Act.put, List.setIfInBounds_toArray, List.set_cons_zero, List.set_cons_succ]
        refine wpAnyH_ready (rs := [4]) (by kernel_rfl) (by simp) ?_
        refine AllReadyH.cons rfl (fun K hK => ?_) AllReadyH.nil
        go_simp
        refine (HR.out _ (by simp [*])).mono ?_; rintro e w8 ⟨rfl, hV⟩
        refine hK.out _ _ (by assumption) (fun hHeld => ?_)
        clear hK K
        try simp only [List.getElem_toArray, List.getElem_cons_zero, List.getElem_cons_succ, Act.put, List.setIfInBounds_toArray, List.set_cons_zero, List.set_cons_succ]
        refine wpAnyH_take (i := 5) (v := ?_) rfl (by kernel_rfl) (by kernel_rfl) (by kernel_rfl) (fun _ _ _ h => h) (Or.inl ⟨by rfl, ?_⟩) (by assumption) ?_
        case refine_2 => (intro w1 hS1; (try dsimp only at hS1); go_simp; try with_reducible rfl)
        try simp only [List.getElem_toArray, List.getElem_cons_zero, List.getElem_cons_succ, Act.put, List.setIfInBounds_toArray, List.set_cons_zero, List.set_cons_succ]
        refine wpAnyH_take (i := 6) (v := ?_) rfl (by kernel_rfl) (by kernel_rfl) (by kernel_rfl) (fun _ _ _ h => h) (Or.inl ⟨by rfl, ?_⟩) (by assumption) ?_
        case refine_2 => (intro w1 hS1; (try dsimp only at hS1); go_simp; try with_reducible rfl)
        try simp only [List.getElem_toArray, List.getElem_cons_zero, List.getElem_cons_succ, Act.put, List.setIfInBounds_toArray, List.set_cons_zero, List.set_cons_succ]
        refine wpAnyH_take (i := 7) (v := undef) rfl (by kernel_rfl) (by kernel_rfl) (by kernel_rfl) (fun _ _ _ h => h) (Or.inr ⟨by rfl, rfl⟩) (by assumption) ?_
        try simp only [List.getElem_toArray, List.getElem_cons_zero, List.getElem_cons_succ, Act.put, List.setIfInBounds_toArray, List.set_cons_zero, List.set_cons_succ]
        refine wpAnyH_take (i := 8) (v := undef) rfl (by kernel_rfl) (by kernel_rfl) (by kernel_rfl) (fun _ _ _ h => h) (Or.inr ⟨by rfl, rfl⟩) (by assumption) ?_
        try simp only [List.getElem_toArray, List.getElem_cons_zero, List.getElem_cons_succ, Act.put, List.setIfInBounds_toArray, List.set_cons_zero, List.set_cons_succ]
        refine wpAnyH_take (i := 9) (v := undef) rfl (by kernel_rfl) (by kernel_rfl) (by kernel_rfl) (fun _ _ _ h => h) (Or.inr ⟨by rfl, rfl⟩) (by assumption) ?_
        try simp only [List.getElem_toArray, List.getElem_cons_zero, List.getElem_cons_succ, Act.put, List.setIfInBounds_toArray, List.set_cons_zero, List.set_cons_succ]
        refine wpAnyH_take (i := 10) (v := undef) rfl (by kernel_rfl) (by kernel_rfl) (by kernel_rfl) (fun _ _ _ h => h) (Or.inr ⟨by rfl, rfl⟩) (by assumption) ?_
        try simp only [List.getElem_toArray, List.getElem_cons_zero, List.getElem_cons_succ, Act.put, List.setIfInBounds_toArray, List.set_cons_zero, List.set_cons_succ]
        refine wpAnyH_take (i := 11) (v := undef) rfl (by kernel_rfl) (by kernel_rfl) (by kernel_rfl) (fun _ _ _ h => h) (Or.inr ⟨by rfl, rfl⟩) (by assumption) ?_
        try simp only [List.getElem_toArray, List.getElem_cons_zero, List.getElem_cons_succ, Act.put, List.setIfInBounds_toArray, List.set_cons_zero, List.set_cons_succ]
        refine wpAnyH_take (i := 12) (v := undef) rfl (by kernel_rfl) (by kernel_rfl) (by kernel_rfl) (fun _ _ _ h => h) (Or.inr ⟨by rfl, rfl⟩) (by assumption) ?_
        try simp only [List.getElem_toArray, List.getElem_cons_zero, List.getElem_cons_succ, Act.put, List.setIfInBounds_toArray, List.set_cons_zero, List.set_cons_succ]
        refine wpAnyH_take (i := 13) (v := undef) rfl (by kernel_rfl) (by kernel_rfl) (by kernel_rfl) (fun _ _ _ h => h) (Or.inr ⟨by rfl, rfl⟩) (by assumption) ?_
        try simp only [List.getElem_toArray, List.getElem_cons_zero, List.getElem_cons_succ, Act.put, List.setIfInBounds_toArray, List.set_cons_zero, List.set_cons_succ]
        refine wpAnyH_take (i := 14) (v := undef) rfl (by kernel_rfl) (by kernel_rfl) (by kernel_rfl) (fun _ _ _ h => h) (Or.inr ⟨by rfl, rfl⟩) (by assumption) ?_
        try simp only [List.getElem_toArray, List.getElem_cons_zero, List.getElem_cons_succ, Act.put, List.setIfInBounds_toArray, List.set_cons_zero, List.set_cons_succ]
        refine wpAnyH_take (i := 15) (v := undef) rfl (by kernel_rfl) (by kernel_rfl) (by kernel_rfl) (fun _ _ _ h => h) (Or.inr ⟨by rfl, rfl⟩) (by assumption) ?_
        try simp only [List.getElem_toArray, List.getElem_cons_zero, List.getElem_cons_succ, Act.put, List.setIfInBounds_toArray, List.set_cons_zero, List.set_cons_succ]
        refine wpAnyH_take (i := 16) (v := undef) rfl (by kernel_rfl) (by kernel_rfl) (by kernel_rfl) (fun _ _ _ h => h) (Or.inr ⟨by rfl, rfl⟩) (by assumption) ?_
        try simp only [List.getElem_toArray, List.getElem_cons_zero, List.getElem_cons_succ, Act.put, List.setIfInBounds_toArray, List.set_cons_zero, List.set_cons_succ]
        refine wpAnyH_take (i := 17) (v := undef) rfl (by kernel_rfl) (by kernel_rfl) (by kernel_rfl) (fun _ _ _ h => h) (Or.inr ⟨by rfl, rfl⟩) (by assumption) ?_
        try simp only [List.getElem_toArray, List.getElem_cons_zero, List.getElem_cons_succ, Act.put, List.setIfInBounds_toArray, List.set_cons_zero, List.set_cons_succ]
        refine wpAnyH_take (i := 18) (v := undef) rfl (by kernel_rfl) (by kernel_rfl) (by kernel_rfl) (fun _ _ _ h => h) (Or.inr ⟨by rfl, rfl⟩) (by assumption) ?_
        try simp only [List.getElem_toArray, List.getElem_cons_zero, List.getElem_cons_succ, Act.put, List.setIfInBounds_toArray, List.set_cons_zero, List.set_cons_succ]
        refine wpAnyH_take (i := 19) (v := undef) rfl (by kernel_rfl) (by kernel_rfl) (by kernel_rfl) (fun _ _ _ h => h) (Or.inr ⟨by rfl, rfl⟩) (by assumption) ?_
        try simp only [List.getElem_toArray, List.getElem_cons_zero, List.getElem_cons_succ, Act.put, List.setIfInBounds_toArray, List.set_cons_zero, List.set_cons_succ]
        refine wpAnyH_take (i := 20) (v := undef) rfl (by kernel_rfl) (by kernel_rfl) (by kernel_rfl) (fun _ _ _ h => h) (Or.inr ⟨by rfl, rfl⟩) (by assumption) ?_
        try simp only [List.getElem_toArray, List.getElem_cons_zero, List.getElem_cons_succ, Act.put, List.setIfInBounds_toArray, List.set_cons_zero, List.set_cons_succ]
        refine wpAnyH_take (i := 21) (v := undef) rfl (by kernel_rfl) (by kernel_rfl) (by kernel_rfl) (fun _ _ _ h => h) (Or.inr ⟨by rfl, rfl⟩) (by assumption) ?_
        try simp only [List.getElem_toArray, List.getElem_cons_zero, List.getElem_cons_succ, Act.put, List.setIfInBounds_toArray, List.set_cons_zero, List.set_cons_succ]
        refine wpAnyH_take (i := 22) (v := undef) rfl (by kernel_rfl) (by kernel_rfl) (by kernel_rfl) (fun _ _ _ h => h) (Or.inr ⟨by rfl, rfl⟩) (by assumption) ?_
        try simp only [List.getElem_toArray, List.getElem_cons_zero, List.getElem_cons_succ, Act.put, List.setIfInBounds_toArray, List.set_cons_zero, List.set_cons_succ]
        refine wpAnyH_take (i := 23) (v := ?_) rfl (by kernel_rfl) (by kernel_rfl) (by kernel_rfl) (fun _ _ _ h => h) (Or.inl ⟨by rfl, ?_⟩) (by assumption) ?_
        case refine_2 => (intro w1 hS1; (try dsimp only at hS1); go_simp; try with_reducible rfl)
        try simp only [List.getElem_toArray, List.getElem_cons_zero, List.getElem_cons_succ, Act.put, List.setIfInBounds_toArray, List.set_cons_zero, List.set_cons_succ]
        refine wpAnyH_done (by kernel_rfl) ?_ _
        go_wp2
        go_ret
        exact ⟨ret_int (rowE_bad (by have := HL.out; omega) (good_bad HG.out hlt)).symm, FIN.out _ hV.2.2⟩
      · by_cases hk0 : k = 0
        · have hz := hz0 hk0
          have H2 : good F T (k + 1) = true := by
            rw [HG.out, hr, hz, decide_eq_false (by have := (rightB_iff f t).1 hr; omega)]; rfl
          have H2 := Lib.hid H2
          have dk : decide (0 < k) = false := by subst hk0; rfl
          have HK0 := Lib.hid hk0
          clear hx hz0 hz hk0
          go_wp2
          have hS : ∀ w1, Below wr.heap.size wr w1 → w1.cell? ⟨ab, ao + k * 2, none⟩ = some (.int .i64 f) ∧ w1.cell? ⟨ab, ao + k * 2 + 1, none⟩ = some (.int .i64 t) ∧ Below wr.heap.size wr w1 := fun w1 B =>
            ⟨(B.cell (p := ⟨ab, ao + k * 2, none⟩) hab).trans c0, (B.cell (p := ⟨ab, ao + k * 2 + 1, none⟩) hab).trans c1, B⟩
          have hR : ∀ w1, Below wr.heap.size wr w1 → Calls Tryz.prog 66 #[.agg #[.int .i64 f, .int .i64 t]] w1 fun e w' => e = .returned (.bool true) ∧ (w'.cell? ⟨ab, ao + k * 2, none⟩ = some (.int .i64 f) ∧ w'.cell? ⟨ab, ao + k * 2 + 1, none⟩ = some (.int .i64 t) ∧ Below wr.heap.size wr w') := fun w1 B =>
            (rright_any f t w1).mono (by rintro e w' ⟨rfl, hb⟩; exact ⟨by rw [hr], hS _ (B.trans (hb.mono B.size))⟩)
          have h0 := hS wr.drew (Below.refl _ _).drew
          have HR := Lib.hid hR
          clear hS hR
          refine wp_region_held_drew (S := (fun w' => w'.cell? ⟨ab, ao + k * 2, none⟩ = some (.int .i64 f) ∧ w'.cell? ⟨ab, ao + k * 2 + 1, none⟩ = some (.int .i64 t) ∧ Below wr.heap.size wr w')) (by kernel_rfl) h0 (fun hHeld => ?_)
          refine wpAnyH_take (i := 0) (v := ?_) rfl (by kernel_rfl) (by kernel_rfl) (by kernel_rfl) (fun _ _ _ h => h) (Or.inl ⟨by rfl, ?_⟩) (by assumption) ?_
          case refine_2 => (intro w1 hS1; (try dsimp only at hS1); go_simp; try with_reducible rfl)
          try simp only [List.getElem_toArray, List.getElem_cons_zero, List.getElem_cons_succ, Act.put, List.setIfInBounds_toArray, List.set_cons_zero, List.set_cons_succ]
          refine wpAnyH_take (i := 1) (v := ?_) rfl (by kernel_rfl) (by kernel_rfl) (by kernel_rfl) (fun _ _ _ h => h) (Or.inl ⟨by rfl, ?_⟩) (by assumption) ?_
          case refine_2 => (intro w1 hS1; (try dsimp only at hS1); go_simp; try with_reducible rfl)
          try simp only [List.getElem_toArray, List.getElem_cons_zero, List.getElem_cons_succ, Act.put, List.setIfInBounds_toArray, List.set_cons_zero, List.set_cons_succ]
          refine wpAnyH_take (i := 2) (v := ?_) rfl (by kernel_rfl) (by kernel_rfl) (by kernel_rfl) (fun _ _ _ h => h) (Or.inl ⟨by rfl, ?_⟩) (by assumption) ?_
          case refine_2 => (intro w1 hS1; (try dsimp only at hS1); go_simp; try with_reducible rfl)
          try simp only [List.getElem_toArray, List.getElem_cons_zero, List.getElem_cons_succ, Act.put, List.setIfInBounds_toArray, List.set_cons_zero, List.set_cons_succ]
          refine wpAnyH_take (i := 3) (v := ?_) rfl (by kernel_rfl) (by kernel_rfl) (by kernel_rfl) (fun _ _ _ h => h) (Or.inl ⟨by rfl, ?_⟩) (by assumption) ?_
          case refine_2 => (intro w1 hS1; (try dsimp only at hS1); go_simp; try with_reducible rfl)
          try simp only [List.getElem_toArray, List.getElem_cons_zero, List.getElem_cons_succ, Act.put, List.setIfInBounds_toArray, List.set_cons_zero, List.set_cons_succ]
          refine wpAnyH_ready (rs := [4]) (by kernel_rfl) (by simp) ?_
          refine AllReadyH.cons rfl (fun K hK => ?_) AllReadyH.nil
          go_simp
          refine (HR.out _ (by simp [*])).mono ?_; rintro e w8 ⟨rfl, hV⟩
          refine hK.out _ _ (by assumption) (fun hHeld => ?_)
          clear hK K
          try simp only [List.getElem_toArray, List.getElem_cons_zero, List.getElem_cons_succ, Act.put, List.setIfInBounds_toArray, List.set_cons_zero, List.set_cons_succ]
          refine wpAnyH_take (i := 5) (v := ?_) rfl (by kernel_rfl) (by kernel_rfl) (by kernel_rfl) (fun _ _ _ h => h) (Or.inl ⟨by rfl, ?_⟩) (by assumption) ?_
          case refine_2 => (intro w1 hS1; (try dsimp only at hS1); go_simp; try with_reducible rfl)
          try simp only [List.getElem_toArray, List.getElem_cons_zero, List.getElem_cons_succ, Act.put, List.setIfInBounds_toArray, List.set_cons_zero, List.set_cons_succ]
          refine wpAnyH_take (i := 6) (v := ?_) rfl (by kernel_rfl) (by kernel_rfl) (by kernel_rfl) (fun _ _ _ h => h) (Or.inl ⟨by rfl, ?_⟩) (by assumption) ?_
          case refine_2 => (intro w1 hS1; (try dsimp only at hS1); go_simp; try with_reducible rfl)
          try simp only [List.getElem_toArray, List.getElem_cons_zero, List.getElem_cons_succ, Act.put, List.setIfInBounds_toArray, List.set_cons_zero, List.set_cons_succ]
          refine wpAnyH_take (i := 7) (v := ?_) rfl (by kernel_rfl) (by kernel_rfl) (by kernel_rfl) (fun _ _ _ h => h) (Or.inl ⟨by rfl, ?_⟩) (by assumption) ?_
          case refine_2 => (intro w1 hS1; (try dsimp only at hS1); go_simp; try with_reducible rfl)
          try simp only [List.getElem_toArray, List.getElem_cons_zero, List.getElem_cons_succ, Act.put, List.setIfInBounds_toArray, List.set_cons_zero, List.set_cons_succ]
          refine wpAnyH_take (i := 8) (v := ?_) rfl (by kernel_rfl) (by kernel_rfl) (by kernel_rfl) (fun _ _ _ h => h) (Or.inl ⟨by rfl, ?_⟩) (by assumption) ?_
          case refine_2 => (intro w1 hS1; (try dsimp only at hS1); go_simp; try with_reducible rfl)
          try simp only [List.getElem_toArray, List.getElem_cons_zero, List.getElem_cons_succ, Act.put, List.setIfInBounds_toArray, List.set_cons_zero, List.set_cons_succ]
          refine wpAnyH_take (i := 9) (v := ?_) rfl (by kernel_rfl) (by kernel_rfl) (by kernel_rfl) (fun _ _ _ h => h) (Or.inl ⟨by rfl, ?_⟩) (by assumption) ?_
          case refine_2 => (intro w1 hS1; (try dsimp only at hS1); go_simp; try with_reducible rfl)
          try simp only [List.getElem_toArray, List.getElem_cons_zero, List.getElem_cons_succ, Act.put, List.setIfInBounds_toArray, List.set_cons_zero, List.set_cons_succ]
          refine wpAnyH_take (i := 10) (v := undef) rfl (by kernel_rfl) (by kernel_rfl) (by kernel_rfl) (fun _ _ _ h => h) (Or.inr ⟨by rfl, rfl⟩) (by assumption) ?_
          try simp only [List.getElem_toArray, List.getElem_cons_zero, List.getElem_cons_succ, Act.put, List.setIfInBounds_toArray, List.set_cons_zero, List.set_cons_succ]
          refine wpAnyH_take (i := 11) (v := undef) rfl (by kernel_rfl) (by kernel_rfl) (by kernel_rfl) (fun _ _ _ h => h) (Or.inr ⟨by rfl, rfl⟩) (by assumption) ?_
          try simp only [List.getElem_toArray, List.getElem_cons_zero, List.getElem_cons_succ, Act.put, List.setIfInBounds_toArray, List.set_cons_zero, List.set_cons_succ]
          refine wpAnyH_take (i := 12) (v := undef) rfl (by kernel_rfl) (by kernel_rfl) (by kernel_rfl) (fun _ _ _ h => h) (Or.inr ⟨by rfl, rfl⟩) (by assumption) ?_
          try simp only [List.getElem_toArray, List.getElem_cons_zero, List.getElem_cons_succ, Act.put, List.setIfInBounds_toArray, List.set_cons_zero, List.set_cons_succ]
          refine wpAnyH_take (i := 13) (v := undef) rfl (by kernel_rfl) (by kernel_rfl) (by kernel_rfl) (fun _ _ _ h => h) (Or.inr ⟨by rfl, rfl⟩) (by assumption) ?_
          try simp only [List.getElem_toArray, List.getElem_cons_zero, List.getElem_cons_succ, Act.put, List.setIfInBounds_toArray, List.set_cons_zero, List.set_cons_succ]
          refine wpAnyH_take (i := 14) (v := undef) rfl (by kernel_rfl) (by kernel_rfl) (by kernel_rfl) (fun _ _ _ h => h) (Or.inr ⟨by rfl, rfl⟩) (by assumption) ?_
          try simp only [List.getElem_toArray, List.getElem_cons_zero, List.getElem_cons_succ, Act.put, List.setIfInBounds_toArray, List.set_cons_zero, List.set_cons_succ]
          refine wpAnyH_take (i := 15) (v := undef) rfl (by kernel_rfl) (by kernel_rfl) (by kernel_rfl) (fun _ _ _ h => h) (Or.inr ⟨by rfl, rfl⟩) (by assumption) ?_
          try simp only [List.getElem_toArray, List.getElem_cons_zero, List.getElem_cons_succ, Act.put, List.setIfInBounds_toArray, List.set_cons_zero, List.set_cons_succ]
          refine wpAnyH_take (i := 16) (v := undef) rfl (by kernel_rfl) (by kernel_rfl) (by kernel_rfl) (fun _ _ _ h => h) (Or.inr ⟨by rfl, rfl⟩) (by assumption) ?_
          try simp only [List.getElem_toArray, List.getElem_cons_zero, List.getElem_cons_succ, Act.put, List.setIfInBounds_toArray, List.set_cons_zero, List.set_cons_succ]
          refine wpAnyH_take (i := 17) (v := undef) rfl (by kernel_rfl) (by kernel_rfl) (by kernel_rfl) (fun _ _ _ h => h) (Or.inr ⟨by rfl, rfl⟩) (by assumption) ?_
          try simp only [List.getElem_toArray, List.getElem_cons_zero, List.getElem_cons_succ, Act.put, List.setIfInBounds_toArray, List.set_cons_zero, List.set_cons_succ]
          refine wpAnyH_take (i := 18) (v := undef) rfl (by kernel_rfl) (by kernel_rfl) (by kernel_rfl) (fun _ _ _ h => h) (Or.inr ⟨by rfl, rfl⟩) (by assumption) ?_
          try simp only [List.getElem_toArray, List.getElem_cons_zero, List.getElem_cons_succ, Act.put, List.setIfInBounds_toArray, List.set_cons_zero, List.set_cons_succ]
          refine wpAnyH_take (i := 19) (v := undef) rfl (by kernel_rfl) (by kernel_rfl) (by kernel_rfl) (fun _ _ _ h => h) (Or.inr ⟨by rfl, rfl⟩) (by assumption) ?_
          try simp only [List.getElem_toArray, List.getElem_cons_zero, List.getElem_cons_succ, Act.put, List.setIfInBounds_toArray, List.set_cons_zero, List.set_cons_succ]
          refine wpAnyH_take (i := 20) (v := undef) rfl (by kernel_rfl) (by kernel_rfl) (by kernel_rfl) (fun _ _ _ h => h) (Or.inr ⟨by rfl, rfl⟩) (by assumption) ?_
          try simp only [List.getElem_toArray, List.getElem_cons_zero, List.getElem_cons_succ, Act.put, List.setIfInBounds_toArray, List.set_cons_zero, List.set_cons_succ]
          refine wpAnyH_take (i := 21) (v := undef) rfl (by kernel_rfl) (by kernel_rfl) (by kernel_rfl) (fun _ _ _ h => h) (Or.inr ⟨by rfl, rfl⟩) (by assumption) ?_
          try simp only [List.getElem_toArray, List.getElem_cons_zero, List.getElem_cons_succ, Act.put, List.setIfInBounds_toArray, List.set_cons_zero, List.set_cons_succ]
          refine wpAnyH_take (i := 22) (v := ?_) rfl (by kernel_rfl) (by kernel_rfl) (by kernel_rfl) (fun _ _ _ h => h) (Or.inl ⟨by rfl, ?_⟩) (by assumption) ?_
          case refine_2 => (intro w1 hS1; (try dsimp only at hS1); go_simp; try with_reducible rfl)
          try simp only [List.getElem_toArray, List.getElem_cons_zero, List.getElem_cons_succ, Act.put, List.setIfInBounds_toArray, List.set_cons_zero, List.set_cons_succ]
          refine wpAnyH_take (i := 23) (v := ?_) rfl (by kernel_rfl) (by kernel_rfl) (by kernel_rfl) (fun _ _ _ h => h) (Or.inl ⟨by rfl, ?_⟩) (by assumption) ?_
          case refine_2 => (intro w1 hS1; (try dsimp only at hS1); go_simp; try with_reducible rfl)
          try simp only [List.getElem_toArray, List.getElem_cons_zero, List.getElem_cons_succ, Act.put, List.setIfInBounds_toArray, List.set_cons_zero, List.set_cons_succ]
          refine wpAnyH_done (by kernel_rfl) ?_ _
          go_wp2
          go_roundw
          case rel => exact ⟨k + 1, hlt, by go_num, H2.out, FIN.out _ hV.2.2⟩
          case measure => simp [intOf]; omega
        · obtain ⟨j, hj, hx⟩ := hx (by omega)
          obtain ⟨c', hd⟩ : ∃ c, decide (f < z) = c := ⟨_, rfl⟩
          rw [hr, hd] at HG
          have dk : decide (0 < k) = true := decide_eq_true (by omega)
          have k2 : (0 : Int) ≤ (j : Int) := by omega
          have k3 : (j : Int) < (n : Int) := by omega
          have wj : IntKind.i64.wrap ((k : Int) - 1) = (j : Int) := by
            have e : (k : Int) - 1 = (j : Int) := by omega
            rw [e]; exact IntWalk.i64_in _ (by omega)
          have HJ := Lib.hid hj
          clear hz0 hk0 hj
          go_wp2
          have hS : ∀ w1, Below wr.heap.size wr w1 → w1.cell? ⟨ab, ao + k * 2, none⟩ = some (.int .i64 f) ∧ w1.cell? ⟨ab, ao + k * 2 + 1, none⟩ = some (.int .i64 t) ∧ w1.cell? ⟨ab, ao + j * 2 + 1, none⟩ = some (.int .i64 z) ∧ Below wr.heap.size wr w1 := fun w1 B =>
            ⟨(B.cell (p := ⟨ab, ao + k * 2, none⟩) hab).trans c0, (B.cell (p := ⟨ab, ao + k * 2 + 1, none⟩) hab).trans c1, (B.cell (p := ⟨ab, ao + j * 2 + 1, none⟩) hab).trans hx, B⟩
          have hR : ∀ w1, Below wr.heap.size wr w1 → Calls Tryz.prog 66 #[.agg #[.int .i64 f, .int .i64 t]] w1 fun e w' => e = .returned (.bool true) ∧ (w'.cell? ⟨ab, ao + k * 2, none⟩ = some (.int .i64 f) ∧ w'.cell? ⟨ab, ao + k * 2 + 1, none⟩ = some (.int .i64 t) ∧ w'.cell? ⟨ab, ao + j * 2 + 1, none⟩ = some (.int .i64 z) ∧ Below wr.heap.size wr w') := fun w1 B =>
            (rright_any f t w1).mono (by rintro e w' ⟨rfl, hb⟩; exact ⟨by rw [hr], hS _ (B.trans (hb.mono B.size))⟩)
          have h0 := hS wr.drew (Below.refl _ _).drew
          have HR := Lib.hid hR
          clear hS hR
          refine wp_region_held_drew (S := (fun w' => w'.cell? ⟨ab, ao + k * 2, none⟩ = some (.int .i64 f) ∧ w'.cell? ⟨ab, ao + k * 2 + 1, none⟩ = some (.int .i64 t) ∧ w'.cell? ⟨ab, ao + j * 2 + 1, none⟩ = some (.int .i64 z) ∧ Below wr.heap.size wr w')) (by kernel_rfl) h0 (fun hHeld => ?_)
          refine wpAnyH_take (i := 0) (v := ?_) rfl (by kernel_rfl) (by kernel_rfl) (by kernel_rfl) (fun _ _ _ h => h) (Or.inl ⟨by rfl, ?_⟩) (by assumption) ?_
          case refine_2 => (intro w1 hS1; (try dsimp only at hS1); go_simp; try with_reducible rfl)
          try simp only [List.getElem_toArray, List.getElem_cons_zero, List.getElem_cons_succ, Act.put, List.setIfInBounds_toArray, List.set_cons_zero, List.set_cons_succ]
          refine wpAnyH_take (i := 1) (v := ?_) rfl (by kernel_rfl) (by kernel_rfl) (by kernel_rfl) (fun _ _ _ h => h) (Or.inl ⟨by rfl, ?_⟩) (by assumption) ?_
          case refine_2 => (intro w1 hS1; (try dsimp only at hS1); go_simp; try with_reducible rfl)
          try simp only [List.getElem_toArray, List.getElem_cons_zero, List.getElem_cons_succ, Act.put, List.setIfInBounds_toArray, List.set_cons_zero, List.set_cons_succ]
          refine wpAnyH_take (i := 2) (v := ?_) rfl (by kernel_rfl) (by kernel_rfl) (by kernel_rfl) (fun _ _ _ h => h) (Or.inl ⟨by rfl, ?_⟩) (by assumption) ?_
          case refine_2 => (intro w1 hS1; (try dsimp only at hS1); go_simp; try with_reducible rfl)
          try simp only [List.getElem_toArray, List.getElem_cons_zero, List.getElem_cons_succ, Act.put, List.setIfInBounds_toArray, List.set_cons_zero, List.set_cons_succ]
          refine wpAnyH_take (i := 3) (v := ?_) rfl (by kernel_rfl) (by kernel_rfl) (by kernel_rfl) (fun _ _ _ h => h) (Or.inl ⟨by rfl, ?_⟩) (by assumption) ?_
          case refine_2 => (intro w1 hS1; (try dsimp only at hS1); go_simp; try with_reducible rfl)
          try simp only [List.getElem_toArray, List.getElem_cons_zero, List.getElem_cons_succ, Act.put, List.setIfInBounds_toArray, List.set_cons_zero, List.set_cons_succ]
          refine wpAnyH_ready (rs := [4]) (by kernel_rfl) (by simp) ?_
          refine AllReadyH.cons rfl (fun K hK => ?_) AllReadyH.nil
          go_simp
          refine (HR.out _ (by simp [*])).mono ?_; rintro e w8 ⟨rfl, hV⟩
          refine hK.out _ _ (by assumption) (fun hHeld => ?_)
          clear hK K
          try simp only [List.getElem_toArray, List.getElem_cons_zero, List.getElem_cons_succ, Act.put, List.setIfInBounds_toArray, List.set_cons_zero, List.set_cons_succ]
          refine wpAnyH_take (i := 5) (v := ?_) rfl (by kernel_rfl) (by kernel_rfl) (by kernel_rfl) (fun _ _ _ h => h) (Or.inl ⟨by rfl, ?_⟩) (by assumption) ?_
          case refine_2 => (intro w1 hS1; (try dsimp only at hS1); go_simp; try with_reducible rfl)
          try simp only [List.getElem_toArray, List.getElem_cons_zero, List.getElem_cons_succ, Act.put, List.setIfInBounds_toArray, List.set_cons_zero, List.set_cons_succ]
          refine wpAnyH_take (i := 6) (v := ?_) rfl (by kernel_rfl) (by kernel_rfl) (by kernel_rfl) (fun _ _ _ h => h) (Or.inl ⟨by rfl, ?_⟩) (by assumption) ?_
          case refine_2 => (intro w1 hS1; (try dsimp only at hS1); go_simp; try with_reducible rfl)
          try simp only [List.getElem_toArray, List.getElem_cons_zero, List.getElem_cons_succ, Act.put, List.setIfInBounds_toArray, List.set_cons_zero, List.set_cons_succ]
          refine wpAnyH_take (i := 7) (v := ?_) rfl (by kernel_rfl) (by kernel_rfl) (by kernel_rfl) (fun _ _ _ h => h) (Or.inl ⟨by rfl, ?_⟩) (by assumption) ?_
          case refine_2 => (intro w1 hS1; (try dsimp only at hS1); go_simp; try with_reducible rfl)
          try simp only [List.getElem_toArray, List.getElem_cons_zero, List.getElem_cons_succ, Act.put, List.setIfInBounds_toArray, List.set_cons_zero, List.set_cons_succ]
          refine wpAnyH_take (i := 8) (v := ?_) rfl (by kernel_rfl) (by kernel_rfl) (by kernel_rfl) (fun _ _ _ h => h) (Or.inl ⟨by rfl, ?_⟩) (by assumption) ?_
          case refine_2 => (intro w1 hS1; (try dsimp only at hS1); go_simp; try with_reducible rfl)
          try simp only [List.getElem_toArray, List.getElem_cons_zero, List.getElem_cons_succ, Act.put, List.setIfInBounds_toArray, List.set_cons_zero, List.set_cons_succ]
          refine wpAnyH_take (i := 9) (v := ?_) rfl (by kernel_rfl) (by kernel_rfl) (by kernel_rfl) (fun _ _ _ h => h) (Or.inl ⟨by rfl, ?_⟩) (by assumption) ?_
          case refine_2 => (intro w1 hS1; (try dsimp only at hS1); go_simp; try with_reducible rfl)
          try simp only [List.getElem_toArray, List.getElem_cons_zero, List.getElem_cons_succ, Act.put, List.setIfInBounds_toArray, List.set_cons_zero, List.set_cons_succ]
          refine wpAnyH_take (i := 10) (v := ?_) rfl (by kernel_rfl) (by kernel_rfl) (by kernel_rfl) (fun _ _ _ h => h) (Or.inl ⟨by rfl, ?_⟩) (by assumption) ?_
          case refine_2 => (intro w1 hS1; (try dsimp only at hS1); go_simp; try with_reducible rfl)
          try simp only [List.getElem_toArray, List.getElem_cons_zero, List.getElem_cons_succ, Act.put, List.setIfInBounds_toArray, List.set_cons_zero, List.set_cons_succ]
          refine wpAnyH_take (i := 11) (v := ?_) rfl (by kernel_rfl) (by kernel_rfl) (by kernel_rfl) (fun _ _ _ h => h) (Or.inl ⟨by rfl, ?_⟩) (by assumption) ?_
          case refine_2 => (intro w1 hS1; (try dsimp only at hS1); go_simp; try with_reducible rfl)
          try simp only [List.getElem_toArray, List.getElem_cons_zero, List.getElem_cons_succ, Act.put, List.setIfInBounds_toArray, List.set_cons_zero, List.set_cons_succ]
          refine wpAnyH_take (i := 12) (v := ?_) rfl (by kernel_rfl) (by kernel_rfl) (by kernel_rfl) (fun _ _ _ h => h) (Or.inl ⟨by rfl, ?_⟩) (by assumption) ?_
          case refine_2 => (intro w1 hS1; (try dsimp only at hS1); go_simp; try with_reducible rfl)
          try simp only [List.getElem_toArray, List.getElem_cons_zero, List.getElem_cons_succ, Act.put, List.setIfInBounds_toArray, List.set_cons_zero, List.set_cons_succ]
          refine wpAnyH_take (i := 13) (v := ?_) rfl (by kernel_rfl) (by kernel_rfl) (by kernel_rfl) (fun _ _ _ h => h) (Or.inl ⟨by rfl, ?_⟩) (by assumption) ?_
          case refine_2 => (intro w1 hS1; (try dsimp only at hS1); go_simp; try with_reducible rfl)
          try simp only [List.getElem_toArray, List.getElem_cons_zero, List.getElem_cons_succ, Act.put, List.setIfInBounds_toArray, List.set_cons_zero, List.set_cons_succ]
          refine wpAnyH_take (i := 14) (v := ?_) rfl (by kernel_rfl) (by kernel_rfl) (by kernel_rfl) (fun _ _ _ h => h) (Or.inl ⟨by rfl, ?_⟩) (by assumption) ?_
          case refine_2 => (intro w1 hS1; (try dsimp only at hS1); go_simp; try with_reducible rfl)
          try simp only [List.getElem_toArray, List.getElem_cons_zero, List.getElem_cons_succ, Act.put, List.setIfInBounds_toArray, List.set_cons_zero, List.set_cons_succ]
          refine wpAnyH_take (i := 15) (v := ?_) rfl (by kernel_rfl) (by kernel_rfl) (by kernel_rfl) (fun _ _ _ h => h) (Or.inl ⟨by rfl, ?_⟩) (by assumption) ?_
          case refine_2 => (intro w1 hS1; (try dsimp only at hS1); go_simp; try with_reducible rfl)
          try simp only [List.getElem_toArray, List.getElem_cons_zero, List.getElem_cons_succ, Act.put, List.setIfInBounds_toArray, List.set_cons_zero, List.set_cons_succ]
          refine wpAnyH_take (i := 16) (v := ?_) rfl (by kernel_rfl) (by kernel_rfl) (by kernel_rfl) (fun _ _ _ h => h) (Or.inl ⟨by rfl, ?_⟩) (by assumption) ?_
          case refine_2 => (intro w1 hS1; (try dsimp only at hS1); go_simp; try with_reducible rfl)
          try simp only [List.getElem_toArray, List.getElem_cons_zero, List.getElem_cons_succ, Act.put, List.setIfInBounds_toArray, List.set_cons_zero, List.set_cons_succ]
          refine wpAnyH_take (i := 17) (v := ?_) rfl (by kernel_rfl) (by kernel_rfl) (by kernel_rfl) (fun _ _ _ h => h) (Or.inl ⟨by rfl, ?_⟩) (by assumption) ?_
          case refine_2 => (intro w1 hS1; (try dsimp only at hS1); go_simp; try with_reducible rfl)
          try simp only [List.getElem_toArray, List.getElem_cons_zero, List.getElem_cons_succ, Act.put, List.setIfInBounds_toArray, List.set_cons_zero, List.set_cons_succ]
          refine wpAnyH_take (i := 18) (v := ?_) rfl (by kernel_rfl) (by kernel_rfl) (by kernel_rfl) (fun _ _ _ h => h) (Or.inl ⟨by rfl, ?_⟩) (by assumption) ?_
          case refine_2 => (intro w1 hS1; (try dsimp only at hS1); go_simp; try with_reducible rfl)
          try simp only [List.getElem_toArray, List.getElem_cons_zero, List.getElem_cons_succ, Act.put, List.setIfInBounds_toArray, List.set_cons_zero, List.set_cons_succ]
          refine wpAnyH_take (i := 19) (v := ?_) rfl (by kernel_rfl) (by kernel_rfl) (by kernel_rfl) (fun _ _ _ h => h) (Or.inl ⟨by rfl, ?_⟩) (by assumption) ?_
          case refine_2 => (intro w1 hS1; (try dsimp only at hS1); go_simp; try with_reducible rfl)
          try simp only [List.getElem_toArray, List.getElem_cons_zero, List.getElem_cons_succ, Act.put, List.setIfInBounds_toArray, List.set_cons_zero, List.set_cons_succ]
          refine wpAnyH_take (i := 20) (v := ?_) rfl (by kernel_rfl) (by kernel_rfl) (by kernel_rfl) (fun _ _ _ h => h) (Or.inl ⟨by rfl, ?_⟩) (by assumption) ?_
          case refine_2 => (intro w1 hS1; (try dsimp only at hS1); go_simp; try with_reducible rfl)
          try simp only [List.getElem_toArray, List.getElem_cons_zero, List.getElem_cons_succ, Act.put, List.setIfInBounds_toArray, List.set_cons_zero, List.set_cons_succ]
          refine wpAnyH_take (i := 21) (v := ?_) rfl (by kernel_rfl) (by kernel_rfl) (by kernel_rfl) (fun _ _ _ h => h) (Or.inl ⟨by rfl, ?_⟩) (by assumption) ?_
          case refine_2 => (intro w1 hS1; (try dsimp only at hS1); go_simp; try with_reducible rfl)
          try simp only [List.getElem_toArray, List.getElem_cons_zero, List.getElem_cons_succ, Act.put, List.setIfInBounds_toArray, List.set_cons_zero, List.set_cons_succ]
          refine wpAnyH_take (i := 22) (v := ?_) rfl (by kernel_rfl) (by kernel_rfl) (by kernel_rfl) (fun _ _ _ h => h) (Or.inl ⟨by rfl, ?_⟩) (by assumption) ?_
          case refine_2 => (intro w1 hS1; (try dsimp only at hS1); go_simp; try with_reducible rfl)
          try simp only [List.getElem_toArray, List.getElem_cons_zero, List.getElem_cons_succ, Act.put, List.setIfInBounds_toArray, List.set_cons_zero, List.set_cons_succ]
          refine wpAnyH_take (i := 23) (v := ?_) rfl (by kernel_rfl) (by kernel_rfl) (by kernel_rfl) (fun _ _ _ h => h) (Or.inl ⟨by rfl, ?_⟩) (by assumption) ?_
          case refine_2 => (intro w1 hS1; (try dsimp only at hS1); go_simp; try with_reducible rfl)
          try simp only [List.getElem_toArray, List.getElem_cons_zero, List.getElem_cons_succ, Act.put, List.setIfInBounds_toArray, List.set_cons_zero, List.set_cons_succ]
          refine wpAnyH_done (by kernel_rfl) ?_ _
          cases c'
          · go_wp2
            go_roundw
            case rel => exact ⟨k + 1, hlt, by go_num, HG.out, FIN.out _ hV.2.2.2⟩
            case measure => simp [intOf]; omega
          · go_wp2
            go_ret
            exact ⟨ret_int (rowE_bad (by have := HL.out; omega) (good_bad HG.out hlt)).symm, FIN.out _ hV.2.2.2⟩
    · obtain rfl : k = n := by omega
      have HB := Lib.hid hB
      have HG := Lib.hid hg
      clear hB hg
      go_wp2
      go_ret
      exact ⟨ret_int (rowE_ok (by have := HL.out; omega) HG.out).symm, HB.out⟩
/- Two lists of spans compared, by the program and by the reference. -/
open Go.RowKit

def sameB (F T F' T' : Nat → Int) : Nat → Bool
  | 0 => true
  | k + 1 => sameB F T F' T' k && (F k == F' k && T k == T' k)
theorem sameB_iff {F T F' T' : Nat → Int} {n : Nat} : sameB F T F' T' n = true ↔ ∀ k, k < n → F k = F' k ∧ T k = T' k := by
  induction n with
  | zero => simp [sameB]
  | succ n ih =>
    simp only [sameB, Bool.and_eq_true, ih, beq_iff_eq]
    constructor
    · intro ⟨h1, h2⟩ k hk
      by_cases e : k = n
      · subst e; exact h2
      · exact h1 k (by omega)
    · intro h
      exact ⟨fun k hk => h k (by omega), h n (by omega)⟩
theorem sameB_bad {F T F' T' : Nat → Int} {n k : Nat} (h : sameB F T F' T' (k + 1) = false) (hk : k < n) : sameB F T F' T' n = false := by
  cases hg : sameB F T F' T' n with
  | false => rfl
  | true =>
    have : sameB F T F' T' (k + 1) = true := sameB_iff.2 fun j hj => sameB_iff.1 hg j (by omega)
    rw [this] at h; cases h
def sameL (F T F' T' : Nat → Int) (n m : Nat) : Bool := decide (n = m) && sameB F T F' T' n

set_option maxRecDepth 100000 in
set_option maxHeartbeats 4000000 in
theorem equal_any (a a' : Option Addr) (n cap m cap' : Nat) (F T F' T' : Nat → Int) (w : World) (hS : Sps w a n F T) (hS' : Sps w a' m F' T') :
    Calls Tryz.prog 65 #[.slice a n cap, .slice a' m cap'] w fun e w' => e = .returned (.bool (sameL F T F' T' n m)) ∧ ∃ q, w' = w.drewN q := by
  have hm := hS.1
  have hm' := hS'.1
  unfold maxLen at hm hm'
  by_cases hl : n = m
  · subst hl
    have e : sameL F T F' T' n n = sameB F T F' T' n := by simp [sameL]
    rw [e]
    have HC := Lib.hid hS
    have HC' := Lib.hid hS'
    clear hS hS' e
    go_enter Tryz.func65, Tryz.ntmps65
    go_wp2
    go_loopw [13] (fun i wr => ∃ k : Nat, k ≤ n ∧ i = .int .i64 k ∧ sameB F T F' T' k = true ∧ ∃ q, wr = w.drewN q) (fun i _ => n - (intOf i).toNat)
    case atStart => exact ⟨0, Nat.zero_le _, rfl, rfl, 0, rfl⟩
    case round =>
      obtain ⟨k, hk, rfl, hg, q, rfl⟩ := hrel
      by_cases hlt : k < n
      · obtain ⟨ab, ao, rfl, hab, c0, c1, b⟩ := HC.out.at (Below.refl _ _) k hlt
        obtain ⟨ab', ao', rfl, hab', c0', c1', b'⟩ := HC'.out.at (Below.refl _ _) k hlt
        have HG := Lib.hid (show sameB F T F' T' (k + 1) = (F k == F' k && T k == T' k) by simp [sameB, hg])
        obtain ⟨f, e0⟩ : ∃ x, F k = x := ⟨_, rfl⟩
        obtain ⟨t, e1⟩ : ∃ x, T k = x := ⟨_, rfl⟩
        obtain ⟨f', e0'⟩ : ∃ x, F' k = x := ⟨_, rfl⟩
        obtain ⟨t', e1'⟩ : ∃ x, T' k = x := ⟨_, rfl⟩
        rw [e0, e1, e0', e1'] at HG
        rw [e0] at c0; rw [e1] at c1; rw [e0'] at c0'; rw [e1'] at c1'
        clear hg e0 e1 e0' e1' b b'
        have k0 : (0 : Int) ≤ (k : Int) := by omega
        have kl : (k : Int) < (n : Int) := by omega
        have d4 : decide ((k : Int) < (n : Int)) = true := by simp [hlt]
        obtain ⟨c, hd⟩ : ∃ c, (f == f' && t == t') = c := ⟨_, rfl⟩
        have hn : ∀ w, (binOp .neq 61 (.agg #[.int .i64 f, .int .i64 t]) (.agg #[.int .i64 f', .int .i64 t'])).run Tryz.prog w = .ok (.bool (!c)) w := fun w => by rw [neq_span, hd]
        have hq := guard_span
        rw [hd] at HG
        clear hd
        cases c
        · go_wp2
          go_quiet (fail)
          go_wp2
          go_ret
          exact ⟨ret_bool (sameB_bad HG.out hlt).symm, _, World.drewN_drewN _ _ _⟩
        · go_wp2
          go_quiet (fail)
          go_wp2
          go_roundw
          case rel => exact ⟨k + 1, hlt, by go_num, HG.out, _, rfl⟩
          case measure => simp [intOf]; omega
      · obtain rfl : k = n := by omega
        have HG := Lib.hid hg
        clear hg
        go_wp2
        go_ret
        exact ⟨ret_bool HG.out.symm, q, rfl⟩
  · have d : ((n : Int) != (m : Int)) = true := by simp; omega
    have e : sameL F T F' T' n m = false := by simp [sameL, hl]
    rw [e]
    go_enter Tryz.func65, Tryz.ntmps65
    go_wp2
    go_ret
    exact ⟨rfl, 0, rfl⟩
set_option maxRecDepth 100000 in
set_option maxHeartbeats 4000000 in
theorem rsame_any (a a' : Option Addr) (n cap m cap' : Nat) (F T F' T' : Nat → Int) (w : World) (hS : Sps w a n F T) (hS' : Sps w a' m F' T') :
    Calls Tryz.prog 28 #[.slice a n cap, .slice a' m cap'] w fun e w' => e = .returned (.bool (sameL F T F' T' n m)) ∧ ∃ q, w' = w.drewN q := by
  have hm := hS.1
  have hm' := hS'.1
  unfold maxLen at hm hm'
  by_cases hl : n = m
  · subst hl
    have e : sameL F T F' T' n n = sameB F T F' T' n := by simp [sameL]
    rw [e]
    have HC := Lib.hid hS
    have HC' := Lib.hid hS'
    clear hS hS' e
    go_enter Tryz.func28, Tryz.ntmps28
    go_wp2
    go_loopw [5] (fun i wr => ∃ k : Nat, k ≤ n ∧ i = .int .i64 k ∧ sameB F T F' T' k = true ∧ ∃ q, wr = w.drewN q) (fun i _ => n - (intOf i).toNat)
    case atStart => exact ⟨0, Nat.zero_le _, rfl, rfl, 0, rfl⟩
    case round =>
      obtain ⟨k, hk, rfl, hg, q, rfl⟩ := hrel
      by_cases hlt : k < n
      · obtain ⟨ab, ao, rfl, hab, c0, c1, b⟩ := HC.out.at (Below.refl _ _) k hlt
        obtain ⟨ab', ao', rfl, hab', c0', c1', b'⟩ := HC'.out.at (Below.refl _ _) k hlt
        have HG := Lib.hid (show sameB F T F' T' (k + 1) = (F k == F' k && T k == T' k) by simp [sameB, hg])
        obtain ⟨f, e0⟩ : ∃ x, F k = x := ⟨_, rfl⟩
        obtain ⟨t, e1⟩ : ∃ x, T k = x := ⟨_, rfl⟩
        obtain ⟨f', e0'⟩ : ∃ x, F' k = x := ⟨_, rfl⟩
        obtain ⟨t', e1'⟩ : ∃ x, T' k = x := ⟨_, rfl⟩
        rw [e0, e1, e0', e1'] at HG
        rw [e0] at c0; rw [e1] at c1; rw [e0'] at c0'; rw [e1'] at c1'
        clear hg e0 e1 e0' e1' b b'
        have k0 : (0 : Int) ≤ (k : Int) := by omega
        have kl : (k : Int) < (n : Int) := by omega
        have d4 : decide ((k : Int) < (n : Int)) = true := by simp [hlt]
        obtain ⟨c, hd⟩ : ∃ c, (f == f' && t == t') = c := ⟨_, rfl⟩
        have hn : ∀ w, (binOp .neq 61 (.agg #[.int .i64 f, .int .i64 t]) (.agg #[.int .i64 f', .int .i64 t'])).run Tryz.prog w = .ok (.bool (!c)) w := fun w => by rw [neq_span, hd]
        have hq := guard_span
        rw [hd] at HG
        clear hd
        cases c
        · go_wp2
          go_quiet (fail)
          go_wp2
          go_ret
          exact ⟨ret_bool (sameB_bad HG.out hlt).symm, _, World.drewN_drewN _ _ _⟩
        · go_wp2
          go_quiet (fail)
          go_wp2
          go_roundw
          case rel => exact ⟨k + 1, hlt, by go_num, HG.out, _, rfl⟩
          case measure => simp [intOf]; omega
      · obtain rfl : k = n := by omega
        have HG := Lib.hid hg
        clear hg
        go_wp2
        go_ret
        exact ⟨ret_bool HG.out.symm, q, rfl⟩
  · have d : ((n : Int) != (m : Int)) = true := by simp; omega
    have e : sameL F T F' T' n m = false := by simp [sameL, hl]
    rw [e]
    go_enter Tryz.func28, Tryz.ntmps28
    go_wp2
    go_ret
    exact ⟨rfl, 0, rfl⟩
theorem same_any (a a' : Option Addr) (n cap m cap' : Nat) (F T F' T' : Nat → Int) (w : World) (hS : Sps w a n F T) (hS' : Sps w a' m F' T') :
    Calls Tryz.prog 27 #[.slice a n cap, .slice a' m cap'] w fun e w' => e = .returned (.bool (sameL F T F' T' n m)) ∧ ∃ q, w' = w.drewN q := by
  have hc := equal_any a a' n cap m cap' F T F' T' w hS hS'
  clear hS hS'
  go_enter Tryz.func27, Tryz.ntmps27
  go_wp2_with fail
  refine hc.mono ?_
  rintro e w' ⟨rfl, q, rfl⟩
  go_wp2_with fail
  go_ret
  exact ⟨rfl, q, rfl⟩
/- Rows of spans: Add, both ways; Within, Len, Nth, Has. -/
open Go.RowKit

def addV (t b : Int) : Int := if t < 0 ∨ 1125899906842624 < t then 0 else if b < -t ∨ 1125899906842624 - t < b then 0 else t + b
def addE (t b : Int) : Int := if t < 0 ∨ 1125899906842624 < t then 2 else if b < -t ∨ 1125899906842624 - t < b then 10 else 0
theorem add_cases (t b : Int) : ((t < 0 ∨ 1125899906842624 < t) ∧ addV t b = 0 ∧ addE t b = 2) ∨ ((0 ≤ t ∧ t ≤ 1125899906842624) ∧ (b < -t ∨ 1125899906842624 - t < b) ∧ addV t b = 0 ∧ addE t b = 10) ∨
    ((0 ≤ t ∧ t ≤ 1125899906842624) ∧ (-t ≤ b ∧ b ≤ 1125899906842624 - t) ∧ addV t b = t + b ∧ addE t b = 0) := by
  unfold addV addE
  by_cases h1 : t < 0 ∨ 1125899906842624 < t
  · exact .inl ⟨h1, by rw [if_pos h1], by rw [if_pos h1]⟩
  · by_cases h2 : b < -t ∨ 1125899906842624 - t < b
    · exact .inr (.inl ⟨by omega, h2, by rw [if_neg h1, if_pos h2], by rw [if_neg h1, if_pos h2]⟩)
    · exact .inr (.inr ⟨by omega, by omega, by rw [if_neg h1, if_neg h2], by rw [if_neg h1, if_neg h2]⟩)
theorem ret_two {k k' : IntKind} {a b a' b' : Int} (h : a = a') (h' : b = b') : Ending.returned (.tuple #[.int k a, .int k' b]) = .returned (.tuple #[.int k a', .int k' b']) := by rw [h, h']

/- Within and Len of a row of spans. -/
open Go.RowKit

/-- How many seconds of a span are in a range. -/
def clip (f t a b : Int) : Int := comT f t a b - comF f t a b
theorem clip_cases (f t a b : Int) : (mn t b ≤ mx f a ∧ clip f t a b = 0) ∨ (mx f a < mn t b ∧ clip f t a b = mn t b - mx f a) := by
  unfold clip
  rcases com_cases f t a b with ⟨h, h1, h2⟩ | ⟨h, h1, h2⟩
  · exact .inl ⟨h, by rw [h1, h2]; rfl⟩
  · exact .inr ⟨h, by rw [h1, h2]⟩
theorem clip_bounds (f t a b : Int) (h0 : 0 ≤ f) (h1 : f < t) (h2 : t ≤ 1125899906842624) : 0 ≤ clip f t a b ∧ clip f t a b ≤ t - f := by
  rcases clip_cases f t a b with ⟨h, e⟩ | ⟨h, e⟩ <;> rcases mx_cases f a with ⟨h3, e3⟩ | ⟨h3, e3⟩ <;> rcases mn_cases t b with ⟨h4, e4⟩ | ⟨h4, e4⟩ <;> omega
def wsum (F T : Nat → Int) (a b : Int) : Nat → Int
  | 0 => 0
  | k + 1 => wsum F T a b k + clip (F k) (T k) a b
theorem wsum_bounds {F T : Nat → Int} {n : Nat} (a b : Int) (hg : good F T n = true) : ∀ k, k ≤ n → 0 ≤ wsum F T a b k ∧ wsum F T a b k ≤ k * 1125899906842624 := by
  intro k
  induction k with
  | zero => intro _; simp [wsum]
  | succ k ih =>
    intro hk
    obtain ⟨h1, h2⟩ := ih (by omega)
    obtain ⟨g0, g1, g2, _⟩ := good_at hg (show k < n by omega)
    have := clip_bounds (F k) (T k) a b g0 g1 g2
    simp only [wsum]
    omega

/- Nth of a row of spans. -/
open Go.RowKit

/-- How many seconds the first spans have. -/
def tsum (F T : Nat → Int) : Nat → Int
  | 0 => 0
  | k + 1 => tsum F T k + (T k - F k)
theorem tsum_bounds {F T : Nat → Int} {n : Nat} (hg : good F T n = true) : ∀ k, k ≤ n → 0 ≤ tsum F T k ∧ tsum F T k ≤ k * 1125899906842624 := by
  intro k
  induction k with
  | zero => intro _; simp [tsum]
  | succ k ih =>
    intro hk
    obtain ⟨h1, h2⟩ := ih (by omega)
    obtain ⟨g0, g1, g2, _⟩ := good_at hg (show k < n by omega)
    simp only [tsum]
    omega
theorem tsum_mono {F T : Nat → Int} {n : Nat} (hg : good F T n = true) : ∀ k j, j ≤ k → k ≤ n → tsum F T j ≤ tsum F T k := by
  intro k
  induction k with
  | zero => intro j h _; obtain rfl : j = 0 := by omega
            exact Int.le_refl _
  | succ k ih =>
    intro j hj hk
    by_cases e : j = k + 1
    · subst e; exact Int.le_refl _
    · have := ih j (by omega) (by omega)
      obtain ⟨g0, g1, g2, _⟩ := good_at hg (show k < n by omega)
      simp only [tsum]
      omega
/-- Which span has the second with m others ahead. -/
theorem tsum_find {F T : Nat → Int} {m : Int} : ∀ n, 0 ≤ m → m < tsum F T n → ∃ k, k < n ∧ tsum F T k ≤ m ∧ m < tsum F T (k + 1) := by
  intro n
  induction n with
  | zero => intro h0 h; simp only [tsum] at h; omega
  | succ n ih =>
    intro h0 h
    by_cases h1 : m < tsum F T n
    · obtain ⟨k, hk, h2⟩ := ih h0 h1
      exact ⟨k, by omega, h2⟩
    · exact ⟨n, by omega, by omega, h⟩
/-- Nth's answer: the second, and whether there is one. -/
def nthV (F T : Nat → Int) (n : Nat) (m : Int) : Int := match (List.range n).find? (fun k => decide (m < tsum F T (k + 1))) with
  | some k => F k + (m - tsum F T k)
  | none => 0
theorem nthV_at {F T : Nat → Int} {n k : Nat} {m : Int} (hg : good F T n = true) (hk : k < n) (h1 : tsum F T k ≤ m) (h2 : m < tsum F T (k + 1)) : nthV F T n m = F k + (m - tsum F T k) := by
  unfold nthV
  have : (List.range n).find? (fun k => decide (m < tsum F T (k + 1))) = some k := by
    rw [List.find?_range_eq_some]
    refine ⟨by simpa using h2, by simpa using hk, fun j hj => ?_⟩
    have := tsum_mono hg k (j + 1) (by omega) (by omega)
    simp; omega
  rw [this]

theorem ret_ib {k : IntKind} {a b : Int} {c : Bool} (h : a = b) : Ending.returned (.tuple #[.int k a, .bool c]) = .returned (.tuple #[.int k b, .bool c]) := by rw [h]
set_option maxRecDepth 100000 in
set_option maxHeartbeats 4000000 in
theorem nth_yes (a : Option Addr) (n cap : Nat) (F T : Nat → Int) (m : Int) (w : World) (hS : Sps w a n F T) (hn : n ≤ 32) (hg : good F T n = true) (h0 : 0 ≤ m) (h1 : m < tsum F T n) :
    Calls Tryz.prog 105 #[.slice a n cap, .int .i64 m] w fun e w' => e = .returned (.tuple #[.int .i64 (nthV F T n m), .bool true]) ∧ Below w.heap.size w w' := by
  have hm := hS.1
  unfold maxLen at hm
  have HC := Lib.hid hS
  have hr := row_any a n cap F T w hS
  rw [rowE_ok hn hg] at hr
  have hx := tsum_bounds hg n (Nat.le_refl _)
  have d0 : decide (m < 0) = false := decide_eq_false (by omega)
  have m1 : m ≤ 36028797018963968 := by omega
  have HG := Lib.hid hg
  have HN := Lib.hid hn
  have H1 := Lib.hid h1
  clear hS hg hx h1
  go_enter Tryz.func105, Tryz.ntmps105
  go_wp2_with fail
  refine hr.mono ?_
  rintro e w0 ⟨rfl, hb0⟩
  clear hr
  go_wp2_with fail
  go_loopw [1, 17] (fun s i wr => ∃ k : Nat, k ≤ n ∧ i = .int .i64 k ∧ s = .int .i64 (m - tsum F T k) ∧ tsum F T k ≤ m ∧ Below w.heap.size w wr) (fun _ i _ => n - (intOf i).toNat)
  case atStart => exact ⟨0, Nat.zero_le _, rfl, by simp [tsum], h0, hb0⟩
  case round =>
    clear hb0
    obtain ⟨k, hk, rfl, rfl, hle, hB⟩ := hrel
    have hlt : k < n := by
      have := H1.out
      rcases Nat.lt_or_ge k n with h | h
      · exact h
      · obtain rfl : k = n := by omega
        omega
    obtain ⟨ab, ao, rfl, hab, c0, c1, b0, b1, b2, b3⟩ := HC.out.at hB k hlt
    have HB := Lib.hid hB
    have HS := Lib.hid hB.size
    obtain ⟨g0, g1, g2, _⟩ := good_at HG.out hlt
    obtain ⟨p0, p1⟩ := tsum_bounds HG.out k hk
    have HW := Lib.hid (show tsum F T (k + 1) = tsum F T k + (T k - F k) from rfl)
    have HV := Lib.hid (fun h => nthV_at (m := m) HG.out hlt hle h)
    obtain ⟨f, e0⟩ : ∃ x, F k = x := ⟨_, rfl⟩
    obtain ⟨t, e1⟩ : ∃ x, T k = x := ⟨_, rfl⟩
    obtain ⟨s, e2⟩ : ∃ z, m - tsum F T k = z := ⟨_, rfl⟩
    have s0 : 0 ≤ s := by omega
    have s1 : s ≤ 36028797018963968 := by omega
    rw [e0] at c0 b0 b1 HW HV g0 g1
    rw [e1] at c1 b2 b3 HW g1 g2
    have E2 := Lib.hid e2
    rw [e2] at HV ⊢
    clear hB e0 e1 e2 p1
    have k0 : (0 : Int) ≤ (k : Int) := by omega
    have kl : (k : Int) < (n : Int) := by omega
    have d4 : decide ((k : Int) < (n : Int)) = true := by simp [hlt]
    have hz := fun W => size_any f t W (by omega) (by omega)
    by_cases hs : s < t - f
    · have d5 : decide (s < t - f) = true := decide_eq_true hs
      have hv := HV.out (by rw [HW.out]; have := E2.out; omega)
      have HV := Lib.hid hv
      clear hv
      go_wp2_with fail
      refine (hz _).mono ?_
      rintro e w1 ⟨rfl, hb1⟩
      obtain ⟨hc1, hf1⟩ := bcell hb1
      go_wp2_with fail
      go_ret2
      exact ⟨ret_ib HV.out.symm, below_call HB.out HS.out hb1⟩
    · have d5 : decide (s < t - f) = false := decide_eq_false hs
      go_wp2_with fail
      refine (hz _).mono ?_
      rintro e w1 ⟨rfl, hb1⟩
      obtain ⟨hc1, hf1⟩ := bcell hb1
      go_wp2_with fail
      refine (hz _).mono ?_
      rintro e w2 ⟨rfl, hb2⟩
      clear hc1 hf1
      go_wp2_with fail
      go_roundw
      case rel => exact ⟨k + 1, hlt, by go_num, by rw [HW.out, ← E2.out]; congr 1; omega, by rw [HW.out]; have := E2.out; omega, (below_call HB.out HS.out hb1).trans (hb2.mono (below_call HB.out HS.out hb1).size)⟩
      case measure => simp [intOf]; omega
set_option maxRecDepth 100000 in
set_option maxHeartbeats 4000000 in
theorem nth_past (a : Option Addr) (n cap : Nat) (F T : Nat → Int) (m : Int) (w : World) (hS : Sps w a n F T) (hn : n ≤ 32) (hg : good F T n = true) (h0 : 0 ≤ m) (hm1 : m ≤ 9223372036854775807) (h1 : tsum F T n ≤ m) :
    Calls Tryz.prog 105 #[.slice a n cap, .int .i64 m] w fun e w' => e = .returned (.tuple #[.int .i64 0, .bool false]) ∧ Below w.heap.size w w' := by
  have hm := hS.1
  unfold maxLen at hm
  have HC := Lib.hid hS
  have hr := row_any a n cap F T w hS
  rw [rowE_ok hn hg] at hr
  have d0 : decide (m < 0) = false := decide_eq_false (by omega)
  have HG := Lib.hid hg
  have HN := Lib.hid hn
  have H1 := Lib.hid h1
  clear hS hg h1
  go_enter Tryz.func105, Tryz.ntmps105
  go_wp2_with fail
  refine hr.mono ?_
  rintro e w0 ⟨rfl, hb0⟩
  clear hr
  go_wp2_with fail
  go_loopw [1, 17] (fun s i wr => ∃ k : Nat, k ≤ n ∧ i = .int .i64 k ∧ s = .int .i64 (m - tsum F T k) ∧ Below w.heap.size w wr) (fun _ i _ => n - (intOf i).toNat)
  case atStart => exact ⟨0, Nat.zero_le _, rfl, by simp [tsum], hb0⟩
  case round =>
    clear hb0
    obtain ⟨k, hk, rfl, rfl, hB⟩ := hrel
    by_cases hlt : k < n
    · obtain ⟨ab, ao, rfl, hab, c0, c1, b0, b1, b2, b3⟩ := HC.out.at hB k hlt
      have HB := Lib.hid hB
      have HS := Lib.hid hB.size
      obtain ⟨g0, g1, g2, _⟩ := good_at HG.out hlt
      obtain ⟨p0, p1⟩ := tsum_bounds HG.out k hk
      have p2 := tsum_mono HG.out n (k + 1) (by omega) (Nat.le_refl _)
      have HW := Lib.hid (show tsum F T (k + 1) = tsum F T k + (T k - F k) from rfl)
      have p3 := HW.out
      have p4 := H1.out
      obtain ⟨f, e0⟩ : ∃ x, F k = x := ⟨_, rfl⟩
      obtain ⟨t, e1⟩ : ∃ x, T k = x := ⟨_, rfl⟩
      obtain ⟨s, e2⟩ : ∃ z, m - tsum F T k = z := ⟨_, rfl⟩
      have s1 : s ≤ 9223372036854775807 := by omega
      rw [e0] at c0 b0 b1 HW g0 g1 p3
      rw [e1] at c1 b2 b3 HW g1 g2 p3
      have s2 : t - f ≤ s := by omega
      have E2 := Lib.hid e2
      rw [e2]
      clear hB e0 e1 e2 p1 p2 p3 p4
      have k0 : (0 : Int) ≤ (k : Int) := by omega
      have kl : (k : Int) < (n : Int) := by omega
      have d4 : decide ((k : Int) < (n : Int)) = true := by simp [hlt]
      have hz := fun W => size_any f t W (by omega) (by omega)
      have d5 : decide (s < t - f) = false := decide_eq_false (by omega)
      go_wp2_with fail
      refine (hz _).mono ?_
      rintro e w1 ⟨rfl, hb1⟩
      obtain ⟨hc1, hf1⟩ := bcell hb1
      go_wp2_with fail
      refine (hz _).mono ?_
      rintro e w2 ⟨rfl, hb2⟩
      clear hc1 hf1
      go_wp2_with fail
      go_roundw
      case rel => exact ⟨k + 1, hlt, by go_num, by rw [HW.out, ← E2.out]; congr 1; omega, (below_call HB.out HS.out hb1).trans (hb2.mono (below_call HB.out HS.out hb1).size)⟩
      case measure => simp [intOf]; omega
    · obtain rfl : k = n := by omega
      have HB := Lib.hid hB
      clear hB
      go_wp2_with fail
      go_ret2
      exact ⟨rfl, HB.out⟩
theorem nth_neg (a : Option Addr) (n cap : Nat) (m : Int) (w : World) (h0 : m < 0) :
    Calls Tryz.prog 105 #[.slice a n cap, .int .i64 m] w fun e w' => e = .returned (.tuple #[.int .i64 0, .bool false]) ∧ Below w.heap.size w w' := by
  have d0 : decide (m < 0) = true := decide_eq_true h0
  go_enter Tryz.func105, Tryz.ntmps105
  go_wp2_with fail
  go_ret2
  exact ⟨rfl, Below.refl _ _⟩
/- Has of a row of spans. -/
open Go.RowKit

def inB (f t m : Int) : Bool := decide (f ≤ m) && decide (m < t)
def hasB (F T : Nat → Int) (m : Int) : Nat → Bool
  | 0 => false
  | k + 1 => hasB F T m k || inB (F k) (T k) m
theorem hasB_iff {F T : Nat → Int} {m : Int} : ∀ n, hasB F T m n = true ↔ ∃ k, k < n ∧ F k ≤ m ∧ m < T k := by
  intro n
  induction n with
  | zero => simp [hasB]
  | succ n ih =>
    simp only [hasB, Bool.or_eq_true, ih, inB, Bool.and_eq_true, decide_eq_true_eq]
    constructor
    · rintro (⟨k, hk, h⟩ | h)
      · exact ⟨k, by omega, h⟩
      · exact ⟨n, by omega, h⟩
    · rintro ⟨k, hk, h⟩
      by_cases e : k = n
      · subst e; exact .inr h
      · exact .inl ⟨k, by omega, h⟩
def Idx (b : Bool) (w : World) (e : Ending) (w' : World) : Prop := ∃ r : Int, e = .returned (.int .i64 r) ∧ decide (0 ≤ r) = b ∧ Below w.heap.size w w'
/- How a row of spans of the law reads. -/
open Go.RowKit
theorem cellsSpan : Tryz.prog.cellsOf 61 = 2 := by kernel_rfl
theorem cellsI64 : Tryz.prog.cellsOf 2 = 1 := by kernel_rfl
set_option maxRecDepth 100000 in
theorem span_cells {H : Type} {enc : TypeId × Value → H} {w : World} {base : Nat} {sp : Nat → Bool} {held : Bool} {fuel : Nat} {cs : List Value} {x : DataW H × List MemPlace}
    (h : DataW.trod enc Tryz.prog w base sp held fuel 61 cs = some x) :
    ∃ f t, cs = [.int .i64 f, .int .i64 t] ∧ (Lit.int .i64 f).wf = true ∧ (Lit.int .i64 t).wf = true := by
  obtain ⟨xs, n, _, _, hlen, hxl, hg⟩ := DataW.trod_struct Tryz.underlying61 h
  rw [cellsSpan] at hlen
  match cs, hlen with
  | [c0, c1], _ =>
    have g0 := hg 0 _ rfl
    have g1 := hg 1 _ rfl
    simp [cellsI64] at g0 g1
    have hx2 : xs.length = 2 := hxl
    rw [List.getElem?_eq_getElem (by omega)] at g0 g1
    obtain ⟨f, e0, _, w0⟩ := DataW.trod_int Tryz.underlying2 g0
    obtain ⟨t, e1, _, w1⟩ := DataW.trod_int Tryz.underlying2 g1
    simp only [List.cons.injEq, and_true] at e0 e1
    subst e0 e1
    exact ⟨f, t, rfl, w0, w1⟩
set_option maxRecDepth 100000 in
theorem spans_in {H : Type} {enc : TypeId × Value → H} {w : World} {base : Nat} {sp : Nat → Bool} {held : Bool} {fuel : Nat} {a : Option Addr} {n cap : Nat} {x : DataW H × List MemPlace}
    (h : DataW.trod enc Tryz.prog w base sp held fuel 22 (Value.slice a n cap).cells.toList = some x) : ∃ F T, Sps w a n F T := by
  rcases Deep.open_slice Tryz.underlying22 h with ⟨hcs, _⟩ | ⟨x, l, c, m, nn, D, Pl, hcs, _, hl, hm, hmm, _, hi⟩
  · simp [Value.cells] at hcs
    obtain ⟨rfl, rfl, rfl⟩ := hcs
    exact ⟨fun _ => 0, fun _ => 0, by simp, fun h => by omega⟩
  · simp [Value.cells] at hcs
    obtain ⟨rfl, rfl, rfl⟩ := hcs
    have hlm : n ≤ m := by rw [hmm]; split <;> omega
    have hex : 0 < n → x = ⟨x.block, x.off, none⟩ ∧ x.block < w.heap.size := by
      intro h0
      obtain ⟨cs', hc, ht⟩ := hi 0 (by omega)
      obtain ⟨_, _, rfl, _⟩ := span_cells ht
      rw [cellsSpan] at hc
      obtain ⟨_, hcl, hat⟩ := World.cells?_some hc
      have e00 := cell_spot ((hat 0 (by omega)).trans (List.getElem?_cons_zero))
      have e0 := e00.1
      have e1 := e00.2
      rw [Deep.add_add] at e0 e1
      refine ⟨?_, by simpa [Addr.add] using e1⟩
      cases x; simp [Addr.add] at e0; simp [e0]
    have key : ∀ i, i < n → ∃ y : Int × Int, w.cell? ⟨x.block, x.off + i * 2, none⟩ = some (.int .i64 y.1) ∧ w.cell? ⟨x.block, x.off + i * 2 + 1, none⟩ = some (.int .i64 y.2) ∧
        (-9223372036854775808 ≤ y.1 ∧ y.1 ≤ 9223372036854775807 ∧ -9223372036854775808 ≤ y.2 ∧ y.2 ≤ 9223372036854775807) := by
      intro i hil
      obtain ⟨cs', hc, ht⟩ := hi i (by omega)
      obtain ⟨f, t, rfl, wf, wt⟩ := span_cells ht
      rw [cellsSpan] at hc
      obtain ⟨_, hcl, hat⟩ := World.cells?_some hc
      have bf := bounds_i64 wf
      have bt := bounds_i64 wt
      have ex := (hex (by omega)).1
      refine ⟨⟨f, t⟩, ?_, ?_, ?_⟩
      · have h1 := hat 0 (by omega)
        rw [Deep.add_add, ex, add_at, ← Nat.add_assoc] at h1
        exact h1
      · have h1 := hat 1 (by omega)
        rw [Deep.add_add, ex, add_at, ← Nat.add_assoc] at h1
        exact h1
      · show -9223372036854775808 ≤ f ∧ f ≤ 9223372036854775807 ∧ -9223372036854775808 ≤ t ∧ t ≤ 9223372036854775807
        omega
    obtain ⟨f, hf⟩ := Deep.choose_lt key
    exact ⟨fun i => (f i).1, fun i => (f i).2, by unfold maxLen at *; omega, fun h0 => ⟨x.block, x.off, by rw [← (hex h0).1], (hex h0).2, fun k hk => hf k hk⟩⟩
/- SpanSides: what counting in parts comes to. -/
open Go.RowKit

/-- Parted at an instant, both parts have all. -/
theorem clip_sides (f t at_ : Int) (h0 : 0 ≤ f) (h1 : f < t) (h2 : t ≤ 1125899906842624) (h3 : 0 ≤ at_) (h4 : at_ ≤ 1125899906842624) :
    clip f t 0 at_ + clip f t at_ 1125899906842624 = t - f ∧ clip f t 0 1125899906842624 = t - f := by
  rcases clip_cases f t 0 at_ with ⟨a1, a2⟩ | ⟨a1, a2⟩ <;> rcases clip_cases f t at_ 1125899906842624 with ⟨b1, b2⟩ | ⟨b1, b2⟩ <;> rcases clip_cases f t 0 1125899906842624 with ⟨c1, c2⟩ | ⟨c1, c2⟩ <;>
    rcases mx_cases f 0 with ⟨d1, d2⟩ | ⟨d1, d2⟩ <;> rcases mx_cases f at_ with ⟨e1, e2⟩ | ⟨e1, e2⟩ <;> rcases mn_cases t at_ with ⟨g1, g2⟩ | ⟨g1, g2⟩ <;> rcases mn_cases t 1125899906842624 with ⟨i1, i2⟩ | ⟨i1, i2⟩ <;> omega
theorem wsum_all {F T : Nat → Int} {n : Nat} (hg : good F T n = true) : ∀ k, k ≤ n → wsum F T 0 1125899906842624 k = tsum F T k := by
  intro k
  induction k with
  | zero => intro _; rfl
  | succ k ih =>
    intro hk
    obtain ⟨g0, g1, g2, _⟩ := good_at hg (show k < n by omega)
    have := (clip_sides (F k) (T k) 0 g0 g1 g2 (by omega) (by omega)).2
    simp only [wsum, tsum, ih (by omega), this]
theorem wsum_sides {F T : Nat → Int} {n : Nat} (hg : good F T n = true) (x : Int) (h3 : 0 ≤ x) (h4 : x ≤ 1125899906842624) : ∀ k, k ≤ n → wsum F T 0 x k + wsum F T x 1125899906842624 k = tsum F T k := by
  intro k
  induction k with
  | zero => intro _; rfl
  | succ k ih =>
    intro hk
    obtain ⟨g0, g1, g2, _⟩ := good_at hg (show k < n by omega)
    have h1 := (clip_sides (F k) (T k) x g0 g1 g2 h3 h4).1
    have h2 := ih (by omega)
    simp only [wsum, tsum]
    omega
/-- The spans of a row stand one behind the other. -/
theorem good_order {F T : Nat → Int} {n : Nat} (hg : good F T n = true) : ∀ j k, k < j → j < n → T k ≤ F j := by
  intro j
  induction j with
  | zero => intro k h; omega
  | succ j ih =>
    intro k hk hj
    have h1 := (good_at hg hj).2.2.2
    have e : j + 1 - 1 = j := rfl
    rw [e] at h1
    by_cases h : k = j
    · subst h; omega
    · have := ih k (by omega) (by omega)
      have := (good_at hg (show j < n by omega)).2.1
      omega
theorem clip_before (f t x : Int) (h0 : 0 ≤ f) (h1 : f < t) (h2 : t ≤ x) : clip f t 0 x = t - f := by
  rcases clip_cases f t 0 x with ⟨a1, a2⟩ | ⟨a1, a2⟩ <;> rcases mx_cases f 0 with ⟨d1, d2⟩ | ⟨d1, d2⟩ <;> rcases mn_cases t x with ⟨g1, g2⟩ | ⟨g1, g2⟩ <;> omega
theorem clip_within (f t x : Int) (h0 : 0 ≤ f) (h1 : f ≤ x) (h2 : x < t) : clip f t 0 x = x - f := by
  rcases clip_cases f t 0 x with ⟨a1, a2⟩ | ⟨a1, a2⟩ <;> rcases mx_cases f 0 with ⟨d1, d2⟩ | ⟨d1, d2⟩ <;> rcases mn_cases t x with ⟨g1, g2⟩ | ⟨g1, g2⟩ <;> omega
theorem clip_behind (f t x : Int) (h0 : 0 ≤ f) (h1 : f < t) (h2 : x ≤ f) : clip f t 0 x = 0 := by
  rcases clip_cases f t 0 x with ⟨a1, a2⟩ | ⟨a1, a2⟩ <;> rcases mx_cases f 0 with ⟨d1, d2⟩ | ⟨d1, d2⟩ <;> rcases mn_cases t x with ⟨g1, g2⟩ | ⟨g1, g2⟩ <;> omega
/-- How many are ahead of a second within span k. -/
theorem wsum_upto {F T : Nat → Int} {n k : Nat} (hg : good F T n = true) (hk : k < n) (x : Int) (h1 : F k ≤ x) (h2 : x < T k) : ∀ j, j ≤ n → wsum F T 0 x j = if j ≤ k then tsum F T j else tsum F T k + (x - F k) := by
  intro j
  induction j with
  | zero => intro _; rw [if_pos (Nat.zero_le _)]; rfl
  | succ j ih =>
    intro hj
    have h := ih (by omega)
    obtain ⟨g0, g1, g2, _⟩ := good_at hg (show j < n by omega)
    simp only [wsum, h]
    by_cases e1 : j + 1 ≤ k
    · rw [if_pos (by omega), if_pos e1]
      have := good_order hg k j (by omega) hk
      rw [clip_before _ _ _ g0 g1 (by omega)]
      simp only [tsum]
    · by_cases e2 : j = k
      · subst e2
        rw [if_pos (Nat.le_refl _), if_neg e1, clip_within _ _ _ g0 h1 h2]
      · rw [if_neg (by omega), if_neg e1]
        have := good_order hg j k (by omega) (by omega)
        rw [clip_behind _ _ _ g0 g1 (by omega)]
        omega
theorem within_nth {F T : Nat → Int} {n : Nat} {m : Int} (hg : good F T n = true) (h0 : 0 ≤ m) (h1 : m < tsum F T n) : hasB F T (nthV F T n m) n = true ∧ wsum F T 0 (nthV F T n m) n = m := by
  obtain ⟨k, hk, h2, h3⟩ := tsum_find n h0 h1
  have e := nthV_at hg hk h2 h3
  have h4 : tsum F T (k + 1) = tsum F T k + (T k - F k) := rfl
  refine ⟨(hasB_iff n).2 ⟨k, hk, by omega, by omega⟩, ?_⟩
  have := wsum_upto hg hk (nthV F T n m) (by omega) (by omega) n (Nat.le_refl _)
  rw [if_neg (by omega)] at this
  omega
/-- One second's count. -/
theorem clip_one (f t x : Int) (h0 : 0 ≤ f) (h1 : f < t) : clip f t x (x + 1) = if inB f t x = true then 1 else 0 := by
  have hi : inB f t x = true ↔ f ≤ x ∧ x < t := by simp [inB]
  rcases clip_cases f t x (x + 1) with ⟨a1, a2⟩ | ⟨a1, a2⟩ <;> rcases mx_cases f x with ⟨d1, d2⟩ | ⟨d1, d2⟩ <;> rcases mn_cases t (x + 1) with ⟨g1, g2⟩ | ⟨g1, g2⟩ <;> by_cases hc : f ≤ x ∧ x < t <;>
    first | (rw [if_pos (hi.2 hc)]; omega) | (rw [if_neg (fun h => hc (hi.1 h))]; omega)
theorem wsum_one {F T : Nat → Int} {n : Nat} (hg : good F T n = true) (x : Int) : ∀ k, k ≤ n → wsum F T x (x + 1) k = if hasB F T x k = true then 1 else 0 := by
  intro k
  induction k with
  | zero => intro _; rfl
  | succ k ih =>
    intro hk
    obtain ⟨g0, g1, g2, _⟩ := good_at hg (show k < n by omega)
    simp only [wsum, ih (by omega), clip_one _ _ _ g0 g1]
    have hh : hasB F T x (k + 1) = (hasB F T x k || inB (F k) (T k) x) := rfl
    rw [hh]
    by_cases h1 : hasB F T x k = true
    · rw [if_pos h1]
      obtain ⟨j, hj, h2, h3⟩ := (hasB_iff k).1 h1
      have h4 : ¬ inB (F k) (T k) x = true := by
        intro h
        simp [inB] at h
        have := good_order hg k j hj (by omega)
        omega
      rw [if_neg h4, if_pos (by simp [h1])]
      rfl
    · rw [if_neg h1]
      by_cases h5 : inB (F k) (T k) x = true
      · rw [if_pos h5, if_pos (by simp [h5])]; rfl
      · rw [if_neg h5, if_neg (by simp [h1, h5])]; rfl
end Go.Proofs.YthnnbmofpmedhaaGreat

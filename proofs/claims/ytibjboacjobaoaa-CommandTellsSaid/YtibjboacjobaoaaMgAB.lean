import Derived.Test.YtibjboacjobaoaaMgAA
import Derived.Laws.StructEq
import Derived.Deep.RegionHeld3
namespace Go.Proofs.Ytibjboacjobaoaa
open Go.RowKit
/- Two spans compared. -/
open Go.RowKit
theorem span_struct : Try.prog.underlying 193 = some (.struct (Try.prog.fieldsOf 193)) := by kernel_rfl
theorem span_held : Try.prog.stoodInHeld 193 = false := by kernel_rfl
theorem span_guard : Try.prog.eqGuardType Try.prog.depth 193 = false := by kernel_rfl
theorem guard_span (op : BinOp) (x y : Operand) (xs ys : Array Value) (w : World) : (eqGuard op 193 x y (.agg xs) (.agg ys)).run Try.prog w = .ok () w := run_eqGuard_agg w op _ x y xs ys span_guard
theorem eq_span (f t f' t' : Int) (w : World) : (Op.equalIn 10000 193 (.agg #[.int .i64 f, .int .i64 t]) (.agg #[.int .i64 f', .int .i64 t'])).run Try.prog w = .ok (f == f' && t == t') w := by
  rw [run_equalIn_agg w 9999 _ _ _ span_struct span_held]
  have h : Try.prog.underlying 2 = some (.int .i64) := Try.underlying2
  simp [Op.eqFields, go_sem, h, Try.underlying193]
  cases hf : f == f' <;> cases ht : t == t' <;> simp_all [go_sem]
theorem eql_span (f t f' t' : Int) (w : World) : (binOp .eql 193 (.agg #[.int .i64 f, .int .i64 t]) (.agg #[.int .i64 f', .int .i64 t'])).run Try.prog w = .ok (.bool (f == f' && t == t')) w := by
  rw [run_eql_struct, eq_span]; rfl
theorem neq_span (f t f' t' : Int) (w : World) : (binOp .neq 193 (.agg #[.int .i64 f, .int .i64 t]) (.agg #[.int .i64 f', .int .i64 t'])).run Try.prog w = .ok (.bool (!(f == f' && t == t'))) w := by
  rw [run_neq_struct, eq_span]; rfl
/- Two lists of spans compared, by the program and by the reference. -/
open Go.RowKit

def sameB (F T F' T' : Nat → Int) : Nat → Bool
  | 0 => true
  | k + 1 => sameB F T F' T' k && (F k == F' k && T k == T' k)
theorem sameB_iff {F T F' T' : Nat → Int} {n : Nat} : sameB F T F' T' n = true ↔ ∀ k, k < n → F k = F' k ∧ T k = T' k := by
  induction n with
  | zero => simp [sameB]
  | succ n ih =>
    simp only [sameB, Bool.and_eq_true, ih, beq_iff_eq]
    constructor
    · intro ⟨h1, h2⟩ k hk
      by_cases e : k = n
      · subst e; exact h2
      · exact h1 k (by omega)
    · intro h
      exact ⟨fun k hk => h k (by omega), h n (by omega)⟩
theorem sameB_bad {F T F' T' : Nat → Int} {n k : Nat} (h : sameB F T F' T' (k + 1) = false) (hk : k < n) : sameB F T F' T' n = false := by
  cases hg : sameB F T F' T' n with
  | false => rfl
  | true =>
    have : sameB F T F' T' (k + 1) = true := sameB_iff.2 fun j hj => sameB_iff.1 hg j (by omega)
    rw [this] at h; cases h
def sameL (F T F' T' : Nat → Int) (n m : Nat) : Bool := decide (n = m) && sameB F T F' T' n

set_option maxRecDepth 100000 in
set_option maxHeartbeats 4000000 in
theorem equal_any (a a' : Option Addr) (n cap m cap' : Nat) (F T F' T' : Nat → Int) (w : World) (hS : Sps w a n F T) (hS' : Sps w a' m F' T') :
    Calls Try.prog 134 #[.slice a n cap, .slice a' m cap'] w fun e w' => e = .returned (.bool (sameL F T F' T' n m)) ∧ ∃ q, w' = w.drewN q := by
  have hm := hS.1
  have hm' := hS'.1
  unfold maxLen at hm hm'
  by_cases hl : n = m
  · subst hl
    have e : sameL F T F' T' n n = sameB F T F' T' n := by simp [sameL]
    rw [e]
    have HC := Lib.hid hS
    have HC' := Lib.hid hS'
    clear hS hS' e
    go_enter Try.func134, Try.ntmps134
    go_wp2
    go_loopw [13] (fun i wr => ∃ k : Nat, k ≤ n ∧ i = .int .i64 k ∧ sameB F T F' T' k = true ∧ ∃ q, wr = w.drewN q) (fun i _ => n - (intOf i).toNat)
    case atStart => exact ⟨0, Nat.zero_le _, rfl, rfl, 0, rfl⟩
    case round =>
      obtain ⟨k, hk, rfl, hg, q, rfl⟩ := hrel
      by_cases hlt : k < n
      · obtain ⟨ab, ao, rfl, hab, c0, c1, b⟩ := HC.out.at (Below.refl _ _) k hlt
        obtain ⟨ab', ao', rfl, hab', c0', c1', b'⟩ := HC'.out.at (Below.refl _ _) k hlt
        have HG := Lib.hid (show sameB F T F' T' (k + 1) = (F k == F' k && T k == T' k) by simp [sameB, hg])
        obtain ⟨f, e0⟩ : ∃ x, F k = x := ⟨_, rfl⟩
        obtain ⟨t, e1⟩ : ∃ x, T k = x := ⟨_, rfl⟩
        obtain ⟨f', e0'⟩ : ∃ x, F' k = x := ⟨_, rfl⟩
        obtain ⟨t', e1'⟩ : ∃ x, T' k = x := ⟨_, rfl⟩
        rw [e0, e1, e0', e1'] at HG
        rw [e0] at c0; rw [e1] at c1; rw [e0'] at c0'; rw [e1'] at c1'
        clear hg e0 e1 e0' e1' b b'
        have k0 : (0 : Int) ≤ (k : Int) := by omega
        have kl : (k : Int) < (n : Int) := by omega
        have d4 : decide ((k : Int) < (n : Int)) = true := by simp [hlt]
        obtain ⟨c, hd⟩ : ∃ c, (f == f' && t == t') = c := ⟨_, rfl⟩
        have hn : ∀ w, (binOp .neq 193 (.agg #[.int .i64 f, .int .i64 t]) (.agg #[.int .i64 f', .int .i64 t'])).run Try.prog w = .ok (.bool (!c)) w := fun w => by rw [neq_span, hd]
        have hq := guard_span
        rw [hd] at HG
        clear hd
        cases c
        · go_wp2
          go_quiet (fail)
          go_wp2
          go_ret
          exact ⟨ret_bool (sameB_bad HG.out hlt).symm, _, World.drewN_drewN _ _ _⟩
        · go_wp2
          go_quiet (fail)
          go_wp2
          go_roundw
          case rel => exact ⟨k + 1, hlt, by go_num, HG.out, _, rfl⟩
          case measure => simp [intOf]; omega
      · obtain rfl : k = n := by omega
        have HG := Lib.hid hg
        clear hg
        go_wp2
        go_ret
        exact ⟨ret_bool HG.out.symm, q, rfl⟩
  · have d : ((n : Int) != (m : Int)) = true := by simp; omega
    have e : sameL F T F' T' n m = false := by simp [sameL, hl]
    rw [e]
    go_enter Try.func134, Try.ntmps134
    go_wp2
    go_ret
    exact ⟨rfl, 0, rfl⟩
set_option maxRecDepth 100000 in
set_option maxHeartbeats 4000000 in
theorem rsame_any (a a' : Option Addr) (n cap m cap' : Nat) (F T F' T' : Nat → Int) (w : World) (hS : Sps w a n F T) (hS' : Sps w a' m F' T') :
    Calls Try.prog 116 #[.slice a n cap, .slice a' m cap'] w fun e w' => e = .returned (.bool (sameL F T F' T' n m)) ∧ ∃ q, w' = w.drewN q := by
  have hm := hS.1
  have hm' := hS'.1
  unfold maxLen at hm hm'
  by_cases hl : n = m
  · subst hl
    have e : sameL F T F' T' n n = sameB F T F' T' n := by simp [sameL]
    rw [e]
    have HC := Lib.hid hS
    have HC' := Lib.hid hS'
    clear hS hS' e
    go_enter Try.func116, Try.ntmps116
    go_wp2
    go_loopw [5] (fun i wr => ∃ k : Nat, k ≤ n ∧ i = .int .i64 k ∧ sameB F T F' T' k = true ∧ ∃ q, wr = w.drewN q) (fun i _ => n - (intOf i).toNat)
    case atStart => exact ⟨0, Nat.zero_le _, rfl, rfl, 0, rfl⟩
    case round =>
      obtain ⟨k, hk, rfl, hg, q, rfl⟩ := hrel
      by_cases hlt : k < n
      · obtain ⟨ab, ao, rfl, hab, c0, c1, b⟩ := HC.out.at (Below.refl _ _) k hlt
        obtain ⟨ab', ao', rfl, hab', c0', c1', b'⟩ := HC'.out.at (Below.refl _ _) k hlt
        have HG := Lib.hid (show sameB F T F' T' (k + 1) = (F k == F' k && T k == T' k) by simp [sameB, hg])
        obtain ⟨f, e0⟩ : ∃ x, F k = x := ⟨_, rfl⟩
        obtain ⟨t, e1⟩ : ∃ x, T k = x := ⟨_, rfl⟩
        obtain ⟨f', e0'⟩ : ∃ x, F' k = x := ⟨_, rfl⟩
        obtain ⟨t', e1'⟩ : ∃ x, T' k = x := ⟨_, rfl⟩
        rw [e0, e1, e0', e1'] at HG
        rw [e0] at c0; rw [e1] at c1; rw [e0'] at c0'; rw [e1'] at c1'
        clear hg e0 e1 e0' e1' b b'
        have k0 : (0 : Int) ≤ (k : Int) := by omega
        have kl : (k : Int) < (n : Int) := by omega
        have d4 : decide ((k : Int) < (n : Int)) = true := by simp [hlt]
        obtain ⟨c, hd⟩ : ∃ c, (f == f' && t == t') = c := ⟨_, rfl⟩
        have hn : ∀ w, (binOp .neq 193 (.agg #[.int .i64 f, .int .i64 t]) (.agg #[.int .i64 f', .int .i64 t'])).run Try.prog w = .ok (.bool (!c)) w := fun w => by rw [neq_span, hd]
        have hq := guard_span
        rw [hd] at HG
        clear hd
        cases c
        · go_wp2
          go_quiet (fail)
          go_wp2
          go_ret
          exact ⟨ret_bool (sameB_bad HG.out hlt).symm, _, World.drewN_drewN _ _ _⟩
        · go_wp2
          go_quiet (fail)
          go_wp2
          go_roundw
          case rel => exact ⟨k + 1, hlt, by go_num, HG.out, _, rfl⟩
          case measure => simp [intOf]; omega
      · obtain rfl : k = n := by omega
        have HG := Lib.hid hg
        clear hg
        go_wp2
        go_ret
        exact ⟨ret_bool HG.out.symm, q, rfl⟩
  · have d : ((n : Int) != (m : Int)) = true := by simp; omega
    have e : sameL F T F' T' n m = false := by simp [sameL, hl]
    rw [e]
    go_enter Try.func116, Try.ntmps116
    go_wp2
    go_ret
    exact ⟨rfl, 0, rfl⟩
theorem same_any (a a' : Option Addr) (n cap m cap' : Nat) (F T F' T' : Nat → Int) (w : World) (hS : Sps w a n F T) (hS' : Sps w a' m F' T') :
    Calls Try.prog 114 #[.slice a n cap, .slice a' m cap'] w fun e w' => e = .returned (.bool (sameL F T F' T' n m)) ∧ ∃ q, w' = w.drewN q := by
  have hc := equal_any a a' n cap m cap' F T F' T' w hS hS'
  clear hS hS'
  go_enter Try.func114, Try.ntmps114
  go_wp2_with fail
  refine hc.mono ?_
  rintro e w' ⟨rfl, q, rfl⟩
  go_wp2_with fail
  go_ret
  exact ⟨rfl, q, rfl⟩
/- Two levels compared. -/
open Go.RowKit
theorem level_struct : Try.prog.underlying 164 = some (.struct (Try.prog.fieldsOf 164)) := by kernel_rfl
theorem level_held : Try.prog.stoodInHeld 164 = false := by kernel_rfl
theorem level_guard : Try.prog.eqGuardType Try.prog.depth 164 = false := by kernel_rfl
theorem guard_level (op : BinOp) (x y : Operand) (xs ys : Array Value) (w : World) : (eqGuard op 164 x y (.agg xs) (.agg ys)).run Try.prog w = .ok () w := run_eqGuard_agg w op _ x y xs ys level_guard
theorem eq_level (f t f' t' : Int) (w : World) : (Op.equalIn 10000 164 (.agg #[.int .i64 f, .int .i64 t]) (.agg #[.int .i64 f', .int .i64 t'])).run Try.prog w = .ok (f == f' && t == t') w := by
  rw [run_equalIn_agg w 9999 _ _ _ level_struct level_held]
  have h : Try.prog.underlying 2 = some (.int .i64) := Try.underlying2
  have h2 : Try.prog.underlying 3 = some (.int .i64) := Try.underlying3
  simp [Op.eqFields, go_sem, h, h2, Try.underlying164]
  cases hf : f == f' <;> cases ht : t == t' <;> simp_all [go_sem]
theorem eql_level (f t f' t' : Int) (w : World) : (binOp .eql 164 (.agg #[.int .i64 f, .int .i64 t]) (.agg #[.int .i64 f', .int .i64 t'])).run Try.prog w = .ok (.bool (f == f' && t == t')) w := by
  rw [run_eql_struct, eq_level]; rfl
theorem neq_level (f t f' t' : Int) (w : World) : (binOp .neq 164 (.agg #[.int .i64 f, .int .i64 t]) (.agg #[.int .i64 f', .int .i64 t'])).run Try.prog w = .ok (.bool (!(f == f' && t == t'))) w := by
  rw [run_neq_struct, eq_level]; rfl
/- Rows of levels compared. -/
open Go.RowKit
set_option maxRecDepth 100000 in
set_option maxHeartbeats 4000000 in
theorem equal_levels (a a' : Option Addr) (n cap m cap' : Nat) (F T F' T' : Nat → Int) (w : World) (hS : Sps w a n F T) (hS' : Sps w a' m F' T') :
    Calls Try.prog 115 #[.slice a n cap, .slice a' m cap'] w fun e w' => e = .returned (.bool (sameL F T F' T' n m)) ∧ ∃ q, w' = w.drewN q := by
  have hm := hS.1
  have hm' := hS'.1
  unfold maxLen at hm hm'
  by_cases hl : n = m
  · subst hl
    have e : sameL F T F' T' n n = sameB F T F' T' n := by simp [sameL]
    rw [e]
    have HC := Lib.hid hS
    have HC' := Lib.hid hS'
    clear hS hS' e
    go_enter Try.func115, Try.ntmps115
    go_wp2
    go_loopw [13] (fun i wr => ∃ k : Nat, k ≤ n ∧ i = .int .i64 k ∧ sameB F T F' T' k = true ∧ ∃ q, wr = w.drewN q) (fun i _ => n - (intOf i).toNat)
    case atStart => exact ⟨0, Nat.zero_le _, rfl, rfl, 0, rfl⟩
    case round =>
      obtain ⟨k, hk, rfl, hg, q, rfl⟩ := hrel
      by_cases hlt : k < n
      · obtain ⟨ab, ao, rfl, hab, c0, c1, b⟩ := HC.out.at (Below.refl _ _) k hlt
        obtain ⟨ab', ao', rfl, hab', c0', c1', b'⟩ := HC'.out.at (Below.refl _ _) k hlt
        have HG := Lib.hid (show sameB F T F' T' (k + 1) = (F k == F' k && T k == T' k) by simp [sameB, hg])
        obtain ⟨f, e0⟩ : ∃ x, F k = x := ⟨_, rfl⟩
        obtain ⟨t, e1⟩ : ∃ x, T k = x := ⟨_, rfl⟩
        obtain ⟨f', e0'⟩ : ∃ x, F' k = x := ⟨_, rfl⟩
        obtain ⟨t', e1'⟩ : ∃ x, T' k = x := ⟨_, rfl⟩
        rw [e0, e1, e0', e1'] at HG
        rw [e0] at c0; rw [e1] at c1; rw [e0'] at c0'; rw [e1'] at c1'
        clear hg e0 e1 e0' e1' b b'
        have k0 : (0 : Int) ≤ (k : Int) := by omega
        have kl : (k : Int) < (n : Int) := by omega
        have d4 : decide ((k : Int) < (n : Int)) = true := by simp [hlt]
        obtain ⟨c, hd⟩ : ∃ c, (f == f' && t == t') = c := ⟨_, rfl⟩
        have hn : ∀ w, (binOp .neq 164 (.agg #[.int .i64 f, .int .i64 t]) (.agg #[.int .i64 f', .int .i64 t'])).run Try.prog w = .ok (.bool (!c)) w := fun w => by rw [neq_level, hd]
        have hq := guard_level
        rw [hd] at HG
        clear hd
        cases c
        · go_wp2
          go_quiet (fail)
          go_wp2
          go_ret
          exact ⟨ret_bool (sameB_bad HG.out hlt).symm, _, World.drewN_drewN _ _ _⟩
        · go_wp2
          go_quiet (fail)
          go_wp2
          go_roundw
          case rel => exact ⟨k + 1, hlt, by go_num, HG.out, _, rfl⟩
          case measure => simp [intOf]; omega
      · obtain rfl : k = n := by omega
        have HG := Lib.hid hg
        clear hg
        go_wp2
        go_ret
        exact ⟨ret_bool HG.out.symm, q, rfl⟩
  · have d : ((n : Int) != (m : Int)) = true := by simp; omega
    have e : sameL F T F' T' n m = false := by simp [sameL, hl]
    rw [e]
    go_enter Try.func115, Try.ntmps115
    go_wp2
    go_ret
    exact ⟨rfl, 0, rfl⟩
end Go.Proofs.Ytibjboacjobaoaa

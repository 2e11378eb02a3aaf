/- The outbox: rows of notices compared. -/
import Derived.Test.YtnfpheccmjdpoaaObC
import Derived.Laws.StructEq
import Derived.Deep.LoopGhost
import Derived.Deep.QuietTactic
import Derived.BigQuiet
namespace Go.Proofs.Ytnfpheccmjdpoaa
open Go.RowKit
deriving instance DecidableEq for Nt
def eqN (x y : Nt) : Bool := (x.id == y.id) && ((x.tk == y.tk) && ((x.lv == y.lv) && ((x.pa == y.pa) && ((x.st == y.st) && ((x.tr == y.tr) && ((x.rt == y.rt) && ((x.wt == y.wt) && (x.nx == y.nx))))))))
theorem eqN_iff (x y : Nt) : eqN x y = true ↔ x = y := by
  cases x
  cases y
  simp [eqN]
theorem nt_struct : Try.prog.underlying 36 = some (.struct (Try.prog.fieldsOf 36)) := by kernel_rfl
theorem nt_held : Try.prog.stoodInHeld 36 = false := by kernel_rfl
theorem nt_guard : Try.prog.eqGuardType Try.prog.depth 36 = false := by kernel_rfl
theorem guard_nt (op : BinOp) (x y : Operand) (xs ys : Array Value) (w : World) : (eqGuard op 36 x y (.agg xs) (.agg ys)).run Try.prog w = .ok () w := run_eqGuard_agg w op _ x y xs ys nt_guard
set_option maxRecDepth 100000 in
set_option maxHeartbeats 8000000 in
theorem eq_nt (x y : Nt) (w : World) : (Op.equalIn 10000 36 (.agg #[.int .u64 x.id, .int .u64 x.tk, .int .i64 x.lv, .int .i64 x.pa, .int .i64 x.st, .int .i64 x.tr, .int .i64 x.rt, .int .i64 x.wt, .int .i64 x.nx]) (.agg #[.int .u64 y.id, .int .u64 y.tk, .int .i64 y.lv, .int .i64 y.pa, .int .i64 y.st, .int .i64 y.tr, .int .i64 y.rt, .int .i64 y.wt, .int .i64 y.nx])).run Try.prog w = .ok (eqN x y) w := by
  rw [run_equalIn_agg w 9999 _ _ _ nt_struct nt_held]
  have h : Try.prog.underlying 2 = some (.int .i64) := Try.underlying2
  have h' : Try.prog.underlying 3 = some (.int .i64) := Try.underlying3
  have h2 : Try.prog.underlying 22 = some (.int .u64) := Try.underlying22
  unfold eqN
  cases e0 : x.id == y.id
  · simp [Op.eqFields, go_sem, h, h', h2, Try.underlying36, e0]
  cases e1 : x.tk == y.tk
  · simp [Op.eqFields, go_sem, h, h', h2, Try.underlying36, e0, e1]
  cases e2 : x.lv == y.lv
  · simp [Op.eqFields, go_sem, h, h', h2, Try.underlying36, e0, e1, e2]
  cases e3 : x.pa == y.pa
  · simp [Op.eqFields, go_sem, h, h', h2, Try.underlying36, e0, e1, e2, e3]
  cases e4 : x.st == y.st
  · simp [Op.eqFields, go_sem, h, h', h2, Try.underlying36, e0, e1, e2, e3, e4]
  cases e5 : x.tr == y.tr
  · simp [Op.eqFields, go_sem, h, h', h2, Try.underlying36, e0, e1, e2, e3, e4, e5]
  cases e6 : x.rt == y.rt
  · simp [Op.eqFields, go_sem, h, h', h2, Try.underlying36, e0, e1, e2, e3, e4, e5, e6]
  cases e7 : x.wt == y.wt
  · simp [Op.eqFields, go_sem, h, h', h2, Try.underlying36, e0, e1, e2, e3, e4, e5, e6, e7]
  cases e8 : x.nx == y.nx
  · simp [Op.eqFields, go_sem, h, h', h2, Try.underlying36, e0, e1, e2, e3, e4, e5, e6, e7, e8]
  · simp [Op.eqFields, go_sem, h, h', h2, Try.underlying36, e0, e1, e2, e3, e4, e5, e6, e7, e8]
theorem neq_nt (x y : Nt) (w : World) : (binOp .neq 36 (.agg #[.int .u64 x.id, .int .u64 x.tk, .int .i64 x.lv, .int .i64 x.pa, .int .i64 x.st, .int .i64 x.tr, .int .i64 x.rt, .int .i64 x.wt, .int .i64 x.nx]) (.agg #[.int .u64 y.id, .int .u64 y.tk, .int .i64 y.lv, .int .i64 y.pa, .int .i64 y.st, .int .i64 y.tr, .int .i64 y.rt, .int .i64 y.wt, .int .i64 y.nx])).run Try.prog w = .ok (.bool (!eqN x y)) w := by
  rw [run_neq_struct, eq_nt]; rfl
theorem eql_nt (x y : Nt) (w : World) : (binOp .eql 36 (.agg #[.int .u64 x.id, .int .u64 x.tk, .int .i64 x.lv, .int .i64 x.pa, .int .i64 x.st, .int .i64 x.tr, .int .i64 x.rt, .int .i64 x.wt, .int .i64 x.nx]) (.agg #[.int .u64 y.id, .int .u64 y.tk, .int .i64 y.lv, .int .i64 y.pa, .int .i64 y.st, .int .i64 y.tr, .int .i64 y.rt, .int .i64 y.wt, .int .i64 y.nx])).run Try.prog w = .ok (.bool (eqN x y)) w := by
  rw [run_eql_struct, eq_nt]; rfl
theorem NR.drewN {w : World} {a : Option Addr} {l : List Nt} (h : NR w a l) (q : Nat) : NR (w.drewN q) a l := fun k hk => by
  obtain ⟨b, o, e, h1⟩ := h k hk
  exact ⟨b, o, e, h1.kept rfl⟩
set_option maxRecDepth 100000 in
set_option maxHeartbeats 8000000 in
theorem equal_nts (a a' : Option Addr) (ca ca' : Nat) (xs ys : List Nt) (w : World) (h : NR w a xs) (h' : NR w a' ys) (hm : xs.length ≤ 100000) (hm' : ys.length ≤ 100000) :
    Calls Try.prog 51 #[.slice a xs.length ca, .slice a' ys.length ca'] w fun e w' => e = .returned (.bool (decide (xs = ys))) ∧ ∃ q, w' = w.drewN q := by
  by_cases hl : xs.length = ys.length
  · have HC := Lib.hid h
    have HC' := Lib.hid h'
    have HL := Lib.hid hl
    obtain ⟨n, hn⟩ : ∃ n, xs.length = n := ⟨_, rfl⟩
    rw [← hl, hn]
    have HN := Lib.hid hn
    have hmn : n ≤ 100000 := by omega
    clear h h' hl hn hm hm'
    go_enter Try.func51, Try.ntmps51
    go_wp2
    go_loopw [13] (fun i wr => ∃ k : Nat, k ≤ n ∧ i = .int .i64 k ∧ Hid (xs.take k = ys.take k) ∧ ∃ q, wr = w.drewN q) (fun i _ => n - (intOf i).toNat)
    case atStart => exact ⟨0, Nat.zero_le _, rfl, Lib.hid rfl, 0, rfl⟩
    case round =>
      obtain ⟨k, hk, rfl, hg, q, rfl⟩ := hrel
      by_cases hlt : k < n
      · have hx : k < xs.length := by rw [HN.out]; exact hlt
        have hy : k < ys.length := by rw [← HL.out, HN.out]; exact hlt
        obtain ⟨ab, ao, rfl, c0⟩ := (HC.out.drewN q) k hx
        obtain ⟨ab', ao', rfl, c0'⟩ := (HC'.out.drewN q) k hy
        have HG : Hid (xs.take (k + 1) = ys.take (k + 1) ↔ xs[k] = ys[k]) := Lib.hid (by rw [List.take_succ_eq_append_getElem hx, List.take_succ_eq_append_getElem hy, hg.out]; exact ⟨fun h => by simpa using (List.append_cancel_left h), fun h => by rw [h]⟩)
        obtain ⟨x, e0⟩ : ∃ x, xs[k] = x := ⟨_, rfl⟩
        obtain ⟨y, e1⟩ : ∃ x, ys[k] = x := ⟨_, rfl⟩
        rw [e0, e1] at HG
        rw [e0] at c0
        rw [e1] at c0'
        clear hg e0 e1 hx hy
        have HS0 : Hid ((fun W : World => NtAt W ab (ao + k * 9) x ∧ NtAt W ab' (ao' + k * 9) y) (w.drewN q).drew) := Lib.hid ⟨c0.kept rfl, c0'.kept rfl⟩
        clear c0 c0'
        have k0 : (0 : Int) ≤ (k : Int) := by omega
        have kl : (k : Int) < (n : Int) := by omega
        have d4 : decide ((k : Int) < (n : Int)) = true := by simp [hlt]
        have hgd := guard_nt
        have hwk : wrap64 ((k : Int) + 1) = (k : Int) + 1 := IntWalk.wrap64_in _ (by omega)
        have hne := neq_nt x y
        have HE := Lib.hid (eqN_iff x y)
        generalize eqN x y = z at hne HE
        cases z
        · go_wp2_with fail
          refine wp_region_held_drew (S := (fun W : World => NtAt W ab (ao + k * 9) x ∧ NtAt W ab' (ao' + k * 9) y)) (by kernel_rfl) HS0.out (fun hHeld => ?_)
          clear hHeld
          refine wpAnyH_take (i := 0) (oi := { dst := some 16, op := Go.Op.move (Go.Operand.tmp 0), type := 23, pos := "slices.go:25", after := #[], guard := none }) (v := ?_) rfl (by kernel_rfl) (by kernel_rfl) (by kernel_rfl) (fun _ _ _ h => h) (Or.inl ⟨by rfl, ?_⟩) HS0.out ?_
          case refine_2 => (intro w1 hS1; obtain ⟨⟨p0, p1, p2, p3, p4, p5, p6, p7, p8⟩, ⟨q0, q1, q2, q3, q4, q5, q6, q7, q8⟩⟩ := hS1; go_simp; try with_reducible rfl)
          try simp only [Act.put, List.setIfInBounds_toArray, List.set_cons_zero, List.set_cons_succ]
          refine wpAnyH_take (i := 1) (oi := { dst := some 17, op := Go.Op.move (Go.Operand.tmp 5), type := 3, pos := "slices.go:25", after := #[], guard := none }) (v := ?_) rfl (by kernel_rfl) (by kernel_rfl) (by kernel_rfl) (fun _ _ _ h => h) (Or.inl ⟨by rfl, ?_⟩) HS0.out ?_
          case refine_2 => (intro w1 hS1; obtain ⟨⟨p0, p1, p2, p3, p4, p5, p6, p7, p8⟩, ⟨q0, q1, q2, q3, q4, q5, q6, q7, q8⟩⟩ := hS1; go_simp; try with_reducible rfl)
          try simp only [Act.put, List.setIfInBounds_toArray, List.set_cons_zero, List.set_cons_succ]
          refine wpAnyH_take (i := 2) (oi := { dst := some 18, op := Go.Op.indexAddr 23 (Go.Operand.tmp 16) (Go.Operand.tmp 17), type := 0, pos := "slices.go:25", after := #[{ on := 0, ground := Go.Ground.data }, { on := 1, ground := Go.Ground.data }], guard := none }) (v := ?_) rfl (by kernel_rfl) (by kernel_rfl) (by kernel_rfl) (fun _ _ _ h => h) (Or.inl ⟨by rfl, ?_⟩) HS0.out ?_
          case refine_2 => (intro w1 hS1; obtain ⟨⟨p0, p1, p2, p3, p4, p5, p6, p7, p8⟩, ⟨q0, q1, q2, q3, q4, q5, q6, q7, q8⟩⟩ := hS1; go_simp; try with_reducible rfl)
          try simp only [Act.put, List.setIfInBounds_toArray, List.set_cons_zero, List.set_cons_succ]
          refine wpAnyH_take (i := 3) (oi := { dst := some 19, op := Go.Op.load 36 (Go.Operand.tmp 18), type := 36, pos := "slices.go:25", after := #[{ on := 2, ground := Go.Ground.data }], guard := none }) (v := ?_) rfl (by kernel_rfl) (by kernel_rfl) (by kernel_rfl) (fun _ _ _ h => h) (Or.inl ⟨by rfl, ?_⟩) HS0.out ?_
          case refine_2 => (intro w1 hS1; obtain ⟨⟨p0, p1, p2, p3, p4, p5, p6, p7, p8⟩, ⟨q0, q1, q2, q3, q4, q5, q6, q7, q8⟩⟩ := hS1; go_simp; try with_reducible rfl)
          try simp only [Act.put, List.setIfInBounds_toArray, List.set_cons_zero, List.set_cons_succ]
          refine wpAnyH_take (i := 4) (oi := { dst := some 20, op := Go.Op.move (Go.Operand.tmp 1), type := 23, pos := "slices.go:25", after := #[], guard := none }) (v := ?_) rfl (by kernel_rfl) (by kernel_rfl) (by kernel_rfl) (fun _ _ _ h => h) (Or.inl ⟨by rfl, ?_⟩) HS0.out ?_
          case refine_2 => (intro w1 hS1; obtain ⟨⟨p0, p1, p2, p3, p4, p5, p6, p7, p8⟩, ⟨q0, q1, q2, q3, q4, q5, q6, q7, q8⟩⟩ := hS1; go_simp; try with_reducible rfl)
          try simp only [Act.put, List.setIfInBounds_toArray, List.set_cons_zero, List.set_cons_succ]
          refine wpAnyH_take (i := 5) (oi := { dst := some 21, op := Go.Op.move (Go.Operand.tmp 5), type := 3, pos := "slices.go:25", after := #[], guard := none }) (v := ?_) rfl (by kernel_rfl) (by kernel_rfl) (by kernel_rfl) (fun _ _ _ h => h) (Or.inl ⟨by rfl, ?_⟩) HS0.out ?_
          case refine_2 => (intro w1 hS1; obtain ⟨⟨p0, p1, p2, p3, p4, p5, p6, p7, p8⟩, ⟨q0, q1, q2, q3, q4, q5, q6, q7, q8⟩⟩ := hS1; go_simp; try with_reducible rfl)
          try simp only [Act.put, List.setIfInBounds_toArray, List.set_cons_zero, List.set_cons_succ]
          refine wpAnyH_take (i := 6) (oi := { dst := some 22, op := Go.Op.indexAddr 23 (Go.Operand.tmp 20) (Go.Operand.tmp 21), type := 0, pos := "slices.go:25", after := #[{ on := 4, ground := Go.Ground.data }, { on := 5, ground := Go.Ground.data }], guard := none }) (v := ?_) rfl (by kernel_rfl) (by kernel_rfl) (by kernel_rfl) (fun _ _ _ h => h) (Or.inl ⟨by rfl, ?_⟩) HS0.out ?_
          case refine_2 => (intro w1 hS1; obtain ⟨⟨p0, p1, p2, p3, p4, p5, p6, p7, p8⟩, ⟨q0, q1, q2, q3, q4, q5, q6, q7, q8⟩⟩ := hS1; go_simp; try with_reducible rfl)
          try simp only [Act.put, List.setIfInBounds_toArray, List.set_cons_zero, List.set_cons_succ]
          refine wpAnyH_take (i := 7) (oi := { dst := some 23, op := Go.Op.load 36 (Go.Operand.tmp 22), type := 36, pos := "slices.go:25", after := #[{ on := 6, ground := Go.Ground.data }], guard := none }) (v := ?_) rfl (by kernel_rfl) (by kernel_rfl) (by kernel_rfl) (fun _ _ _ h => h) (Or.inl ⟨by rfl, ?_⟩) HS0.out ?_
          case refine_2 => (intro w1 hS1; obtain ⟨⟨p0, p1, p2, p3, p4, p5, p6, p7, p8⟩, ⟨q0, q1, q2, q3, q4, q5, q6, q7, q8⟩⟩ := hS1; go_simp; try with_reducible rfl)
          try simp only [Act.put, List.setIfInBounds_toArray, List.set_cons_zero, List.set_cons_succ]
          refine wpAnyH_take (i := 8) (oi := { dst := some 24, op := Go.Op.binOp Go.BinOp.neq 36 (Go.Operand.tmp 19) (Go.Operand.tmp 23) 36, type := 4, pos := "slices.go:25", after := #[{ on := 3, ground := Go.Ground.data }, { on := 7, ground := Go.Ground.data }], guard := none }) (v := ?_) rfl (by kernel_rfl) (by kernel_rfl) (by kernel_rfl) (fun _ _ _ h => h) (Or.inl ⟨by rfl, ?_⟩) HS0.out ?_
          case refine_2 => (intro w1 hS1; obtain ⟨⟨p0, p1, p2, p3, p4, p5, p6, p7, p8⟩, ⟨q0, q1, q2, q3, q4, q5, q6, q7, q8⟩⟩ := hS1; go_simp; try with_reducible rfl)
          try simp only [Act.put, List.setIfInBounds_toArray, List.set_cons_zero, List.set_cons_succ]
          refine wpAnyH_done (by kernel_rfl) ?_ _
          go_wp2_with fail
          go_ret
          exact ⟨ret_bool (decide_eq_false (fun e => by have := HE.out.2 (HG.out.1 (by rw [e])); cases this)).symm, q + 1, rfl⟩
        · go_wp2_with fail
          refine wp_region_held_drew (S := (fun W : World => NtAt W ab (ao + k * 9) x ∧ NtAt W ab' (ao' + k * 9) y)) (by kernel_rfl) HS0.out (fun hHeld => ?_)
          clear hHeld
          refine wpAnyH_take (i := 0) (oi := { dst := some 16, op := Go.Op.move (Go.Operand.tmp 0), type := 23, pos := "slices.go:25", after := #[], guard := none }) (v := ?_) rfl (by kernel_rfl) (by kernel_rfl) (by kernel_rfl) (fun _ _ _ h => h) (Or.inl ⟨by rfl, ?_⟩) HS0.out ?_
          case refine_2 => (intro w1 hS1; obtain ⟨⟨p0, p1, p2, p3, p4, p5, p6, p7, p8⟩, ⟨q0, q1, q2, q3, q4, q5, q6, q7, q8⟩⟩ := hS1; go_simp; try with_reducible rfl)
          try simp only [Act.put, List.setIfInBounds_toArray, List.set_cons_zero, List.set_cons_succ]
          refine wpAnyH_take (i := 1) (oi := { dst := some 17, op := Go.Op.move (Go.Operand.tmp 5), type := 3, pos := "slices.go:25", after := #[], guard := none }) (v := ?_) rfl (by kernel_rfl) (by kernel_rfl) (by kernel_rfl) (fun _ _ _ h => h) (Or.inl ⟨by rfl, ?_⟩) HS0.out ?_
          case refine_2 => (intro w1 hS1; obtain ⟨⟨p0, p1, p2, p3, p4, p5, p6, p7, p8⟩, ⟨q0, q1, q2, q3, q4, q5, q6, q7, q8⟩⟩ := hS1; go_simp; try with_reducible rfl)
          try simp only [Act.put, List.setIfInBounds_toArray, List.set_cons_zero, List.set_cons_succ]
          refine wpAnyH_take (i := 2) (oi := { dst := some 18, op := Go.Op.indexAddr 23 (Go.Operand.tmp 16) (Go.Operand.tmp 17), type := 0, pos := "slices.go:25", after := #[{ on := 0, ground := Go.Ground.data }, { on := 1, ground := Go.Ground.data }], guard := none }) (v := ?_) rfl (by kernel_rfl) (by kernel_rfl) (by kernel_rfl) (fun _ _ _ h => h) (Or.inl ⟨by rfl, ?_⟩) HS0.out ?_
          case refine_2 => (intro w1 hS1; obtain ⟨⟨p0, p1, p2, p3, p4, p5, p6, p7, p8⟩, ⟨q0, q1, q2, q3, q4, q5, q6, q7, q8⟩⟩ := hS1; go_simp; try with_reducible rfl)
          try simp only [Act.put, List.setIfInBounds_toArray, List.set_cons_zero, List.set_cons_succ]
          refine wpAnyH_take (i := 3) (oi := { dst := some 19, op := Go.Op.load 36 (Go.Operand.tmp 18), type := 36, pos := "slices.go:25", after := #[{ on := 2, ground := Go.Ground.data }], guard := none }) (v := ?_) rfl (by kernel_rfl) (by kernel_rfl) (by kernel_rfl) (fun _ _ _ h => h) (Or.inl ⟨by rfl, ?_⟩) HS0.out ?_
          case refine_2 => (intro w1 hS1; obtain ⟨⟨p0, p1, p2, p3, p4, p5, p6, p7, p8⟩, ⟨q0, q1, q2, q3, q4, q5, q6, q7, q8⟩⟩ := hS1; go_simp; try with_reducible rfl)
          try simp only [Act.put, List.setIfInBounds_toArray, List.set_cons_zero, List.set_cons_succ]
          refine wpAnyH_take (i := 4) (oi := { dst := some 20, op := Go.Op.move (Go.Operand.tmp 1), type := 23, pos := "slices.go:25", after := #[], guard := none }) (v := ?_) rfl (by kernel_rfl) (by kernel_rfl) (by kernel_rfl) (fun _ _ _ h => h) (Or.inl ⟨by rfl, ?_⟩) HS0.out ?_
          case refine_2 => (intro w1 hS1; obtain ⟨⟨p0, p1, p2, p3, p4, p5, p6, p7, p8⟩, ⟨q0, q1, q2, q3, q4, q5, q6, q7, q8⟩⟩ := hS1; go_simp; try with_reducible rfl)
          try simp only [Act.put, List.setIfInBounds_toArray, List.set_cons_zero, List.set_cons_succ]
          refine wpAnyH_take (i := 5) (oi := { dst := some 21, op := Go.Op.move (Go.Operand.tmp 5), type := 3, pos := "slices.go:25", after := #[], guard := none }) (v := ?_) rfl (by kernel_rfl) (by kernel_rfl) (by kernel_rfl) (fun _ _ _ h => h) (Or.inl ⟨by rfl, ?_⟩) HS0.out ?_
          case refine_2 => (intro w1 hS1; obtain ⟨⟨p0, p1, p2, p3, p4, p5, p6, p7, p8⟩, ⟨q0, q1, q2, q3, q4, q5, q6, q7, q8⟩⟩ := hS1; go_simp; try with_reducible rfl)
          try simp only [Act.put, List.setIfInBounds_toArray, List.set_cons_zero, List.set_cons_succ]
          refine wpAnyH_take (i := 6) (oi := { dst := some 22, op := Go.Op.indexAddr 23 (Go.Operand.tmp 20) (Go.Operand.tmp 21), type := 0, pos := "slices.go:25", after := #[{ on := 4, ground := Go.Ground.data }, { on := 5, ground := Go.Ground.data }], guard := none }) (v := ?_) rfl (by kernel_rfl) (by kernel_rfl) (by kernel_rfl) (fun _ _ _ h => h) (Or.inl ⟨by rfl, ?_⟩) HS0.out ?_
          case refine_2 => (intro w1 hS1; obtain ⟨⟨p0, p1, p2, p3, p4, p5, p6, p7, p8⟩, ⟨q0, q1, q2, q3, q4, q5, q6, q7, q8⟩⟩ := hS1; go_simp; try with_reducible rfl)
          try simp only [Act.put, List.setIfInBounds_toArray, List.set_cons_zero, List.set_cons_succ]
          refine wpAnyH_take (i := 7) (oi := { dst := some 23, op := Go.Op.load 36 (Go.Operand.tmp 22), type := 36, pos := "slices.go:25", after := #[{ on := 6, ground := Go.Ground.data }], guard := none }) (v := ?_) rfl (by kernel_rfl) (by kernel_rfl) (by kernel_rfl) (fun _ _ _ h => h) (Or.inl ⟨by rfl, ?_⟩) HS0.out ?_
          case refine_2 => (intro w1 hS1; obtain ⟨⟨p0, p1, p2, p3, p4, p5, p6, p7, p8⟩, ⟨q0, q1, q2, q3, q4, q5, q6, q7, q8⟩⟩ := hS1; go_simp; try with_reducible rfl)
          try simp only [Act.put, List.setIfInBounds_toArray, List.set_cons_zero, List.set_cons_succ]
          refine wpAnyH_take (i := 8) (oi := { dst := some 24, op := Go.Op.binOp Go.BinOp.neq 36 (Go.Operand.tmp 19) (Go.Operand.tmp 23) 36, type := 4, pos := "slices.go:25", after := #[{ on := 3, ground := Go.Ground.data }, { on := 7, ground := Go.Ground.data }], guard := none }) (v := ?_) rfl (by kernel_rfl) (by kernel_rfl) (by kernel_rfl) (fun _ _ _ h => h) (Or.inl ⟨by rfl, ?_⟩) HS0.out ?_
          case refine_2 => (intro w1 hS1; obtain ⟨⟨p0, p1, p2, p3, p4, p5, p6, p7, p8⟩, ⟨q0, q1, q2, q3, q4, q5, q6, q7, q8⟩⟩ := hS1; go_simp; try with_reducible rfl)
          try simp only [Act.put, List.setIfInBounds_toArray, List.set_cons_zero, List.set_cons_succ]
          refine wpAnyH_done (by kernel_rfl) ?_ _
          go_wp2_with fail
          go_roundw
          case rel => exact ⟨k + 1, hlt, by first | rfl | (rw [hwk]; rfl) | go_num, Lib.hid (HG.out.2 (HE.out.1 (by trivial))), q + 1, rfl⟩
          case measure => simp [intOf]; omega
      · obtain rfl : k = n := by omega
        go_wp2
        go_ret
        refine ⟨ret_bool (decide_eq_true ?_).symm, q, rfl⟩
        have := hg.out
        rwa [List.take_of_length_le (by rw [HN.out]; exact Nat.le_refl _), List.take_of_length_le (by rw [← HL.out, HN.out]; exact Nat.le_refl _)] at this
  · have d : (((xs.length : Nat) : Int) != ((ys.length : Nat) : Int)) = true := by simp; omega
    have hne : xs ≠ ys := fun e => hl (by rw [e])
    have e : decide (xs = ys) = false := decide_eq_false hne
    rw [e]
    clear h h' hne e
    go_enter Try.func51, Try.ntmps51
    go_wp2
    go_ret
    exact ⟨rfl, 0, rfl⟩
end Go.Proofs.Ytnfpheccmjdpoaa

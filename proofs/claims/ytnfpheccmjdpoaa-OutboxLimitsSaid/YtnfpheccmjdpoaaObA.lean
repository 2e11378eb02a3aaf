/- The outbox: notices in memory, rows of them, which of them hold. -/
import Derived.Test.YtnfpheccmjdpoaaNbX
import Derived.Deep.LoopGhost
import Derived.Shelf.Abstract
namespace Go.Proofs.Ytnfpheccmjdpoaa
open Go.RowKit
structure Nt where
  (id tk lv pa st tr rt wt nx : Int)
def Nt.V (x : Nt) : Value := .agg #[.int .u64 x.id, .int .u64 x.tk, .int .i64 x.lv, .int .i64 x.pa, .int .i64 x.st, .int .i64 x.tr, .int .i64 x.rt, .int .i64 x.wt, .int .i64 x.nx]
def NtAt (w : World) (b o : Nat) (x : Nt) : Prop := w.cell? ⟨b, o, none⟩ = some (.int .u64 x.id) ∧ w.cell? ⟨b, o + 1, none⟩ = some (.int .u64 x.tk) ∧ w.cell? ⟨b, o + 2, none⟩ = some (.int .i64 x.lv) ∧ w.cell? ⟨b, o + 3, none⟩ = some (.int .i64 x.pa) ∧ w.cell? ⟨b, o + 4, none⟩ = some (.int .i64 x.st) ∧ w.cell? ⟨b, o + 5, none⟩ = some (.int .i64 x.tr) ∧ w.cell? ⟨b, o + 6, none⟩ = some (.int .i64 x.rt) ∧ w.cell? ⟨b, o + 7, none⟩ = some (.int .i64 x.wt) ∧ w.cell? ⟨b, o + 8, none⟩ = some (.int .i64 x.nx)
theorem NtAt.kept {w w' : World} {b o : Nat} {x : Nt} (h : NtAt w b o x) (e : w'.heap[b]? = w.heap[b]?) : NtAt w' b o x := by
  obtain ⟨q0, q1, q2, q3, q4, q5, q6, q7, q8⟩ := h
  exact ⟨(World.cell?_of_block (a := ⟨b, o, none⟩) e).trans q0, (World.cell?_of_block (a := ⟨b, o + 1, none⟩) e).trans q1, (World.cell?_of_block (a := ⟨b, o + 2, none⟩) e).trans q2, (World.cell?_of_block (a := ⟨b, o + 3, none⟩) e).trans q3, (World.cell?_of_block (a := ⟨b, o + 4, none⟩) e).trans q4, (World.cell?_of_block (a := ⟨b, o + 5, none⟩) e).trans q5, (World.cell?_of_block (a := ⟨b, o + 6, none⟩) e).trans q6, (World.cell?_of_block (a := ⟨b, o + 7, none⟩) e).trans q7, (World.cell?_of_block (a := ⟨b, o + 8, none⟩) e).trans q8⟩
theorem NtAt.lt {w : World} {b o : Nat} {x : Nt} (h : NtAt w b o x) : b < w.heap.size := (cell_spot h.1).2
theorem NtAt.below {w w' : World} {b o : Nat} {x : Nt} (h : NtAt w b o x) (hb : Below w.heap.size w w') : NtAt w' b o x := h.kept (hb.block b h.lt)
theorem nt_at0 {w : World} {b : Nat} {x : Nt} {t : TypeId} {c : Nat × Nat} (h : w.heap[b]? = some (.cells #[.int .u64 x.id, .int .u64 x.tk, .int .i64 x.lv, .int .i64 x.pa, .int .i64 x.st, .int .i64 x.tr, .int .i64 x.rt, .int .i64 x.wt, .int .i64 x.nx] t c)) : w.cell? ⟨b, 0, none⟩ = some (.int .u64 x.id) ∧ w.cell? ⟨b, 1, none⟩ = some (.int .u64 x.tk) ∧ w.cell? ⟨b, 2, none⟩ = some (.int .i64 x.lv) ∧ w.cell? ⟨b, 3, none⟩ = some (.int .i64 x.pa) ∧ w.cell? ⟨b, 4, none⟩ = some (.int .i64 x.st) ∧ w.cell? ⟨b, 5, none⟩ = some (.int .i64 x.tr) ∧ w.cell? ⟨b, 6, none⟩ = some (.int .i64 x.rt) ∧ w.cell? ⟨b, 7, none⟩ = some (.int .i64 x.wt) ∧ w.cell? ⟨b, 8, none⟩ = some (.int .i64 x.nx) := by
  refine ⟨?_, ?_, ?_, ?_, ?_, ?_, ?_, ?_, ?_⟩ <;> simp [World.cell?, h]
/-- A row of notices that can be read. -/
def NR (w : World) (a : Option Addr) (l : List Nt) : Prop := ∀ k (hk : k < l.length), ∃ b o, a = some ⟨b, o, none⟩ ∧ NtAt w b (o + k * 9) l[k]
theorem NR.below {w w' : World} {a : Option Addr} {l : List Nt} (h : NR w a l) (hb : Below w.heap.size w w') : NR w' a l := fun k hk => by
  obtain ⟨b, o, e, h1⟩ := h k hk
  exact ⟨b, o, e, h1.below hb⟩
theorem NR.nil (w : World) (a : Option Addr) : NR w a [] := fun k hk => absurd hk (by simp)
/-- What becomes of a notice's numbers. -/
def endN (x : Nt) : Bool := x.st != 1
def exhN (x : Nt) : Bool := decide (x.rt ≤ x.tr)
def reaN (now : Int) (x : Nt) : Bool := !endN x && decide (x.nx ≤ now)
set_option maxRecDepth 100000 in
set_option maxHeartbeats 8000000 in
theorem ended_any (x : Nt) (w : World) : Calls Try.prog 48 #[.agg #[.int .u64 x.id, .int .u64 x.tk, .int .i64 x.lv, .int .i64 x.pa, .int .i64 x.st, .int .i64 x.tr, .int .i64 x.rt, .int .i64 x.wt, .int .i64 x.nx]] w fun e w' => e = .returned (.bool (endN x)) ∧ Below w.heap.size w w' := by
  obtain ⟨B1, s0, -⟩ := box1 w #[.int .u64 x.id, .int .u64 x.tk, .int .i64 x.lv, .int .i64 x.pa, .int .i64 x.st, .int .i64 x.tr, .int .i64 x.rt, .int .i64 x.wt, .int .i64 x.nx] 36
  obtain ⟨q0, q1, q2, q3, q4, q5, q6, q7, q8⟩ := nt_at0 s0
  have HB := Lib.hid B1
  clear B1 s0
  go_enter Try.func48, Try.ntmps48
  go_wp2
  go_ret
  exact ⟨rfl, HB.out⟩
set_option maxRecDepth 100000 in
set_option maxHeartbeats 8000000 in
theorem exhausted_any (x : Nt) (w : World) : Calls Try.prog 50 #[.agg #[.int .u64 x.id, .int .u64 x.tk, .int .i64 x.lv, .int .i64 x.pa, .int .i64 x.st, .int .i64 x.tr, .int .i64 x.rt, .int .i64 x.wt, .int .i64 x.nx]] w fun e w' => e = .returned (.bool (exhN x)) ∧ Below w.heap.size w w' := by
  obtain ⟨B1, s0, -⟩ := box1 w #[.int .u64 x.id, .int .u64 x.tk, .int .i64 x.lv, .int .i64 x.pa, .int .i64 x.st, .int .i64 x.tr, .int .i64 x.rt, .int .i64 x.wt, .int .i64 x.nx] 36
  obtain ⟨q0, q1, q2, q3, q4, q5, q6, q7, q8⟩ := nt_at0 s0
  have HB := Lib.hid B1
  clear B1 s0
  go_enter Try.func50, Try.ntmps50
  go_wp2
  go_ret
  exact ⟨rfl, HB.out⟩
set_option maxRecDepth 100000 in
set_option maxHeartbeats 8000000 in
theorem reached_any (x : Nt) (now : Int) (w : World) : Calls Try.prog 53 #[.agg #[.int .u64 x.id, .int .u64 x.tk, .int .i64 x.lv, .int .i64 x.pa, .int .i64 x.st, .int .i64 x.tr, .int .i64 x.rt, .int .i64 x.wt, .int .i64 x.nx], .int .i64 now] w fun e w' => e = .returned (.bool (reaN now x)) ∧ Below w.heap.size w w' := by
  obtain ⟨B1, s0, -⟩ := box1 w #[.int .u64 x.id, .int .u64 x.tk, .int .i64 x.lv, .int .i64 x.pa, .int .i64 x.st, .int .i64 x.tr, .int .i64 x.rt, .int .i64 x.wt, .int .i64 x.nx] 36
  have HS := Lib.hid s0
  have HB := Lib.hid B1
  obtain ⟨q0, q1, q2, q3, q4, q5, q6, q7, q8⟩ := nt_at0 s0
  clear B1 s0
  go_enter Try.func53, Try.ntmps53
  go_wp2_with fail
  clear q0 q1 q2 q3 q4 q5 q6 q7 q8
  generalize w.alloc (.cells #[.int .u64 x.id, .int .u64 x.tk, .int .i64 x.lv, .int .i64 x.pa, .int .i64 x.st, .int .i64 x.tr, .int .i64 x.rt, .int .i64 x.wt, .int .i64 x.nx] 36) = w1 at HS HB ⊢
  refine (ended_any x w1).mono ?_
  rintro e w2 ⟨rfl, hb⟩
  have HB2 := Lib.hid (HB.out.trans (hb.mono HB.out.size))
  obtain ⟨q0, q1, q2, q3, q4, q5, q6, q7, q8⟩ := nt_at0 (ex_below HS.out hb)
  clear hb
  have HR : Hid (reaN now x = (!endN x && decide (x.nx ≤ now))) := Lib.hid rfl
  generalize endN x = z at HR ⊢
  cases z
  · go_wp2
    go_ret
    exact ⟨by rw [HR.out]; rfl, HB2.out⟩
  · go_wp2
    go_ret
    exact ⟨by rw [HR.out]; rfl, HB2.out⟩
set_option maxRecDepth 100000 in
set_option maxHeartbeats 8000000 in
theorem wait1_any (x : Nt) (w : World) : Calls Try.prog 47 #[.agg #[.int .u64 x.id, .int .u64 x.tk, .int .i64 x.lv, .int .i64 x.pa, .int .i64 x.st, .int .i64 x.tr, .int .i64 x.rt, .int .i64 x.wt, .int .i64 x.nx]] w fun e w' => e = .returned (.bool (!endN x)) ∧ Below w.heap.size w w' := by
  obtain ⟨B1, s0, -⟩ := box1 w #[.int .u64 x.id, .int .u64 x.tk, .int .i64 x.lv, .int .i64 x.pa, .int .i64 x.st, .int .i64 x.tr, .int .i64 x.rt, .int .i64 x.wt, .int .i64 x.nx] 36
  have HB := Lib.hid B1
  obtain ⟨q0, q1, q2, q3, q4, q5, q6, q7, q8⟩ := nt_at0 s0
  clear B1 s0
  go_enter Try.func47, Try.ntmps47
  go_wp2_with fail
  clear q0 q1 q2 q3 q4 q5 q6 q7 q8
  generalize w.alloc (.cells #[.int .u64 x.id, .int .u64 x.tk, .int .i64 x.lv, .int .i64 x.pa, .int .i64 x.st, .int .i64 x.tr, .int .i64 x.rt, .int .i64 x.wt, .int .i64 x.nx] 36) = w1 at HB ⊢
  refine (ended_any x w1).mono ?_
  rintro e w2 ⟨rfl, hb⟩
  have HB2 := Lib.hid (HB.out.trans (hb.mono HB.out.size))
  clear hb
  go_wp2
  go_ret
  exact ⟨rfl, HB2.out⟩
set_option maxRecDepth 100000 in
set_option maxHeartbeats 8000000 in
theorem tick1_any (x : Nt) (X : Nat) (now : Int) (w : World) (hc : w.cell? ⟨X, 0, none⟩ = some (.int .i64 now)) : Calls Try.prog 52 #[.agg #[.int .u64 x.id, .int .u64 x.tk, .int .i64 x.lv, .int .i64 x.pa, .int .i64 x.st, .int .i64 x.tr, .int .i64 x.rt, .int .i64 x.wt, .int .i64 x.nx], .pointer (some ⟨X, 0, none⟩)] w fun e w' => e = .returned (.bool (reaN now x && exhN x)) ∧ Below w.heap.size w w' := by
  obtain ⟨B1, s0, -⟩ := box1 w #[.int .u64 x.id, .int .u64 x.tk, .int .i64 x.lv, .int .i64 x.pa, .int .i64 x.st, .int .i64 x.tr, .int .i64 x.rt, .int .i64 x.wt, .int .i64 x.nx] 36
  have c0 := (B1.cell (p := ⟨X, 0, none⟩) (cell_spot hc).2).trans hc
  have HS := Lib.hid s0
  have HB := Lib.hid B1
  obtain ⟨q0, q1, q2, q3, q4, q5, q6, q7, q8⟩ := nt_at0 s0
  clear B1 s0 hc
  go_enter Try.func52, Try.ntmps52
  go_wp2_with fail
  clear q0 q1 q2 q3 q4 q5 q6 q7 q8 c0
  generalize w.alloc (.cells #[.int .u64 x.id, .int .u64 x.tk, .int .i64 x.lv, .int .i64 x.pa, .int .i64 x.st, .int .i64 x.tr, .int .i64 x.rt, .int .i64 x.wt, .int .i64 x.nx] 36) = w1 at HS HB ⊢
  refine (reached_any x now w1).mono ?_
  rintro e w2 ⟨rfl, hb⟩
  have HB2 := Lib.hid (HB.out.trans (hb.mono HB.out.size))
  obtain ⟨q0, q1, q2, q3, q4, q5, q6, q7, q8⟩ := nt_at0 (ex_below HS.out hb)
  clear hb
  obtain ⟨z, hz⟩ : ∃ z, reaN now x = z := ⟨_, rfl⟩
  rw [hz]
  have HZ := Lib.hid hz
  clear hz
  cases z
  · go_wp2
    go_ret
    exact ⟨by rw [HZ.out]; rfl, HB2.out⟩
  · go_wp2_with fail
    clear q0 q1 q2 q3 q4 q5 q6 q7 q8
    refine (exhausted_any x w2).mono ?_
    rintro e w3 ⟨rfl, hb⟩
    have HB3 := Lib.hid (HB2.out.trans (hb.mono HB2.out.size))
    clear hb
    go_wp2
    go_ret
    exact ⟨by rw [HZ.out]; rfl, HB3.out⟩
set_option maxRecDepth 100000 in
set_option maxHeartbeats 8000000 in
theorem find1_any (x : Nt) (X : Nat) (id : Int) (w : World) (hc : w.cell? ⟨X, 0, none⟩ = some (.int .u64 id)) : Calls Try.prog 69 #[.agg #[.int .u64 x.id, .int .u64 x.tk, .int .i64 x.lv, .int .i64 x.pa, .int .i64 x.st, .int .i64 x.tr, .int .i64 x.rt, .int .i64 x.wt, .int .i64 x.nx], .pointer (some ⟨X, 0, none⟩)] w fun e w' => e = .returned (.bool (x.id == id)) ∧ Below w.heap.size w w' := by
  obtain ⟨B1, s0, -⟩ := box1 w #[.int .u64 x.id, .int .u64 x.tk, .int .i64 x.lv, .int .i64 x.pa, .int .i64 x.st, .int .i64 x.tr, .int .i64 x.rt, .int .i64 x.wt, .int .i64 x.nx] 36
  have c0 := (B1.cell (p := ⟨X, 0, none⟩) (cell_spot hc).2).trans hc
  have HB := Lib.hid B1
  obtain ⟨q0, q1, q2, q3, q4, q5, q6, q7, q8⟩ := nt_at0 s0
  clear B1 s0 hc
  go_enter Try.func69, Try.ntmps69
  go_wp2
  go_ret
  exact ⟨rfl, HB.out⟩
/-- What a condition, handed on as a function, must be. -/
structure Cond (G : Nat) (cap : Array Value) (q : Nt → Bool) (w : World) : Prop where
  enter : ∀ args w, (callFunc G args).run Try.prog w = .ok (.enter G args) w
  calls : ∀ x W, Below w.heap.size w W → Calls Try.prog G (#[x.V] ++ cap) W fun e w' => e = .returned (.bool (q x)) ∧ Below W.heap.size W w'
theorem Cond.below {G : Nat} {cap : Array Value} {q : Nt → Bool} {w w' : World} (h : Cond G cap q w) (hb : Below w.heap.size w w') : Cond G cap q w' :=
  ⟨h.enter, fun x W hW => h.calls x W (hb.trans (hW.mono hb.size))⟩
theorem wait_cond (w : World) : Cond 47 #[] (fun x => !endN x) w := ⟨enters_of Try.func47 (by kernel_rfl) rfl, fun x W _ => wait1_any x W⟩
theorem ended_cond (w : World) : Cond 48 #[] endN w := ⟨enters_of Try.func48 (by kernel_rfl) rfl, fun x W _ => ended_any x W⟩
theorem tick_cond (X : Nat) (now : Int) (w : World) (hc : w.cell? ⟨X, 0, none⟩ = some (.int .i64 now)) : Cond 52 #[.pointer (some ⟨X, 0, none⟩)] (fun x => reaN now x && exhN x) w := ⟨enters_of Try.func52 (by kernel_rfl) rfl, fun x W hW => tick1_any x X now W ((hW.cell (p := ⟨X, 0, none⟩) (cell_spot hc).2).trans hc)⟩
theorem find_cond (X : Nat) (id : Int) (w : World) (hc : w.cell? ⟨X, 0, none⟩ = some (.int .u64 id)) : Cond 69 #[.pointer (some ⟨X, 0, none⟩)] (fun x => x.id == id) w := ⟨enters_of Try.func69 (by kernel_rfl) rfl, fun x W hW => find1_any x X id W ((hW.cell (p := ⟨X, 0, none⟩) (cell_spot hc).2).trans hc)⟩
end Go.Proofs.Ytnfpheccmjdpoaa

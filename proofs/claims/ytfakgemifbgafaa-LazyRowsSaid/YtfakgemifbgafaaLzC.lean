/- A cell of lazy over int64: create, Get, Made, Asked, New. -/
import Derived.Test.YtfakgemifbgafaaLzB
import Derived.Recover
namespace Go.Proofs.Ytfakgemifbgafaa
open Go.RowKit

/-- The deferred function of create, where nothing panicked: nothing is recovered. -/
theorem catch_idle (w : World) :
    CallsD Try.prog 79 #[] .returning w fun e u' w' => e = .returned (.tuple #[]) ∧ u' = .returning ∧ w = w' := by
  refine callsD_of_wpS Try.func79 rfl fun c₀ cs hu => ?_
  first | apply wpS_region | (apply wpS_seq; apply wpS_region)
  cases c₀
  simp_all [wpOpsS, go_sem, recoverD, Try.ntmps79, Exit.thenS, bodyPostS, results, Try.results79]

/-- A cell's seven words. -/
structure Cel (b : Nat) (f : Value) (d : Int) (v : Int) (m : Int) (n : Int) (w : World) : Prop where
  build : w.cell? ⟨b, 0, none⟩ = some f
  done : w.cell? ⟨b, 1, none⟩ = some (.int .u32 d)
  lock : w.cell? ⟨b, 2, none⟩ = some (.int .i32 0)
  value : w.cell? ⟨b, 4, none⟩ = some (.int .i64 v)
  made : w.cell? ⟨b, 5, none⟩ = some (.int .u32 m)
  asked : w.cell? ⟨b, 6, none⟩ = some (.int .i64 n)
  free : ∀ j, w.frozen? ⟨b, j, none⟩ = false

theorem nil_eql_nil (w : World) : (binOp .eql 28 .nilFunc .nilFunc).run Try.prog w = .ok (.bool true) w := by kernel_rfl
theorem fn_eql_nil (g : Fn) (a b : Array Value) (w : World) : (binOp .eql 28 (.func g a b) .nilFunc).run Try.prog w = .ok (.bool false) w := by kernel_rfl

/-- New: a new block. -/
theorem new_fn (g : Fn) (first cap : Array Value) (w : World) :
    Calls Try.prog 12 #[.func g first cap] w fun e w' => e = .returned (.pointer (some ⟨w.heap.size, 0, none⟩)) ∧
      w.alloc (.cells #[.func g first cap, .int .u32 0, .int .i32 0, .int .u32 0, .int .i64 0, .int .u32 0, .int .i64 0] 100) = w' := by
  go_enter Try.func12, Try.ntmps12
  go_wp2
  go_ret
  exact ⟨rfl, rfl⟩
theorem new_nil (w : World) :
    Calls Try.prog 12 #[.nilFunc] w fun e w' => e = .returned (.pointer (some ⟨w.heap.size, 0, none⟩)) ∧
      w.alloc (.cells #[.nilFunc, .int .u32 0, .int .i32 0, .int .u32 0, .int .i64 0, .int .u32 0, .int .i64 0] 100) = w' := by
  go_enter Try.func12, Try.ntmps12
  go_wp2
  go_ret
  exact ⟨rfl, rfl⟩

set_option maxRecDepth 100000 in
set_option maxHeartbeats 1600000 in
/-- create, where there is no function. -/
theorem create_nil (b : Nat) (x : Value) (w : World) (hb : w.cell? ⟨b, 0, none⟩ = some .nilFunc) (hm : w.cell? ⟨b, 5, none⟩ = some x) (hz : ∀ j, w.frozen? ⟨b, j, none⟩ = false) :
    Calls Try.prog 50 #[.pointer (some ⟨b, 0, none⟩)] w fun e w' => e = .returned (.tuple #[]) ∧
      ((w.setCell ⟨b, 5, none⟩ (.int .u32 1)).setCell ⟨b, 0, none⟩ .nilFunc).drew = w' := by
  have c0 : (w.drew.setCell ⟨b, 5, none⟩ (.int .u32 1)).cell? ⟨b, 0, none⟩ = some .nilFunc := (World.cell?_setCell_other _ ⟨b, 5, none⟩ ⟨b, 0, none⟩ _ (by simp)).trans hb
  have z0 : (w.drew.setCell ⟨b, 5, none⟩ (.int .u32 1)).frozen? ⟨b, 0, none⟩ = false := by have := hz 0; simp [this]
  have q0 := nil_eql_nil
  have q1 := fn_eql_nil
  go_enter_defers Try.func50, Try.ntmps50
  go_wp2_with (first
    | (go_at_call 78; refine (store_true ⟨b, 5, none⟩ x _ (by go_simp) (by go_simp)).mono ?_; rintro e w' ⟨rfl, rfl⟩))
  exact ⟨_, results_none rfl _ _ _, rfl, rfl⟩

set_option maxRecDepth 100000 in
set_option maxHeartbeats 1600000 in
/-- create, with a function. -/
theorem create_fn (G : Nat) (cap : Array Value) (b : Nat) (x y : Value) (v : Int) (w : World) (R : World → Prop) (he : ∀ w : World, (callFunc G cap).run Try.prog w = .ok (.enter G cap) w) (hb : w.cell? ⟨b, 0, none⟩ = some (.func (.func G) #[] cap)) (hm : w.cell? ⟨b, 5, none⟩ = some x) (hz : ∀ j, w.frozen? ⟨b, j, none⟩ = false)
    (hG : Calls Try.prog G cap ((w.setCell ⟨b, 5, none⟩ (.int .u32 1)).setCell ⟨b, 0, none⟩ .nilFunc).drew fun e w' => e = .returned (.int .i64 v) ∧ w'.cell? ⟨b, 4, none⟩ = some y ∧ w'.frozen? ⟨b, 4, none⟩ = false ∧ R w') :
    Calls Try.prog 50 #[.pointer (some ⟨b, 0, none⟩)] w fun e w' => e = .returned (.tuple #[]) ∧
      ∃ w2, R w2 ∧ w2.setCell ⟨b, 4, none⟩ (.int .i64 v) = w' := by
  have c0 : (w.drew.setCell ⟨b, 5, none⟩ (.int .u32 1)).cell? ⟨b, 0, none⟩ = some (.func (.func G) #[] cap) := (World.cell?_setCell_other _ ⟨b, 5, none⟩ ⟨b, 0, none⟩ _ (by simp)).trans hb
  have z0 : (w.drew.setCell ⟨b, 5, none⟩ (.int .u32 1)).frozen? ⟨b, 0, none⟩ = false := by have := hz 0; simp [this]
  have hmf : ∀ (fn : Fn) (first cap : Array Value) (w : World), (Instr.makeFunc fn first cap).run Try.prog w = .ok (.func fn first cap) w := fun _ _ _ _ => rfl
  have q0 := nil_eql_nil
  have q1 := fn_eql_nil
  go_enter_defers Try.func50, Try.ntmps50
  go_wp2_with (first
    | (go_at_call 78; refine (store_true ⟨b, 5, none⟩ x _ (by go_simp) (by go_simp)).mono ?_; rintro e w' ⟨rfl, rfl⟩)
    | (refine Calls.mono hG ?_; rintro e w' ⟨rfl, h4, z4, hR⟩))
  refine leaves_cons (f := 79) (args := #[]) (by simp) (by simp [go_sem]) ?_
  refine (catch_idle _).mono ?_
  rintro e u' w'' ⟨rfl, rfl, rfl⟩
  simp only [Leaves, settle]
  exact ⟨_, results_none rfl _ _ _, rfl, _, hR, rfl⟩

theorem made_any (b : Nat) (m : Int) (w : World) (hc : w.cell? ⟨b, 5, none⟩ = some (.int .u32 m)) :
    Calls Try.prog 15 #[.pointer (some ⟨b, 0, none⟩)] w fun e w' => e = .returned (.bool (m != 0)) ∧ w = w' := by
  go_enter Try.func15, Try.ntmps15
  go_wp2_with (go_at_call 51; refine (load_bool ⟨b, 5, none⟩ m w hc).mono ?_; rintro e w' ⟨rfl, rfl⟩)
  go_ret
  exact ⟨rfl, rfl⟩
theorem asked_any (b : Nat) (n : Int) (w : World) (hc : w.cell? ⟨b, 6, none⟩ = some (.int .i64 n)) :
    Calls Try.prog 47 #[.pointer (some ⟨b, 0, none⟩)] w fun e w' => e = .returned (.int .i64 n) ∧ w = w' := by
  go_enter Try.func47, Try.ntmps47
  go_wp2_with (go_at_call 54; refine (load_int ⟨b, 6, none⟩ n w hc).mono ?_; rintro e w' ⟨rfl, rfl⟩)
  go_ret
  exact ⟨rfl, rfl⟩
end Go.Proofs.Ytfakgemifbgafaa

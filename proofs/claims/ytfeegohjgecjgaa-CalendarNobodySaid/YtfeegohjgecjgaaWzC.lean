/- A cell of lazy over rows of int64: create, Get, Made, Asked, New. -/
import Derived.Test.YtfeegohjgecjgaaWzB
import Derived.Recover
namespace Go.Proofs.Ytfeegohjgecjgaa
open Go.RowKit

/-- The deferred function of create, where nothing panicked: nothing is recovered. -/
theorem catch_idle (w : World) :
    CallsD Try.prog 104 #[] .returning w fun e u' w' => e = .returned (.tuple #[]) ∧ u' = .returning ∧ w = w' := by
  refine callsD_of_wpS Try.func104 rfl fun c₀ cs hu => ?_
  first | apply wpS_region | (apply wpS_seq; apply wpS_region)
  cases c₀
  simp_all [wpOpsS, go_sem, recoverD, Try.ntmps104, Exit.thenS, bodyPostS, results, Try.results104]

/-- A cell's seven words. -/
structure Cel (b : Nat) (f : Value) (d : Int) (v : Value) (m : Int) (n : Int) (w : World) : Prop where
  build : w.cell? ⟨b, 0, none⟩ = some f
  done : w.cell? ⟨b, 1, none⟩ = some (.int .u32 d)
  lock : w.cell? ⟨b, 2, none⟩ = some (.int .i32 0)
  value : w.cell? ⟨b, 4, none⟩ = some v
  made : w.cell? ⟨b, 5, none⟩ = some (.int .u32 m)
  asked : w.cell? ⟨b, 6, none⟩ = some (.int .i64 n)
  free : ∀ j, w.frozen? ⟨b, j, none⟩ = false

theorem nil_eql_nil (w : World) : (binOp .eql 105 .nilFunc .nilFunc).run Try.prog w = .ok (.bool true) w := by kernel_rfl
theorem fn_eql_nil (g : Fn) (a b : Array Value) (w : World) : (binOp .eql 105 (.func g a b) .nilFunc).run Try.prog w = .ok (.bool false) w := by kernel_rfl

/-- New: a new block. -/
theorem new_fn (g : Fn) (first cap : Array Value) (w : World) :
    Calls Try.prog 78 #[.func g first cap] w fun e w' => e = .returned (.pointer (some ⟨w.heap.size, 0, none⟩)) ∧
      w.alloc (.cells #[.func g first cap, .int .u32 0, .int .i32 0, .int .u32 0, .slice none 0 0, .int .u32 0, .int .i64 0] 131) = w' := by
  go_enter Try.func78, Try.ntmps78
  go_wp2
  go_ret
  exact ⟨rfl, rfl⟩
/-- What create leaves behind: the value lies in the cell. -/
def Made (b vn : Nat) (R : Option Addr → Nat → World → Prop) (e : Ending) (w' : World) : Prop := e = .returned (.tuple #[]) ∧ ∃ va vc w2, R va vc w2 ∧ w2.setCell ⟨b, 4, none⟩ (.slice va vn vc) = w'
set_option maxRecDepth 100000 in
set_option maxHeartbeats 1600000 in
/-- create, with a function. -/
theorem create_fn (G : Nat) (pl : Addr) (b : Nat) (x y : Value) (vn : Nat) (w : World) (R : Option Addr → Nat → World → Prop) (he : ∀ w : World, (callFunc G #[.pointer (some pl)]).run Try.prog w = .ok (.enter G #[.pointer (some pl)]) w) (hb : w.cell? ⟨b, 0, none⟩ = some (.func (.func G) #[.pointer (some pl)] #[])) (hm : w.cell? ⟨b, 5, none⟩ = some x) (hz : ∀ j, w.frozen? ⟨b, j, none⟩ = false)
    (hG : Calls Try.prog G #[.pointer (some pl)] ((w.setCell ⟨b, 5, none⟩ (.int .u32 1)).setCell ⟨b, 0, none⟩ .nilFunc).drew fun e w' => ∃ va vc, e = .returned (.slice va vn vc) ∧ w'.cell? ⟨b, 4, none⟩ = some y ∧ w'.frozen? ⟨b, 4, none⟩ = false ∧ R va vc w') :
    Calls Try.prog 94 #[.pointer (some ⟨b, 0, none⟩)] w (Made b vn R) := by
  have c0 : (w.drew.setCell ⟨b, 5, none⟩ (.int .u32 1)).cell? ⟨b, 0, none⟩ = some (.func (.func G) #[.pointer (some pl)] #[]) := (World.cell?_setCell_other _ ⟨b, 5, none⟩ ⟨b, 0, none⟩ _ (by simp)).trans hb
  have z0 : (w.drew.setCell ⟨b, 5, none⟩ (.int .u32 1)).frozen? ⟨b, 0, none⟩ = false := by have := hz 0; simp [this]
  have hmf : ∀ (fn : Fn) (first cap : Array Value) (w : World), (Instr.makeFunc fn first cap).run Try.prog w = .ok (.func fn first cap) w := fun _ _ _ _ => rfl
  have q0 := nil_eql_nil
  have q1 := fn_eql_nil
  go_enter_defers Try.func94, Try.ntmps94
  go_wp2_with (first
    | (go_at_call 103; refine (store_true ⟨b, 5, none⟩ x _ (by go_simp) (by go_simp)).mono ?_; rintro e w' ⟨rfl, rfl⟩)
    | (refine Calls.mono hG ?_; rintro e w' ⟨va, vc, rfl, h4, z4, hR⟩))
  refine leaves_cons (f := 104) (args := #[]) (by simp) (by simp [go_sem]) ?_
  refine (catch_idle _).mono ?_
  rintro e u' w'' ⟨rfl, rfl, rfl⟩
  simp only [Leaves, settle]
  exact ⟨_, results_none rfl _ _ _, rfl, _, _, _, hR, rfl⟩

end Go.Proofs.Ytfeegohjgecjgaa

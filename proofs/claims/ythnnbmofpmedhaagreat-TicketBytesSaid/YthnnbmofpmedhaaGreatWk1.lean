import Derived.Test.YthnnbmofpmedhaaGreatLzA
import Derived.Outline
import Derived.Recover
import Derived.Test.YthnnbmofpmedhaaGreatOw1
import Derived.Test.YthnnbmofpmedhaaGreatSp1
import Derived.Lib.MinMax
import Derived.StillTailTactics
import Derived.Deep.RegionLaw
import Derived.IntWalk
import Derived.Deep.RegionHeld3
namespace Go.Proofs.YthnnbmofpmedhaaGreat
open Go.RowKit
/- sync.Once over a cell of lazy: the slow road with the call of create as a hypothesis, and Do. -/
open Go.RowKit

/-- What the function that Once calls leaves behind: Once's own words are as they were. -/
structure Held (b o : Nat) (w : World) : Prop where
  d : w.cell? ⟨b, o, none⟩ = some (.int .u32 0)
  l : w.cell? ⟨b, o + 1, none⟩ = some (.int .i32 1)
  fd : w.frozen? ⟨b, o, none⟩ = false
  fl : w.frozen? ⟨b, o + 1, none⟩ = false

set_option maxRecDepth 100000 in
set_option maxHeartbeats 1600000 in
theorem slow_any (b o : Nat) (pc : Addr) (w : World) (R : World → Prop)
    (h0 : w.cell? ⟨b, o, none⟩ = some (.int .u32 0)) (h1 : w.cell? ⟨b, o + 1, none⟩ = some (.int .i32 0))
    (f0 : w.frozen? ⟨b, o, none⟩ = false) (f1 : w.frozen? ⟨b, o + 1, none⟩ = false)
    (hF : Calls Tryz.prog 101 #[.pointer (some pc)] (w.setCell ⟨b, o + 1, none⟩ (.int .i32 1)) fun e w' => e = .returned (.tuple #[]) ∧ Held b o w' ∧ R w') :
    Calls Tryz.prog 109 #[.pointer (some ⟨b, o, none⟩), .func (.func 101) #[.pointer (some pc)] #[]] w fun e w' => e = .returned (.tuple #[]) ∧
      ∃ w2, R w2 ∧ Held b o w2 ∧ w' = (w2.drew.setCell ⟨b, o, none⟩ (.int .u32 1)).setCell ⟨b, o + 1, none⟩ (.int .i32 0) := by
  have hl := load_bool ⟨b, o, none⟩ 0 (w.setCell ⟨b, o + 1, none⟩ (.int .i32 1)) ((World.cell?_setCell_other _ ⟨b, o + 1, none⟩ ⟨b, o, none⟩ _ (by simp)).trans h0)
  have hnot : ∀ (x : Bool) (w : World), (Op.unary .not (.bool x)).run Tryz.prog w = .ok (.bool (!x)) w := fun _ _ => rfl
  go_enter_defers Tryz.func109, Tryz.ntmps109
  go_wp2_with (first
    | (go_at_call 115; refine (lock_free ⟨b, o + 1, none⟩ _ (by go_simp) (by go_simp)).mono ?_; rintro e w' ⟨rfl, rfl⟩)
    | (go_at_call 108; refine hl.mono ?_; rintro e w' ⟨rfl, rfl⟩)
    | (go_at_call 101; refine hF.mono ?_; rintro e w' ⟨rfl, hH, hR⟩))
  refine leaves_cons (f := 110) (args := #[.pointer (some ⟨b, o, none⟩), .bool true]) (by simp) (by simp [go_sem]) ?_
  refine (store_deferred ⟨b, o, none⟩ (.int .u32 0) .returning _ hH.d hH.fd).mono ?_
  rintro e u' w'' ⟨rfl, rfl, rfl⟩
  refine leaves_cons (f := 116) (args := #[.pointer (some ⟨b, o + 1, none⟩)]) (by simp [settle]) (by simp [go_sem]) ?_
  refine (unlock_deferred ⟨b, o + 1, none⟩ _ _ ?_ (by simp [hH.fl])).mono ?_
  · refine (World.cell?_setCell_other _ ⟨b, o, none⟩ ⟨b, o + 1, none⟩ _ (by simp)).trans ?_
    rw [World.cell?_drew]
    exact hH.l
  rintro e u' w'' ⟨rfl, rfl, rfl⟩
  simp only [Leaves, settle]
  exact ⟨_, results_none rfl _ _ _, rfl, w', hR, hH, rfl⟩

set_option maxRecDepth 100000 in
set_option maxHeartbeats 1600000 in
/-- Do, not yet done, the lock free. -/
theorem do_first (b o : Nat) (pc : Addr) (w : World) (R : World → Prop)
    (h0 : w.cell? ⟨b, o, none⟩ = some (.int .u32 0)) (h1 : w.cell? ⟨b, o + 1, none⟩ = some (.int .i32 0))
    (f0 : w.frozen? ⟨b, o, none⟩ = false) (f1 : w.frozen? ⟨b, o + 1, none⟩ = false)
    (hF : Calls Tryz.prog 101 #[.pointer (some pc)] (w.setCell ⟨b, o + 1, none⟩ (.int .i32 1)) fun e w' => e = .returned (.tuple #[]) ∧ Held b o w' ∧ R w') :
    Calls Tryz.prog 100 #[.pointer (some ⟨b, o, none⟩), .func (.func 101) #[.pointer (some pc)] #[]] w fun e w' => e = .returned (.tuple #[]) ∧
      ∃ w2, R w2 ∧ Held b o w2 ∧ w' = (w2.drew.setCell ⟨b, o, none⟩ (.int .u32 1)).setCell ⟨b, o + 1, none⟩ (.int .i32 0) := by
  have hl := load_bool ⟨b, o, none⟩ 0 w h0
  have hnot : ∀ (x : Bool) (w : World), (Op.unary .not (.bool x)).run Tryz.prog w = .ok (.bool (!x)) w := fun _ _ => rfl
  go_enter Tryz.func100, Tryz.ntmps100
  go_wp2_with (first
    | (go_at_call 109; refine (slow_any b o pc w R h0 h1 f0 f1 hF).mono ?_; rintro e w' ⟨rfl, hE⟩)
    | (go_at_call 108; refine hl.mono ?_; rintro e w' ⟨rfl, rfl⟩))
  go_end0
  exact ⟨rfl, hE⟩

/-- Do, done already: nothing is called. -/
theorem do_done (a : Addr) (fv : Value) (w : World) (h0 : w.cell? a = some (.int .u32 1)) :
    Calls Tryz.prog 100 #[.pointer (some a), fv] w fun e w' => e = .returned (.tuple #[]) ∧ w = w' := by
  have hl := load_bool a 1 w h0
  have hnot : ∀ (x : Bool) (w : World), (Op.unary .not (.bool x)).run Tryz.prog w = .ok (.bool (!x)) w := fun _ _ => rfl
  go_enter Tryz.func100, Tryz.ntmps100
  go_wp2_with (go_at_call 108; refine hl.mono ?_; rintro e w' ⟨rfl, rfl⟩)
  go_end0
  exact ⟨rfl, rfl⟩
/- A cell of lazy over rows of int64: create, Get, Made, Asked, New. -/
open Go.RowKit

/-- The deferred function of create, where nothing panicked: nothing is recovered. -/
theorem catch_idle (w : World) :
    CallsD Tryz.prog 111 #[] .returning w fun e u' w' => e = .returned (.tuple #[]) ∧ u' = .returning ∧ w = w' := by
  refine callsD_of_wpS Tryz.func111 rfl fun c₀ cs hu => ?_
  first | apply wpS_region | (apply wpS_seq; apply wpS_region)
  cases c₀
  simp_all [wpOpsS, go_sem, recoverD, Tryz.ntmps111, Exit.thenS, bodyPostS, results, Tryz.results111]

/-- A cell's seven words. -/
structure Cel (b : Nat) (f : Value) (d : Int) (v : Value) (m : Int) (n : Int) (w : World) : Prop where
  build : w.cell? ⟨b, 0, none⟩ = some f
  done : w.cell? ⟨b, 1, none⟩ = some (.int .u32 d)
  lock : w.cell? ⟨b, 2, none⟩ = some (.int .i32 0)
  value : w.cell? ⟨b, 4, none⟩ = some v
  made : w.cell? ⟨b, 5, none⟩ = some (.int .u32 m)
  asked : w.cell? ⟨b, 6, none⟩ = some (.int .i64 n)
  free : ∀ j, w.frozen? ⟨b, j, none⟩ = false

theorem nil_eql_nil (w : World) : (binOp .eql 137 .nilFunc .nilFunc).run Tryz.prog w = .ok (.bool true) w := by kernel_rfl
theorem fn_eql_nil (g : Fn) (a b : Array Value) (w : World) : (binOp .eql 137 (.func g a b) .nilFunc).run Tryz.prog w = .ok (.bool false) w := by kernel_rfl

/-- New: a new block. -/
theorem new_fn (g : Fn) (first cap : Array Value) (w : World) :
    Calls Tryz.prog 80 #[.func g first cap] w fun e w' => e = .returned (.pointer (some ⟨w.heap.size, 0, none⟩)) ∧
      w.alloc (.cells #[.func g first cap, .int .u32 0, .int .i32 0, .int .u32 0, .slice none 0 0, .int .u32 0, .int .i64 0] 163) = w' := by
  go_enter Tryz.func80, Tryz.ntmps80
  go_wp2
  go_ret
  exact ⟨rfl, rfl⟩
/-- What create leaves behind: the value lies in the cell. -/
def Made (b vn : Nat) (R : Option Addr → Nat → World → Prop) (e : Ending) (w' : World) : Prop := e = .returned (.tuple #[]) ∧ ∃ va vc w2, R va vc w2 ∧ w2.setCell ⟨b, 4, none⟩ (.slice va vn vc) = w'
set_option maxRecDepth 100000 in
set_option maxHeartbeats 1600000 in
/-- create, with a function. -/
theorem create_fn (G : Nat) (pl : Addr) (b : Nat) (x y : Value) (vn : Nat) (w : World) (R : Option Addr → Nat → World → Prop) (he : ∀ w : World, (callFunc G #[.pointer (some pl)]).run Tryz.prog w = .ok (.enter G #[.pointer (some pl)]) w) (hb : w.cell? ⟨b, 0, none⟩ = some (.func (.func G) #[.pointer (some pl)] #[])) (hm : w.cell? ⟨b, 5, none⟩ = some x) (hz : ∀ j, w.frozen? ⟨b, j, none⟩ = false)
    (hG : Calls Tryz.prog G #[.pointer (some pl)] ((w.setCell ⟨b, 5, none⟩ (.int .u32 1)).setCell ⟨b, 0, none⟩ .nilFunc).drew fun e w' => ∃ va vc, e = .returned (.slice va vn vc) ∧ w'.cell? ⟨b, 4, none⟩ = some y ∧ w'.frozen? ⟨b, 4, none⟩ = false ∧ R va vc w') :
    Calls Tryz.prog 101 #[.pointer (some ⟨b, 0, none⟩)] w (Made b vn R) := by
  have c0 : (w.drew.setCell ⟨b, 5, none⟩ (.int .u32 1)).cell? ⟨b, 0, none⟩ = some (.func (.func G) #[.pointer (some pl)] #[]) := (World.cell?_setCell_other _ ⟨b, 5, none⟩ ⟨b, 0, none⟩ _ (by simp)).trans hb
  have z0 : (w.drew.setCell ⟨b, 5, none⟩ (.int .u32 1)).frozen? ⟨b, 0, none⟩ = false := by have := hz 0; simp [this]
  have hmf : ∀ (fn : Fn) (first cap : Array Value) (w : World), (Instr.makeFunc fn first cap).run Tryz.prog w = .ok (.func fn first cap) w := fun _ _ _ _ => rfl
  have q0 := nil_eql_nil
  have q1 := fn_eql_nil
  go_enter_defers Tryz.func101, Tryz.ntmps101
  go_wp2_with (first
    | (go_at_call 110; refine (store_true ⟨b, 5, none⟩ x _ (by go_simp) (by go_simp)).mono ?_; rintro e w' ⟨rfl, rfl⟩)
    | (refine Calls.mono hG ?_; rintro e w' ⟨va, vc, rfl, h4, z4, hR⟩))
  refine leaves_cons (f := 111) (args := #[]) (by simp) (by simp [go_sem]) ?_
  refine (catch_idle _).mono ?_
  rintro e u' w'' ⟨rfl, rfl, rfl⟩
  simp only [Leaves, settle]
  exact ⟨_, results_none rfl _ _ _, rfl, _, _, _, hR, rfl⟩

/- Get of a cell of lazy over rows of int64. -/
open Go.RowKit

theorem Cel.of_block {b : Nat} {f v : Value} {d m n : Int} {w w' : World} (C : Cel b f d v m n w) (h : w'.heap[b]? = w.heap[b]?) : Cel b f d v m n w' :=
  ⟨(World.cell?_of_block (a := ⟨b, 0, none⟩) h).trans C.build, (World.cell?_of_block (a := ⟨b, 1, none⟩) h).trans C.done, (World.cell?_of_block (a := ⟨b, 2, none⟩) h).trans C.lock,
   (World.cell?_of_block (a := ⟨b, 4, none⟩) h).trans C.value, (World.cell?_of_block (a := ⟨b, 5, none⟩) h).trans C.made, (World.cell?_of_block (a := ⟨b, 6, none⟩) h).trans C.asked,
   fun j => (World.frozen?_of_block (a := ⟨b, j, none⟩) h).trans (C.free j)⟩

/-- The world in which the cell's function is called. -/
def atBuild (b : Nat) (n1 : Int) (w : World) : World :=
  ((((w.setCell ⟨b, 6, none⟩ (.int .i64 n1)).setCell ⟨b, 2, none⟩ (.int .i32 1)).setCell ⟨b, 5, none⟩ (.int .u32 1)).setCell ⟨b, 0, none⟩ .nilFunc).drew
theorem atBuild_only (b : Nat) (n1 : Int) (w : World) : Only (· = b) w (atBuild b n1 w) :=
  (((((Only.refl (fun k => k = b) w).setCell ⟨b, 6, none⟩ _ rfl).setCell ⟨b, 2, none⟩ _ rfl).setCell ⟨b, 5, none⟩ _ rfl).setCell ⟨b, 0, none⟩ _ rfl).drew
theorem atBuild_size (b : Nat) (n1 : Int) (w : World) : (atBuild b n1 w).heap.size = w.heap.size := by simp [atBuild]

/-- What the first Get leaves behind. -/
def GotRow (b vn : Nat) (n1 : Int) (R : Option Addr → Nat → World → Prop) (e : Ending) (w' : World) : Prop := ∃ va vc, e = .returned (.slice va vn vc) ∧ Cel b .nilFunc 1 (.slice va vn vc) 1 n1 w' ∧ ∃ w2, R va vc w2 ∧ Only (· = b) w2 w' ∧ w'.heap.size = w2.heap.size
set_option maxRecDepth 100000 in
set_option maxHeartbeats 1600000 in
/-- The first Get: the function's value is laid, and handed back. -/
theorem get_fn (G : Nat) (pl : Addr) (b : Nat) (v0 : Value) (vn : Nat) (m n n1 : Int) (w : World) (R : Option Addr → Nat → World → Prop) (hs : wrap64 (n + 1) = n1)
    (he : ∀ w : World, (callFunc G #[.pointer (some pl)]).run Tryz.prog w = .ok (.enter G #[.pointer (some pl)]) w) (C : Cel b (.func (.func G) #[.pointer (some pl)] #[]) 0 v0 m n w)
    (hG : Calls Tryz.prog G #[.pointer (some pl)] (atBuild b n1 w) fun e w' => ∃ va vc, e = .returned (.slice va vn vc) ∧ w'.heap[b]? = (atBuild b n1 w).heap[b]? ∧ R va vc w') :
    Calls Tryz.prog 83 #[.pointer (some ⟨b, 0, none⟩)] w (GotRow b vn n1 R) := by
  obtain ⟨c0, c1, c2, c4, c5, c6, cz⟩ := C
  have z0 := cz 0; have z1 := cz 1; have z2 := cz 2; have z4 := cz 4; have z5 := cz 5; have z6 := cz 6
  -- the cell's words in the world of the function's call, and behind it
  have B : ∀ w' : World, w'.heap[b]? = (atBuild b n1 w).heap[b]? → w'.cell? ⟨b, 0, none⟩ = some .nilFunc ∧ w'.cell? ⟨b, 1, none⟩ = some (.int .u32 0) ∧ w'.cell? ⟨b, 2, none⟩ = some (.int .i32 1) ∧ w'.cell? ⟨b, 4, none⟩ = some v0 ∧
      w'.cell? ⟨b, 5, none⟩ = some (.int .u32 1) ∧ w'.cell? ⟨b, 6, none⟩ = some (.int .i64 n1) ∧ ∀ j, w'.frozen? ⟨b, j, none⟩ = false := by
    intro w' hk
    refine ⟨(World.cell?_of_block (a := ⟨b, 0, none⟩) hk).trans ?_, (World.cell?_of_block (a := ⟨b, 1, none⟩) hk).trans ?_, (World.cell?_of_block (a := ⟨b, 2, none⟩) hk).trans ?_, (World.cell?_of_block (a := ⟨b, 4, none⟩) hk).trans ?_,
      (World.cell?_of_block (a := ⟨b, 5, none⟩) hk).trans ?_, (World.cell?_of_block (a := ⟨b, 6, none⟩) hk).trans ?_, fun j => (World.frozen?_of_block (a := ⟨b, j, none⟩) hk).trans ?_⟩ <;> unfold atBuild
    all_goals first | go_simp | simp [cz]
  have c := create_fn G pl b (.int .u32 m) v0 vn ((w.setCell ⟨b, 6, none⟩ (.int .i64 n1)).setCell ⟨b, 2, none⟩ (.int .i32 1)) (fun va vc w' => w'.heap[b]? = (atBuild b n1 w).heap[b]? ∧ R va vc w') he
    (by go_simp) (by go_simp) (by intro j; simp [cz]) (hG.mono fun e w' ⟨va, vc, h1, h2, h3⟩ => ⟨va, vc, h1, (B w' h2).2.2.2.1, (B w' h2).2.2.2.2.2.2 4, h2, h3⟩)
  have hF := c.mono (R' := fun e w' => e = .returned (.tuple #[]) ∧ Held b 1 w' ∧ (∃ va vc, (w'.cell? ⟨b, 0, none⟩ = some .nilFunc ∧ w'.cell? ⟨b, 4, none⟩ = some (.slice va vn vc) ∧ w'.cell? ⟨b, 5, none⟩ = some (.int .u32 1) ∧ w'.cell? ⟨b, 6, none⟩ = some (.int .i64 n1) ∧ ∀ j, w'.frozen? ⟨b, j, none⟩ = false) ∧
      ∃ w2, R va vc w2 ∧ Only (· = b) w2 w' ∧ w'.heap.size = w2.heap.size))
    (by
      rintro e w' ⟨h1, va, vc, w2, ⟨hk, hR⟩, rfl⟩
      obtain ⟨k0, k1, k2, k4, k5, k6, kz⟩ := B w2 hk
      exact ⟨h1, ⟨by go_simp, by go_simp, by simp [kz], by simp [kz]⟩, va, vc, ⟨by go_simp, by go_simp, by go_simp, by go_simp, by intro j; simp [kz]⟩, w2, hR, (Only.refl (fun k => k = b) w2).setCell ⟨b, 4, none⟩ _ rfl, by simp⟩)
  have hd := do_first b 1 ⟨b, 0, none⟩ (w.setCell ⟨b, 6, none⟩ (.int .i64 n1)) _ (by go_simp) (by go_simp) (by simp [cz]) (by simp [cz]) hF
  have hmf : ∀ (fn : Fn) (first cap : Array Value) (w : World), (Instr.makeFunc fn first cap).run Tryz.prog w = .ok (.func fn first cap) w := fun _ _ _ _ => rfl
  go_enter Tryz.func83, Tryz.ntmps83
  go_wp2_with (first
    | (go_at_call 99; refine (add_int ⟨b, 6, none⟩ n 1 n1 hs _ c6 z6).mono ?_; rintro e w' ⟨rfl, rfl⟩)
    | (go_at_call 100; refine hd.mono ?_; rintro e w' ⟨rfl, w3, ⟨va, vc, ⟨k0, k4, k5, k6, kz⟩, w2, hR, hO, hsz⟩, ⟨k1, k2, _, _⟩, rfl⟩))
  go_ret
  refine ⟨va, vc, rfl, ⟨by go_simp, by go_simp, by go_simp, by go_simp, by go_simp, by go_simp, by intro j; simp [kz]⟩, w2, hR, hO.trans ?_, by simpa using hsz⟩
  exact (((Only.refl (fun k => k = b) w3).setCell ⟨b, 1, none⟩ _ rfl).setCell ⟨b, 2, none⟩ _ rfl).drew

set_option maxRecDepth 100000 in
set_option maxHeartbeats 1600000 in
/-- A later Get: the value, and one question more. -/
theorem get_again (b : Nat) (f : Value) (va : Option Addr) (vn vc : Nat) (m n n1 : Int) (w : World) (hs : wrap64 (n + 1) = n1) (C : Cel b f 1 (.slice va vn vc) m n w) :
    Calls Tryz.prog 83 #[.pointer (some ⟨b, 0, none⟩)] w fun e w' => e = .returned (.slice va vn vc) ∧ Cel b f 1 (.slice va vn vc) m n1 w' ∧ Only (· = b) w w' ∧ w'.heap.size = w.heap.size := by
  obtain ⟨c0, c1, c2, c4, c5, c6, cz⟩ := C
  have z6 := cz 6
  have hd := do_done ⟨b, 1, none⟩ (.func (.func 101) #[.pointer (some ⟨b, 0, none⟩)] #[]) (w.setCell ⟨b, 6, none⟩ (.int .i64 n1)) (by go_simp)
  have hmf : ∀ (fn : Fn) (first cap : Array Value) (w : World), (Instr.makeFunc fn first cap).run Tryz.prog w = .ok (.func fn first cap) w := fun _ _ _ _ => rfl
  go_enter Tryz.func83, Tryz.ntmps83
  go_wp2_with (first
    | (go_at_call 99; refine (add_int ⟨b, 6, none⟩ n 1 n1 hs _ c6 z6).mono ?_; rintro e w' ⟨rfl, rfl⟩)
    | (go_at_call 100; refine hd.mono ?_; rintro e w' ⟨rfl, rfl⟩))
  go_ret
  exact ⟨rfl, ⟨by go_simp, by go_simp, by go_simp, by go_simp, by go_simp, by go_simp, by intro j; simp [cz]⟩, (Only.refl (fun k => k = b) w).setCell ⟨b, 6, none⟩ _ rfl, by simp⟩
/- The plan's sums: how many seconds of a week are open before each span. -/
open Go.RowKit

theorem num_info : (Tryz.prog.info? 2).map (fun i => (i.zero, i.size, i.bytes)) = some (some (.int .i64 0), 1, 8) := by kernel_rfl
/-- A row of numbers of the call's own. -/
def NI (w : World) (base : Nat) (v : Value) (xs : List Int) : Prop := w.ownsRow base 2 1 v xs.length (xs.map (Value.int .i64))
theorem NI.kept {w w' : World} {base : Nat} {v : Value} {xs : List Int} (h : NI w base v xs) (hb : Below w.heap.size w w') : NI w' base v xs := by
  obtain ⟨h1, h2⟩ := h
  refine ⟨h1, ?_⟩
  rcases h2 with h2 | ⟨g, cap, cur, hv, hg, hh, r⟩
  · exact .inl h2
  · exact .inr ⟨g, cap, cur, hv, hg, by rw [hb.block g (Array.getElem?_eq_some_iff.mp hh).1]; exact hh, r⟩
theorem NI.shape {w : World} {base : Nat} {v : Value} {xs : List Int} (h : NI w base v xs) (hp : 0 < xs.length) : ∃ g c, v = .slice (some ⟨g, 0, none⟩) xs.length c ∧ base ≤ g ∧ g < w.heap.size ∧ ∀ k, k < xs.length → w.cell? ⟨g, k, none⟩ = some (.int .i64 (xs.getD k 0)) := by
  have h' := h
  rcases h'.2 with ⟨hv, h0⟩ | ⟨g, cap, cur, hv, hg, hh, hc, hm, _⟩
  · omega
  · subst hv
    refine ⟨g, cap, rfl, hg, (Array.getElem?_eq_some_iff.mp hh).1, fun k hk => ?_⟩
    have := World.ownsRow.cellAt h k (by omega)
    rw [this]
    simp [hk]
/-- The sums up to a span. -/
def sums (F T : Nat → Int) (k : Nat) : List Int := (List.range (k + 1)).map (tsum F T)
theorem sums_len (F T : Nat → Int) (k : Nat) : (sums F T k).length = k + 1 := by simp [sums]
theorem sums_at (F T : Nat → Int) (k j : Nat) (h : j ≤ k) : (sums F T k).getD j 0 = tsum F T j := by
  have : j < k + 1 := by omega
  simp [sums, this]
theorem sums_succ (F T : Nat → Int) (k : Nat) : sums F T (k + 1) = sums F T k ++ [tsum F T (k + 1)] := by simp [sums, List.range_succ]

/-- append(s, one number), as a step of a region that draws its order. -/
theorem step_append_num {ops : Array Oper} {o : Oper} {a : Act} {w : World} {K : Act → World → Prop} {Q : Exit → Act → World → Prop} {E : Prop} (hgd : o.guard = none) (s x : Operand)
    (ho : o.op = .call { callee := .builtin .append, args := #[s, x], argTypes := #[111, 111] })
    (base : Nat) (v : Value) (l : List Int) (z : Int) (ad : Addr) (c : Nat) (hs : a.eval s = v) (hx : a.eval x = .slice (some ad) 1 c) (hown : NI w base v l)
    (hc : w.cell? (ad.add 0) = some (.int .i64 z)) (hlen : l.length ≤ 100000) (hbase : base ≤ w.heap.size)
    (h : ∀ v' w', NI w' base v' (l ++ [z]) → Stays base w w' → K (a.put o.dst v') w') :
    if Region.wanted o (yielded ops a.tmps) = true then Oper.wp Tryz.prog o a w K Q else E := by
  have hw : Region.wanted o (yielded ops a.tmps) = true := by simp [Region.wanted, hgd]
  rw [if_pos hw]
  obtain ⟨i0, hi, hz0, hz1, hz2⟩ := info_parts num_info
  refine wp_append_own w s x 111 ho base 2 i0 (.int .i64 0) 1 8 Tryz.underlying111 hi hz0 hz1 hz2 rfl (by decide) v l.length (l.map (Value.int .i64)) hs hown ad 1 c [.int .i64 z] hx rfl
    (fun j u hj => by
      match j with
      | 0 => simp at hj; subst hj; exact hc
      | j + 1 => simp at hj)
    (by intro u hu; simp only [List.mem_cons, List.not_mem_nil, or_false] at hu; subst hu; rfl) (by unfold maxLen; omega) (by omega) hbase ?_
  intro v' w' h1 h2 _
  exact h v' w' (by unfold NI; rw [List.length_append, List.map_append]; exact h1) ⟨h2.size, fun W hW => hW.grown h2 hbase fun k hk => (World.ownsRow.lt hown k hk).1⟩

/-- A block of numbers of type int64. -/
def NumB (w : World) (g : Nat) : Prop := ∃ cs r, w.heap[g]? = some (.cells cs 2 r)
theorem NumB.same {w w' : World} {g : Nat} (h : NumB w g) (e : w'.heap[g]? = w.heap[g]?) : NumB w' g := by
  obtain ⟨cs, r, hh⟩ := h
  exact ⟨cs, r, e.trans hh⟩
theorem NumB.setCell {w : World} {g : Nat} (h : NumB w g) (p : Addr) (v : Value) : NumB (w.setCell p v) g := by
  by_cases e : g = p.block
  · obtain ⟨cs, r, hh⟩ := h
    subst e
    have hlt : p.block < w.heap.size := (Array.getElem?_eq_some_iff.mp hh).1
    have h' : w.heap[p.block] = .cells cs 2 r := by simpa [Array.getElem?_eq_getElem hlt] using hh
    refine ⟨if p.spot.isSome then cs else cs.setIfInBounds p.off v, r, ?_⟩
    show (w.heap.modify p.block _)[p.block]? = _
    rw [Array.getElem?_eq_getElem (by simpa using hlt), Array.getElem_modify_self, h']
  · exact h.same (Below.heap_setCell _ _ _ _ e)
theorem NI.numb {w : World} {base g n c : Nat} {xs : List Int} (h : NI w base (.slice (some ⟨g, 0, none⟩) n c) xs) (hp : 0 < xs.length) : NumB w g := by
  rcases h.2 with ⟨hv, h0⟩ | ⟨g', cap, cur, hv, _, hh, _⟩
  · omega
  · injection hv with hv
    injection hv with hv
    injection hv with hv
    subst hv
    exact ⟨_, _, hh⟩
/-- What sums hands back. -/
def Sums (F T : Nat → Int) (n : Nat) (w : World) (e : Ending) (w' : World) : Prop :=
  ∃ g c, e = .returned (.slice (some ⟨g, 0, none⟩) (n + 1) c) ∧ w.heap.size ≤ g ∧ (g < w'.heap.size ∧ NumB w' g) ∧ (∀ k, k ≤ n → w'.cell? ⟨g, k, none⟩ = some (.int .i64 (tsum F T k))) ∧ Below w.heap.size w w'
theorem lit_zero (w : World) : NI (w.alloc (.cells #[.int .i64 0] 2)) w.heap.size (.slice (some ⟨w.heap.size, 0, none⟩) 1 1) [0] :=
  World.ownsRow_lit w #[.int .i64 0] 1 (Nat.le_refl _) (by decide) rfl

set_option maxRecDepth 100000 in
set_option maxHeartbeats 8000000 in
theorem sums_any (P : Nat) (a : Option Addr) (n c : Nat) (F T : Nat → Int) (w : World) (hrow : w.cell? ⟨P, 0, none⟩ = some (.slice a n c)) (hS : Sps w a n F T) (hn : n ≤ 32) (hg : good F T n = true) :
    Calls Tryz.prog 81 #[.pointer (some ⟨P, 0, none⟩)] w (Sums F T n w) := by
  obtain ⟨i0, hi, hz0, hz1, hz2⟩ := info_parts num_info
  have HI := Lib.hid hi; have HZ0 := Lib.hid hz0; have HZ1 := Lib.hid hz1; have HZ2 := Lib.hid hz2
  have HPlt := (cell_spot hrow).2
  dsimp only at HPlt
  have hrow' : (w.alloc (.cells #[.int .i64 0] 2)).cell? ⟨P, 0, none⟩ = some (.slice a n c) := by rw [World.cell?_alloc_past _ _ _ HPlt]; exact hrow
  have HC := Lib.hid hS
  have HG := Lib.hid hg
  have B0 : Below w.heap.size w (w.alloc (.cells #[.int .i64 0] 2)) := (Below.refl _ _).alloc (Nat.le_refl _) _
  have HB0 := Lib.hid B0
  clear hS hg hi hz0 hz1 hz2 B0 hrow
  go_enter Tryz.func81, Tryz.ntmps81
  go_wp2_with fail
  go_loopw [3, 12] (fun v i wr => ∃ k : Nat, k ≤ n ∧ i = .int .i64 k ∧ NI wr w.heap.size v (sums F T k) ∧ Below w.heap.size w wr) (fun _ i _ => n - (intOf i).toNat)
  case atStart => exact ⟨0, Nat.zero_le _, rfl, lit_zero w, HB0.out⟩
  case round =>
    clear hrow'
    obtain ⟨k, hk, rfl, hN, hB⟩ := hrel
    obtain ⟨g, vc, rfl, hgb, hgl, hcell⟩ := hN.shape (by rw [sums_len]; omega)
    by_cases hlt : k < n
    · obtain ⟨ab, ao, rfl, hab, c0, c1, b0, b1, b2, b3⟩ := HC.out.at hB k hlt
      have ck := hcell k (by rw [sums_len]; omega)
      rw [sums_at F T k k (Nat.le_refl _)] at ck
      rw [sums_len]
      obtain ⟨p0, p1⟩ := tsum_bounds HG.out k hk
      have p2 : tsum F T k ≤ 36028797018963968 := by omega
      obtain ⟨g0, g1, g2, _⟩ := good_at HG.out hlt
      have HSU := Lib.hid (sums_succ F T k)
      have HT := Lib.hid (show tsum F T (k + 1) = tsum F T k + (T k - F k) from rfl)
      have hN' : NI wr w.heap.size (.slice (some ⟨g, 0, none⟩) (k + 1) vc) (sums F T k) := by rw [sums_len] at hN; exact hN
      have HNI := Lib.hid hN'
      have HB := Lib.hid hB
      obtain ⟨f, e0⟩ : ∃ x, F k = x := ⟨_, rfl⟩
      obtain ⟨t, e1⟩ : ∃ x, T k = x := ⟨_, rfl⟩
      obtain ⟨s, e2⟩ : ∃ x, tsum F T k = x := ⟨_, rfl⟩
      rw [e0] at c0 g0 g1 HT
      rw [e1] at c1 g1 g2 HT
      rw [e2] at ck p0 p2 HT
      have hbase : w.heap.size ≤ wr.heap.size := hB.size
      clear hN hN' hB e0 e1 e2 p1 hcell b0 b1 b2 b3
      have i0' : (0 : Int) ≤ (k : Int) := by omega
      have kl : (k : Int) < (n : Int) := by omega
      have kl2 : (k : Int) < (k : Int) + 1 := by omega
      have d4 : decide ((k : Int) < (n : Int)) = true := by simp [hlt]
      have w1 : IntKind.i64.wrap (s + t) = s + t := IntWalk.i64_in _ (by omega)
      have w2 : IntKind.i64.wrap (s + t - f) = s + t - f := IntWalk.i64_in _ (by omega)
      have B1 : Below wr.heap.size wr (wr.alloc (.cells #[.int .i64 f, .int .i64 t] 61)) := (Below.refl _ _).alloc (Nat.le_refl _) _
      have e1 := (B1.cell (p := ⟨g, k, none⟩) hgl).trans ck
      have e2 : (wr.alloc (.cells #[.int .i64 f, .int .i64 t] 61)).cell? ⟨wr.heap.size, 0, none⟩ = some (.int .i64 f) := by simp
      have e3 : (wr.alloc (.cells #[.int .i64 f, .int .i64 t] 61)).cell? ⟨wr.heap.size, 1, none⟩ = some (.int .i64 t) := by simp
      have HB1 := Lib.hid B1
      clear B1
      go_wp2_with fail
      generalize (wr.alloc (.cells #[.int .i64 f, .int .i64 t] 61)) = W1 at *
      have HN1 := Lib.hid (fun z => (HNI.out.kept (((HB1.out.alloc HB1.out.size (.cells #[.int .i64 z] 2))).drew)))
      have hsl : (sums F T k).length ≤ 100000 := by rw [sums_len]; omega
      have HSL := Lib.hid hsl
      have hW : w.heap.size ≤ W1.heap.size := Nat.le_trans hbase HB1.out.size
      have HBW := Lib.hid (fun z => ((HB.out.trans (HB1.out.mono hbase)).alloc hW (.cells #[.int .i64 z] 2)).drew)
      have HCE : Hid (∀ z, (W1.alloc (.cells #[.int .i64 z] 2)).drew.cell? ((⟨W1.heap.size, 0, none⟩ : Addr).add 0) = some (.int .i64 z)) := Lib.hid (fun z => by rw [add_at]; simp)
      have HSZ : Hid (∀ z, w.heap.size ≤ (W1.alloc (.cells #[.int .i64 z] 2)).drew.heap.size) := Lib.hid (fun z => by simp; omega)
      clear hsl
      go_region_law (refine step_append_num rfl (.tmp 17) (.tmp 28) rfl w.heap.size (.slice (some ⟨g, 0, none⟩) (k + 1) vc) (sums F T k) (s + t - f) ⟨W1.heap.size, 0, none⟩ 1 rfl rfl (HN1.out _) (HCE.out _) HSL.out (HSZ.out _) ?_; intro v' w' hN' hst; have HN' := Lib.hid hN'; have HST := Lib.hid hst; clear hN' hst)
      all_goals
        go_wp2_with fail
        go_roundw
        case rel => exact ⟨k + 1, hlt, by go_num, by rw [HSU.out, HT.out]; have e : s + (t - f) = s + t - f := by omega
                                                     rw [e]; exact HN'.out, HST.out.2 _ (HBW.out _)⟩
        case measure => simp [intOf]; omega
    · obtain rfl : k = n := by omega
      have HB := Lib.hid hB
      have hfin : ∀ j, j ≤ k → wr.cell? ⟨g, j, none⟩ = some (.int .i64 (tsum F T j)) := fun j hj => by
        rw [hcell j (by rw [sums_len]; omega), sums_at F T k j hj]
      have HF := Lib.hid hfin
      have HNB := Lib.hid (hN.numb (by rw [sums_len]; omega))
      rw [sums_len]
      clear hN hB hcell hfin
      go_wp2_with fail
      go_ret
      exact ⟨g, vc, rfl, hgb, ⟨hgl, HNB.out⟩, HF.out, HB.out⟩
/- A plan in memory; its cell asked; created, Total. -/
open Go.RowKit

/-- A plan that New made: its block P, its cell's C. -/
structure Pl (base P C : Nat) (a : Option Addr) (n c : Nat) (F T : Nat → Int) (w : World) : Prop where
  hP : base ≤ P
  hC : base ≤ C
  ne : P ≠ C
  lt : C < w.heap.size
  row : w.cell? ⟨P, 0, none⟩ = some (.slice a n c)
  bef : w.cell? ⟨P, 1, none⟩ = some (.pointer (some ⟨C, 0, none⟩))
  sps : Sps w a n F T
  far : ∀ x, 0 < n → a = some x → x.block ≠ C
  cel : (∃ k, Cel C (.func (.func 81) #[.pointer (some ⟨P, 0, none⟩)] #[]) 0 (.slice none 0 0) 0 k w) ∨
    (∃ g vc k, Cel C .nilFunc 1 (.slice (some ⟨g, 0, none⟩) (n + 1) vc) 1 k w ∧ (g ≠ C ∧ NumB w g) ∧ g < w.heap.size ∧ ∀ j, j ≤ n → w.cell? ⟨g, j, none⟩ = some (.int .i64 (tsum F T j)))
theorem Pl.ltP {base P C : Nat} {a : Option Addr} {n c : Nat} {F T : Nat → Int} {w : World} (h : Pl base P C a n c F T w) : P < w.heap.size := (cell_spot h.row).2
theorem Sps.only {X : Nat → Prop} {w w' : World} {a : Option Addr} {n : Nat} {F T : Nat → Int} (h : Sps w a n F T) (o : Only X w w') (hx : ∀ x, 0 < n → a = some x → ¬ X x.block) : Sps w' a n F T := by
  refine ⟨h.1, fun hp => ?_⟩
  obtain ⟨ab, ao, e, hl, hc⟩ := h.2 hp
  have hn : ¬ X ab := hx _ hp e
  exact ⟨ab, ao, e, Nat.lt_of_lt_of_le hl o.size, fun k hk => ⟨(o.cell (p := ⟨ab, ao + k * 2, none⟩) hl hn).trans (hc k hk).1, (o.cell (p := ⟨ab, ao + k * 2 + 1, none⟩) hl hn).trans (hc k hk).2.1, (hc k hk).2.2⟩⟩
theorem Pl.kept {base P C : Nat} {a : Option Addr} {n c : Nat} {F T : Nat → Int} {w w' : World} (h : Pl base P C a n c F T w) (hb : Below w.heap.size w w') : Pl base P C a n c F T w' := by
  refine ⟨h.hP, h.hC, h.ne, Nat.lt_of_lt_of_le h.lt hb.size, (hb.cell (p := ⟨P, 0, none⟩) h.ltP).trans h.row, (hb.cell (p := ⟨P, 1, none⟩) h.ltP).trans h.bef, h.sps.kept hb, h.far, ?_⟩
  rcases h.cel with ⟨k, hc⟩ | ⟨g, vc, k, hc, hg, hl, hk⟩
  · exact .inl ⟨k, hc.of_block (hb.block C h.lt)⟩
  · exact .inr ⟨g, vc, k, hc.of_block (hb.block C h.lt), ⟨hg.1, hg.2.same (hb.block g hl)⟩, Nat.lt_of_lt_of_le hl hb.size, fun j hj => (hb.cell (p := ⟨g, j, none⟩) hl).trans (hk j hj)⟩
theorem Pl.drewN {base P C : Nat} {a : Option Addr} {n c : Nat} {F T : Nat → Int} {w : World} (h : Pl base P C a n c F T w) (q : Nat) : Pl base P C a n c F T (w.drewN q) :=
  h.kept ⟨rfl, rfl, rfl, Nat.le_refl _, fun _ _ => rfl⟩

/-- What a question to the plan's cell hands back: the sums. -/
def Asked (base P C : Nat) (a : Option Addr) (n c : Nat) (F T : Nat → Int) (w : World) (e : Ending) (w' : World) : Prop :=
  ∃ g vc, e = .returned (.slice (some ⟨g, 0, none⟩) (n + 1) vc) ∧ (∀ j, j ≤ n → w'.cell? ⟨g, j, none⟩ = some (.int .i64 (tsum F T j))) ∧ Pl base P C a n c F T w' ∧ Only (· = C) w w'
set_option maxRecDepth 100000 in
theorem get_plan {base P C : Nat} {a : Option Addr} {n c : Nat} {F T : Nat → Int} {w : World} (h : Pl base P C a n c F T w) (hn : n ≤ 32) (hg : good F T n = true) :
    Calls Tryz.prog 83 #[.pointer (some ⟨C, 0, none⟩)] w (Asked base P C a n c F T w) := by
  rcases h.cel with ⟨k, hc⟩ | ⟨g, vc, k, hc, hgc, hgl, hk⟩
  · have oB := atBuild_only C (wrap64 (k + 1)) w
    have szB := atBuild_size C (wrap64 (k + 1)) w
    have hrow : (atBuild C (wrap64 (k + 1)) w).cell? ⟨P, 0, none⟩ = some (.slice a n c) := (oB.cell (p := ⟨P, 0, none⟩) h.ltP h.ne).trans h.row
    have hsum := sums_any P a n c F T _ hrow (h.sps.only oB h.far) hn hg
    have hgf := get_fn 81 ⟨P, 0, none⟩ C (.slice none 0 0) (n + 1) 0 k (wrap64 (k + 1)) w
      (fun va vc w' => ∃ g, va = some ⟨g, 0, none⟩ ∧ w.heap.size ≤ g ∧ g < w'.heap.size ∧ NumB w' g ∧ (∀ j, j ≤ n → w'.cell? ⟨g, j, none⟩ = some (.int .i64 (tsum F T j))) ∧ Below w.heap.size (atBuild C (wrap64 (k + 1)) w) w') rfl
      (fun _ => rfl) hc
      (hsum.mono (by
        rintro e w' ⟨g, vc, rfl, h1, h2, h3, h4⟩
        rw [szB] at h1 h4
        exact ⟨_, _, rfl, h4.block C h.lt, g, rfl, h1, h2.1, h2.2, h3, h4⟩))
    refine hgf.mono ?_
    rintro e w' ⟨va, vc, rfl, hC', w2, ⟨g, rfl, h1, h2, hnb, h3, h4⟩, o2, sz2⟩
    have o3 : Only (· = C) w w' := oB.trans ((Only.below (szB ▸ h4)).trans o2)
    have hgC : g ≠ C := by have := h.lt; omega
    have hk' : ∀ j, j ≤ n → w'.cell? ⟨g, j, none⟩ = some (.int .i64 (tsum F T j)) := fun j hj => (o2.cell (p := ⟨g, j, none⟩) h2 hgC).trans (h3 j hj)
    refine ⟨g, vc, rfl, hk', ⟨h.hP, h.hC, h.ne, Nat.lt_of_lt_of_le h.lt o3.size, (o3.cell (p := ⟨P, 0, none⟩) h.ltP h.ne).trans h.row, (o3.cell (p := ⟨P, 1, none⟩) h.ltP h.ne).trans h.bef, h.sps.only o3 h.far, h.far, .inr ⟨g, vc, _, hC', ⟨hgC, hnb.same (o2.block g h2 hgC)⟩, by omega, hk'⟩⟩, o3⟩
  · refine (get_again C .nilFunc (some ⟨g, 0, none⟩) (n + 1) vc 1 k (wrap64 (k + 1)) w rfl hc).mono ?_
    rintro e w' ⟨rfl, hC', o3, sz⟩
    have hk' : ∀ j, j ≤ n → w'.cell? ⟨g, j, none⟩ = some (.int .i64 (tsum F T j)) := fun j hj => (o3.cell (p := ⟨g, j, none⟩) hgl hgc.1).trans (hk j hj)
    exact ⟨g, vc, rfl, hk', ⟨h.hP, h.hC, h.ne, Nat.lt_of_lt_of_le h.lt o3.size, (o3.cell (p := ⟨P, 0, none⟩) h.ltP h.ne).trans h.row, (o3.cell (p := ⟨P, 1, none⟩) h.ltP h.ne).trans h.bef, h.sps.only o3 h.far, h.far, .inr ⟨g, vc, _, hC', ⟨hgc.1, hgc.2.same (o3.block g hgl hgc.1)⟩, by omega, hk'⟩⟩, o3⟩

theorem created_yes (P C : Nat) (w : World) (h : w.cell? ⟨P, 1, none⟩ = some (.pointer (some ⟨C, 0, none⟩))) : Calls Tryz.prog 82 #[.pointer (some ⟨P, 0, none⟩)] w fun e w' => e = .returned (.bool true) ∧ w = w' := by
  go_enter Tryz.func82, Tryz.ntmps82
  go_wp2
  go_ret
  exact ⟨rfl, rfl⟩
theorem created_nil (w : World) : Calls Tryz.prog 82 #[.pointer none] w fun e w' => e = .returned (.bool false) ∧ w = w' := by
  go_enter Tryz.func82, Tryz.ntmps82
  go_wp2
  go_ret
  exact ⟨rfl, rfl⟩
theorem created_no (P : Nat) (w : World) (h : w.cell? ⟨P, 1, none⟩ = some (.pointer none)) : Calls Tryz.prog 82 #[.pointer (some ⟨P, 0, none⟩)] w fun e w' => e = .returned (.bool false) ∧ w = w' := by
  go_enter Tryz.func82, Tryz.ntmps82
  go_wp2
  go_ret
  exact ⟨rfl, rfl⟩

/-- What a method of the plan leaves behind. -/
def Told (base P C : Nat) (a : Option Addr) (n c : Nat) (F T : Nat → Int) (v : Value) (w : World) (e : Ending) (w' : World) : Prop :=
  e = .returned v ∧ Pl base P C a n c F T w' ∧ Only (· = C) w w'
set_option maxRecDepth 100000 in
set_option maxHeartbeats 4000000 in
theorem total_any {base P C : Nat} {a : Option Addr} {n c : Nat} {F T : Nat → Int} {w : World} (h : Pl base P C a n c F T w) (hn : n ≤ 32) (hg : good F T n = true) :
    Calls Tryz.prog 61 #[.pointer (some ⟨P, 0, none⟩)] w (Told base P C a n c F T (.int .i64 (tsum F T n)) w) := by
  have hcr := created_yes P C w h.bef
  have e1 := h.bef
  have e2 := h.row
  have HG := Lib.hid (get_plan (h.kept (Below.refl _ _).drew) hn hg)
  have n0 : (0 : Int) ≤ (n : Int) := by omega
  have n1 : (n : Int) < (n : Int) + 1 := by omega
  have n2 : n < n + 1 := by omega
  clear h
  go_enter Tryz.func61, Tryz.ntmps61
  go_wp2_with fail
  refine hcr.mono ?_
  rintro e w' ⟨rfl, rfl⟩
  clear hcr
  go_wp2_with fail
  -- REGION
  have h0 : w.drew.cell? ⟨P, 1, none⟩ = some (.pointer (some ⟨C, 0, none⟩)) ∧ w.drew.cell? ⟨P, 0, none⟩ = some (.slice a n c) := ⟨e1, e2⟩
  refine wp_region_held_drew (S := (fun w' => w'.cell? ⟨P, 1, none⟩ = some (.pointer (some ⟨C, 0, none⟩)) ∧ w'.cell? ⟨P, 0, none⟩ = some (.slice a n c))) (by kernel_rfl) h0 (fun hHeld => ?_)
  refine wpAnyH_take (i := 0) (v := ?_) rfl (by kernel_rfl) (by kernel_rfl) (by kernel_rfl) (fun _ _ _ h => h) (Or.inl ⟨by rfl, ?_⟩) (by assumption) ?_
  case refine_2 => (intro w1 hS1; (try dsimp only at hS1); go_simp; try with_reducible rfl)
  try simp only [List.getElem_toArray, List.getElem_cons_zero, List.getElem_cons_succ, Act.put, List.setIfInBounds_toArray, List.set_cons_zero, List.set_cons_succ]
  refine wpAnyH_take (i := 1) (v := ?_) rfl (by kernel_rfl) (by kernel_rfl) (by kernel_rfl) (fun _ _ _ h => h) (Or.inl ⟨by rfl, ?_⟩) (by assumption) ?_
  case refine_2 => (intro w1 hS1; (try dsimp only at hS1); go_simp; try with_reducible rfl)
  try simp only [List.getElem_toArray, List.getElem_cons_zero, List.getElem_cons_succ, Act.put, List.setIfInBounds_toArray, List.set_cons_zero, List.set_cons_succ]
  refine wpAnyH_take (i := 2) (v := ?_) rfl (by kernel_rfl) (by kernel_rfl) (by kernel_rfl) (fun _ _ _ h => h) (Or.inl ⟨by rfl, ?_⟩) (by assumption) ?_
  case refine_2 => (intro w1 hS1; (try dsimp only at hS1); go_simp; try with_reducible rfl)
  try simp only [List.getElem_toArray, List.getElem_cons_zero, List.getElem_cons_succ, Act.put, List.setIfInBounds_toArray, List.set_cons_zero, List.set_cons_succ]
  refine wpAnyH_take (i := 3) (v := ?_) rfl (by kernel_rfl) (by kernel_rfl) (by kernel_rfl) (fun _ _ _ h => h) (Or.inl ⟨by rfl, ?_⟩) (by assumption) ?_
  case refine_2 => (intro w1 hS1; (try dsimp only at hS1); go_simp; try with_reducible rfl)
  try simp only [List.getElem_toArray, List.getElem_cons_zero, List.getElem_cons_succ, Act.put, List.setIfInBounds_toArray, List.set_cons_zero, List.set_cons_succ]
  refine wpAnyH_take (i := 5) (v := ?_) rfl (by kernel_rfl) (by kernel_rfl) (by kernel_rfl) (fun _ _ _ h => h) (Or.inl ⟨by rfl, ?_⟩) (by assumption) ?_
  case refine_2 => (intro w1 hS1; (try dsimp only at hS1); go_simp; try with_reducible rfl)
  try simp only [List.getElem_toArray, List.getElem_cons_zero, List.getElem_cons_succ, Act.put, List.setIfInBounds_toArray, List.set_cons_zero, List.set_cons_succ]
  refine wpAnyH_take (i := 6) (v := ?_) rfl (by kernel_rfl) (by kernel_rfl) (by kernel_rfl) (fun _ _ _ h => h) (Or.inl ⟨by rfl, ?_⟩) (by assumption) ?_
  case refine_2 => (intro w1 hS1; (try dsimp only at hS1); go_simp; try with_reducible rfl)
  try simp only [List.getElem_toArray, List.getElem_cons_zero, List.getElem_cons_succ, Act.put, List.setIfInBounds_toArray, List.set_cons_zero, List.set_cons_succ]
  refine wpAnyH_take (i := 7) (v := ?_) rfl (by kernel_rfl) (by kernel_rfl) (by kernel_rfl) (fun _ _ _ h => h) (Or.inl ⟨by rfl, ?_⟩) (by assumption) ?_
  case refine_2 => (intro w1 hS1; (try dsimp only at hS1); go_simp; try with_reducible rfl)
  try simp only [List.getElem_toArray, List.getElem_cons_zero, List.getElem_cons_succ, Act.put, List.setIfInBounds_toArray, List.set_cons_zero, List.set_cons_succ]
  refine wpAnyH_take (i := 8) (v := ?_) rfl (by kernel_rfl) (by kernel_rfl) (by kernel_rfl) (fun _ _ _ h => h) (Or.inl ⟨by rfl, ?_⟩) (by assumption) ?_
  case refine_2 => (intro w1 hS1; (try dsimp only at hS1); go_simp; try with_reducible rfl)
  try simp only [List.getElem_toArray, List.getElem_cons_zero, List.getElem_cons_succ, Act.put, List.setIfInBounds_toArray, List.set_cons_zero, List.set_cons_succ]
  refine wpAnyH_take (i := 9) (v := ?_) rfl (by kernel_rfl) (by kernel_rfl) (by kernel_rfl) (fun _ _ _ h => h) (Or.inl ⟨by rfl, ?_⟩) (by assumption) ?_
  case refine_2 => (intro w1 hS1; (try dsimp only at hS1); go_simp; try with_reducible rfl)
  try simp only [List.getElem_toArray, List.getElem_cons_zero, List.getElem_cons_succ, Act.put, List.setIfInBounds_toArray, List.set_cons_zero, List.set_cons_succ]
  refine wpAnyH_ready (rs := [4]) (by kernel_rfl) (by simp) ?_
  refine AllReadyH.cons rfl (fun K hK => ?_) AllReadyH.nil
  go_simp
  refine HG.out.mono ?_; rintro e w8 ⟨g, vc, rfl, hk8, hP8, hO8⟩; have hS8 := And.intro hP8.bef hP8.row; have hkn := hk8 n (Nat.le_refl _); have HP8 := Lib.hid hP8; have HO8 := Lib.hid hO8; clear hk8 hP8 hO8
  refine hK.out _ _ (hS8) (fun hHeld => ?_)
  clear hK K
  try simp only [List.getElem_toArray, List.getElem_cons_zero, List.getElem_cons_succ, Act.put, List.setIfInBounds_toArray, List.set_cons_zero, List.set_cons_succ]
  refine wpAnyH_take (i := 10) (v := ?_) rfl (by kernel_rfl) (by kernel_rfl) (by kernel_rfl) (fun _ _ _ h => h) (Or.inl ⟨by rfl, ?_⟩) (by assumption) ?_
  case refine_2 => (intro w1 hS1; (try dsimp only at hS1); go_simp; try with_reducible rfl)
  try simp only [List.getElem_toArray, List.getElem_cons_zero, List.getElem_cons_succ, Act.put, List.setIfInBounds_toArray, List.set_cons_zero, List.set_cons_succ]
  refine wpAnyH_ready (rs := [11]) (by kernel_rfl) (by simp) ?_
  refine AllReadyH.cons rfl (fun K hK => ?_) AllReadyH.nil
  go_simp
  refine hK.out _ _ (by assumption) (fun hHeld => ?_)
  clear hK K
  try simp only [List.getElem_toArray, List.getElem_cons_zero, List.getElem_cons_succ, Act.put, List.setIfInBounds_toArray, List.set_cons_zero, List.set_cons_succ]
  refine wpAnyH_take (i := 12) (v := ?_) rfl (by kernel_rfl) (by kernel_rfl) (by kernel_rfl) (fun _ _ _ h => h) (Or.inl ⟨by rfl, ?_⟩) (by assumption) ?_
  case refine_2 => (intro w1 hS1; (try dsimp only at hS1); go_simp; try with_reducible rfl)
  try simp only [List.getElem_toArray, List.getElem_cons_zero, List.getElem_cons_succ, Act.put, List.setIfInBounds_toArray, List.set_cons_zero, List.set_cons_succ]
  refine wpAnyH_done (by kernel_rfl) ?_ _
  all_goals
    go_wp2_with fail
    go_ret
    exact ⟨rfl, HP8.out, (Only.refl _ _).drew.trans HO8.out⟩
theorem total_nil (w : World) : Calls Tryz.prog 61 #[.pointer none] w fun e w' => e = .returned (.int .i64 0) ∧ w = w' := by
  have hcr := created_nil w
  go_enter Tryz.func61, Tryz.ntmps61
  go_wp2_with fail
  refine hcr.mono ?_
  rintro e w' ⟨rfl, rfl⟩
  go_wp2_with fail
  go_ret
  exact ⟨rfl, rfl⟩
theorem total_no (P : Nat) (w : World) (h : w.cell? ⟨P, 1, none⟩ = some (.pointer none)) : Calls Tryz.prog 61 #[.pointer (some ⟨P, 0, none⟩)] w fun e w' => e = .returned (.int .i64 0) ∧ w = w' := by
  have hcr := created_no P w h
  go_enter Tryz.func61, Tryz.ntmps61
  go_wp2_with fail
  refine hcr.mono ?_
  rintro e w' ⟨rfl, rfl⟩
  go_wp2_with fail
  go_ret
  exact ⟨rfl, rfl⟩
/- The search for a span, and how many seconds of a week are open before its second t. -/
open Go.RowKit

set_option maxRecDepth 100000 in
/-- The function that the search asks. -/
theorem before_any (P tb pb k : Nat) (a : Option Addr) (n c : Nat) (F T : Nat → Int) (t : Int) (w : World) (ht : w.cell? ⟨tb, 0, none⟩ = some (.int .i64 t)) (hp : w.cell? ⟨pb, 0, none⟩ = some (.pointer (some ⟨P, 0, none⟩)))
    (hrow : w.cell? ⟨P, 0, none⟩ = some (.slice a n c)) (hS : Sps w a n F T) (hk : k < n) :
    Calls Tryz.prog 113 #[.int .i64 k, .pointer (some ⟨tb, 0, none⟩), .pointer (some ⟨pb, 0, none⟩)] w fun e w' => e = .returned (.bool (decide (t < T k))) ∧ ∃ q, w' = w.drewN q := by
  obtain ⟨ab, ao, rfl, hab, c0, c1, _⟩ := hS.at (Below.refl _ _) k hk
  have k0 : (0 : Int) ≤ (k : Int) := by omega
  have kl : (k : Int) < (n : Int) := by omega
  obtain ⟨u, hu⟩ : ∃ u, T k = u := ⟨_, rfl⟩
  rw [hu] at c1 ⊢
  obtain ⟨b, hb⟩ : ∃ b, decide (t < u) = b := ⟨_, rfl⟩
  rw [hb]
  clear hS hu c0
  go_enter Tryz.func113, Tryz.ntmps113
  go_wp2_with fail
  go_quiet (fail)
  go_wp2_with fail
  go_ret
  exact ⟨rfl, _, rfl⟩

/-- The first span that ends behind t. -/
def Found (T : Nat → Int) (n : Nat) (t : Int) (w : World) (e : Ending) (w' : World) : Prop :=
  ∃ i : Nat, e = .returned (.int .i64 i) ∧ i ≤ n ∧ (∀ j, j < i → T j ≤ t) ∧ (∀ j, i ≤ j → j < n → t < T j) ∧ ∃ q, w' = w.drewN q
set_option maxRecDepth 100000 in
set_option maxHeartbeats 4000000 in
theorem search_any (P tb pb : Nat) (a : Option Addr) (n c : Nat) (F T : Nat → Int) (t : Int) (w : World) (ht : w.cell? ⟨tb, 0, none⟩ = some (.int .i64 t)) (hp : w.cell? ⟨pb, 0, none⟩ = some (.pointer (some ⟨P, 0, none⟩)))
    (hrow : w.cell? ⟨P, 0, none⟩ = some (.slice a n c)) (hS : Sps w a n F T) (hn : n ≤ 32) (hg : good F T n = true) :
    Calls Tryz.prog 103 #[.int .i64 n, .func (.func 113) #[] #[.pointer (some ⟨tb, 0, none⟩), .pointer (some ⟨pb, 0, none⟩)]] w (Found T n t w) := by
  have HB := Lib.hid (fun k q (hk : k < n) => before_any P tb pb k a n c F T t (w.drewN q) ht hp hrow (hS.kept ⟨rfl, rfl, rfl, Nat.le_refl _, fun _ _ => rfl⟩) hk)
  have hmono : ∀ j k, j ≤ k → k < n → T j ≤ T k := fun j k hjk hk => by
    by_cases e : j = k
    · subst e; exact Int.le_refl _
    · have := good_order hg k j (by omega) hk
      have := (good_at hg hk).2.1
      omega
  have HM := Lib.hid hmono
  clear ht hp hrow hS hg hmono
  go_enter Tryz.func103, Tryz.ntmps103
  go_wp2_with fail
  go_loopw [5, 6] (fun i j wr => ∃ (x y : Nat), i = .int .i64 x ∧ j = .int .i64 y ∧ x ≤ y ∧ y ≤ n ∧ (∀ k, k < x → T k ≤ t) ∧ (∀ k, y ≤ k → k < n → t < T k) ∧ ∃ q, wr = w.drewN q) (fun i j _ => (intOf j).toNat - (intOf i).toNat)
  case atStart => exact ⟨0, n, rfl, rfl, Nat.zero_le _, Nat.le_refl _, fun k h => by omega, fun k h1 h2 => by omega, 0, rfl⟩
  case round =>
    obtain ⟨x, y, rfl, rfl, hxy, hyn, hlo, hhi, q, rfl⟩ := hrel
    have HLO := Lib.hid hlo
    have HHI := Lib.hid hhi
    clear hlo hhi
    by_cases hlt : x < y
    · have d1 : decide ((x : Int) < (y : Int)) = true := by simp [hlt]
      have x0 : (0 : Int) ≤ (x : Int) := by omega
      have y0 : (0 : Int) ≤ (y : Int) := by omega
      have y1 : (y : Int) ≤ 32 := by omega
      have x1 : (x : Int) ≤ 32 := by omega
      go_wp2_with fail
      obtain ⟨m, hm⟩ : ∃ m : Nat, ((x : Int) + (y : Int)) / 2 = (m : Int) := ⟨(x + y) / 2, by omega⟩
      rw [hm]
      have hxm : x ≤ m := by omega
      have hmy : m < y := by omega
      clear hm
      have hb := HB.out m q (by omega)
      obtain ⟨b, hd⟩ : ∃ b, decide (t < T m) = b := ⟨_, rfl⟩
      rw [hd] at hb
      have m0 : (0 : Int) ≤ (m : Int) := by omega
      have m1 : (m : Int) ≤ 32 := by omega
      cases b
      · have hf := of_decide_eq_false hd
        have HF := Lib.hid hf
        clear hd hf
        go_wp2_with fail
        refine hb.mono ?_
        rintro e w1 ⟨rfl, q1, rfl⟩
        clear hb
        go_wp2_with fail
        go_roundw
        case rel => exact ⟨m + 1, y, by go_num, rfl, by omega, hyn, (fun k hk => by
          have h1 := HM.out k m (by omega) (by omega)
          have h2 := HF.out
          omega), HHI.out, _, rfl⟩
        case measure => simp [intOf]; omega
      · have ht := of_decide_eq_true hd
        have HF := Lib.hid ht
        clear hd ht
        go_wp2_with fail
        refine hb.mono ?_
        rintro e w1 ⟨rfl, q1, rfl⟩
        clear hb
        go_wp2_with fail
        go_roundw
        case rel => exact ⟨x, m, rfl, rfl, hxm, by omega, HLO.out, (fun k h1 h2 => by
          have h3 := HM.out m k h1 h2
          have h4 := HF.out
          omega), _, rfl⟩
        case measure => simp [intOf]; omega
    · obtain rfl : x = y := by omega
      go_wp2_with fail
      go_ret
      exact ⟨x, rfl, hyn, HLO.out, HHI.out, q, rfl⟩

theorem wsum_found {F T : Nat → Int} {n i : Nat} {t : Int} (hg : good F T n = true) (hlo : ∀ j, j < i → T j ≤ t) (hhi : ∀ j, i ≤ j → j < n → t < T j) : ∀ k, k ≤ n → wsum F T 0 t k = if k ≤ i then tsum F T k else tsum F T i + max 0 (t - F i) := by
  intro k
  induction k with
  | zero => intro _; rw [if_pos (Nat.zero_le _)]; rfl
  | succ k ih =>
    intro hk
    have h := ih (by omega)
    obtain ⟨g0, g1, g2, _⟩ := good_at hg (show k < n by omega)
    simp only [wsum, h]
    by_cases e1 : k + 1 ≤ i
    · rw [if_pos (by omega), if_pos e1, clip_before _ _ _ g0 g1 (hlo k (by omega))]
      simp only [tsum]
    · by_cases e2 : k = i
      · subst e2
        rw [if_pos (Nat.le_refl _), if_neg e1]
        have ht := hhi k (Nat.le_refl _) (by omega)
        by_cases h1 : F k ≤ t
        · rw [clip_within _ _ _ g0 h1 ht]; omega
        · rw [clip_behind _ _ _ g0 g1 (by omega)]; omega
      · rw [if_neg (by omega), if_neg e1]
        have := hhi i (Nat.le_refl _) (by omega)
        have := good_order hg k i (by omega) (by omega)
        rw [clip_behind _ _ _ g0 g1 (by omega)]
        omega

set_option maxRecDepth 100000 in
set_option maxHeartbeats 4000000 in
theorem within_plan {base P C : Nat} {a : Option Addr} {n c : Nat} {F T : Nat → Int} {w : World} (t : Int) (h : Pl base P C a n c F T w) (hn : n ≤ 32) (hg : good F T n = true) (hb : base ≤ w.heap.size) (ht0 : 0 ≤ t) (ht1 : t ≤ 1125899906842624) :
    Calls Tryz.prog 106 #[.pointer (some ⟨P, 0, none⟩), .int .i64 t] w fun e w' => e = .returned (.int .i64 (wsum F T 0 t n)) ∧ Pl base P C a n c F T w' ∧ Stays base w w' := by
  have B1 : Below w.heap.size w ((w.alloc (.cells #[.pointer (some ⟨P, 0, none⟩)] 96)).alloc (.cells #[.int .i64 t] 2)) := ((Below.refl _ _).alloc (Nat.le_refl _) _).alloc (by simp) _
  have hP := h.kept B1
  have z0 : ((w.alloc (.cells #[.pointer (some ⟨P, 0, none⟩)] 96)).alloc (.cells #[.int .i64 t] 2)).cell? ⟨w.heap.size, 0, none⟩ = some (.pointer (some ⟨P, 0, none⟩)) := by rw [World.cell?_alloc_past _ _ _ (by simp)]; simp
  have z1 : ((w.alloc (.cells #[.pointer (some ⟨P, 0, none⟩)] 96)).alloc (.cells #[.int .i64 t] 2)).cell? ⟨w.heap.size + 1, 0, none⟩ = some (.int .i64 t) := by simp
  have hlt0 : w.heap.size < ((w.alloc (.cells #[.pointer (some ⟨P, 0, none⟩)] 96)).alloc (.cells #[.int .i64 t] 2)).heap.size := by simp; omega
  have hlt1 : w.heap.size + 1 < ((w.alloc (.cells #[.pointer (some ⟨P, 0, none⟩)] 96)).alloc (.cells #[.int .i64 t] 2)).heap.size := by simp
  have hltC := h.lt
  have HB1 := Lib.hid (Stays.below hb B1)
  have hse := search_any P (w.heap.size + 1) w.heap.size a n c F T t _ z1 z0 hP.row hP.sps hn hg
  have e1 := hP.bef
  have e2 := hP.row
  have HP := Lib.hid hP
  have HG := Lib.hid hg
  clear h hP B1 hg
  go_enter Tryz.func106, Tryz.ntmps106
  go_wp2_with fail
  generalize ((w.alloc (.cells #[.pointer (some ⟨P, 0, none⟩)] 96)).alloc (.cells #[.int .i64 t] 2)) = W at *
  refine hse.mono ?_
  rintro e w1 ⟨i, rfl, hin, hlo, hhi, q, rfl⟩
  clear hse
  have hP1 := HP.out.drewN q
  have f0 : (W.drewN q).cell? ⟨w.heap.size, 0, none⟩ = some (.pointer (some ⟨P, 0, none⟩)) := z0
  have f1 : (W.drewN q).cell? ⟨w.heap.size + 1, 0, none⟩ = some (.int .i64 t) := z1
  have f2 : (W.drewN q).cell? ⟨P, 1, none⟩ = some (.pointer (some ⟨C, 0, none⟩)) := e1
  have f3 : (W.drewN q).cell? ⟨P, 0, none⟩ = some (.slice a n c) := e2
  have hsz : (W.drewN q).heap.size = W.heap.size := rfl
  have hget := get_plan hP1 hn HG.out
  have HBQ := Lib.hid (HB1.out.trans (show Stays base W (W.drewN q) from ⟨Nat.le_refl _, fun W0 h => below_drewN' h q⟩))
  have HLO := Lib.hid hlo
  have HHI := Lib.hid hhi
  clear hP1 hlo hhi z0 z1 e1 e2
  generalize W.drewN q = W1 at *
  go_wp2_with fail
  refine hget.mono ?_
  rintro e w2 ⟨g, vc, rfl, hk, hP2, hO2⟩
  have ck := hk i hin
  have e1 := hP2.row
  have e2 : w2.cell? ⟨w.heap.size, 0, none⟩ = some (.pointer (some ⟨P, 0, none⟩)) := (hO2.cell (p := ⟨w.heap.size, 0, none⟩) (by show w.heap.size < _; omega) (by show ¬ w.heap.size = C; omega)).trans f0
  have e3 : w2.cell? ⟨w.heap.size + 1, 0, none⟩ = some (.int .i64 t) := (hO2.cell (p := ⟨w.heap.size + 1, 0, none⟩) (by show w.heap.size + 1 < _; omega) (by show ¬ w.heap.size + 1 = C; omega)).trans f1
  have HST := Lib.hid (HBQ.out.trans (show Stays base W1 w2 from ⟨hO2.size, fun W0 h => h.trans (hO2.toBelow (Nat.le_trans hb (HBQ.out).1) fun k hk => by subst hk; exact hP2.hC)⟩))
  have HS2 := Lib.hid hP2.sps
  have HP2 := Lib.hid hP2
  obtain ⟨p0, p1⟩ := tsum_bounds HG.out i hin
  have p2 : tsum F T i ≤ 36028797018963968 := by omega
  have HWF := Lib.hid (wsum_found HG.out HLO.out HHI.out n (Nat.le_refl _))
  obtain ⟨s, hs⟩ : ∃ s, tsum F T i = s := ⟨_, rfl⟩
  have HE := Lib.hid hs
  rw [hs] at ck p0 p2
  have i0 : (0 : Int) ≤ (i : Int) := by omega
  have i1 : (i : Int) < (n : Int) + 1 := by omega
  clear hget hk hP2 hO2 f0 f1 f2 f3 hs p1
  by_cases hlt : i < n
  · have d1 : decide ((i : Int) < (n : Int)) = true := by simp [hlt]
    have i2 : (i : Int) < (n : Int) := by omega
    obtain ⟨ab, ao, rfl, hab, c0, _, b0, b1, _, _⟩ := HS2.out.at (Below.refl _ _) i hlt
    obtain ⟨g0, g1, g2, _⟩ := good_at HG.out hlt
    have HR : Hid (wsum F T 0 t n = s + max 0 (t - F i)) := Lib.hid (by rw [HWF.out, if_neg (by omega), HE.out])
    obtain ⟨f, hf⟩ : ∃ f, F i = f := ⟨_, rfl⟩
    rw [hf] at c0 b0 b1 g0 g1 HR
    have w1' : IntKind.i64.wrap (t - f) = t - f := IntWalk.i64_in _ (by omega)
    have w2' : IntKind.i64.wrap (s + max 0 (t - f)) = s + max 0 (t - f) := IntWalk.i64_in _ (by omega)
    clear hf
    go_wp2_with fail
    go_quiet (fail)
    all_goals clear w1' w2'
    all_goals go_wp2_with fail
    all_goals
      go_ret
      exact ⟨ret_int (by have := HR.out; omega), HP2.out.drewN _, HST.out.trans ⟨Nat.le_refl _, fun W0 h => below_drewN' h _⟩⟩
  · have d1 : decide ((i : Int) < (n : Int)) = false := by simp; omega
    have HR : Hid (wsum F T 0 t n = s) := Lib.hid (by rw [HWF.out, if_pos (by omega), ← HE.out]; congr 1; omega)
    go_wp2_with fail
    go_ret
    exact ⟨ret_int HR.out.symm, HP2.out, HST.out⟩
end Go.Proofs.YthnnbmofpmedhaaGreat

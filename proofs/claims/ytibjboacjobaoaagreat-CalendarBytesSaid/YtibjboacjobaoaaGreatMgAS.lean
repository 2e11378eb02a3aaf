import Derived.Test.YtibjboacjobaoaaGreatMgAJ
import Derived.Outline
import Derived.Recover
namespace Go.Proofs.YtibjboacjobaoaaGreat
open Go.RowKit
/- sync.Once over a cell of lazy: the slow road with the call of create as a hypothesis, and Do. -/
open Go.RowKit

/-- What the function that Once calls leaves behind: Once's own words are as they were. -/
structure Held (b o : Nat) (w : World) : Prop where
  d : w.cell? ⟨b, o, none⟩ = some (.int .u32 0)
  l : w.cell? ⟨b, o + 1, none⟩ = some (.int .i32 1)
  fd : w.frozen? ⟨b, o, none⟩ = false
  fl : w.frozen? ⟨b, o + 1, none⟩ = false

set_option maxRecDepth 100000 in
set_option maxHeartbeats 1600000 in
theorem slow_any (b o : Nat) (pc : Addr) (w : World) (R : World → Prop)
    (h0 : w.cell? ⟨b, o, none⟩ = some (.int .u32 0)) (h1 : w.cell? ⟨b, o + 1, none⟩ = some (.int .i32 0))
    (f0 : w.frozen? ⟨b, o, none⟩ = false) (f1 : w.frozen? ⟨b, o + 1, none⟩ = false)
    (hF : Calls Tryz.prog 134 #[.pointer (some pc)] (w.setCell ⟨b, o + 1, none⟩ (.int .i32 1)) fun e w' => e = .returned (.tuple #[]) ∧ Held b o w' ∧ R w') :
    Calls Tryz.prog 130 #[.pointer (some ⟨b, o, none⟩), .func (.func 134) #[.pointer (some pc)] #[]] w fun e w' => e = .returned (.tuple #[]) ∧
      ∃ w2, R w2 ∧ Held b o w2 ∧ w' = (w2.drew.setCell ⟨b, o, none⟩ (.int .u32 1)).setCell ⟨b, o + 1, none⟩ (.int .i32 0) := by
  have hl := load_bool ⟨b, o, none⟩ 0 (w.setCell ⟨b, o + 1, none⟩ (.int .i32 1)) ((World.cell?_setCell_other _ ⟨b, o + 1, none⟩ ⟨b, o, none⟩ _ (by simp)).trans h0)
  have hnot : ∀ (x : Bool) (w : World), (Op.unary .not (.bool x)).run Tryz.prog w = .ok (.bool (!x)) w := fun _ _ => rfl
  go_enter_defers Tryz.func130, Tryz.ntmps130
  go_wp2_with (first
    | (go_at_call 140; refine (lock_free ⟨b, o + 1, none⟩ _ (by go_simp) (by go_simp)).mono ?_; rintro e w' ⟨rfl, rfl⟩)
    | (go_at_call 129; refine hl.mono ?_; rintro e w' ⟨rfl, rfl⟩)
    | (go_at_call 134; refine hF.mono ?_; rintro e w' ⟨rfl, hH, hR⟩))
  refine leaves_cons (f := 131) (args := #[.pointer (some ⟨b, o, none⟩), .bool true]) (by simp) (by simp [go_sem]) ?_
  refine (store_deferred ⟨b, o, none⟩ (.int .u32 0) .returning _ hH.d hH.fd).mono ?_
  rintro e u' w'' ⟨rfl, rfl, rfl⟩
  refine leaves_cons (f := 141) (args := #[.pointer (some ⟨b, o + 1, none⟩)]) (by simp [settle]) (by simp [go_sem]) ?_
  refine (unlock_deferred ⟨b, o + 1, none⟩ _ _ ?_ (by simp [hH.fl])).mono ?_
  · refine (World.cell?_setCell_other _ ⟨b, o, none⟩ ⟨b, o + 1, none⟩ _ (by simp)).trans ?_
    rw [World.cell?_drew]
    exact hH.l
  rintro e u' w'' ⟨rfl, rfl, rfl⟩
  simp only [Leaves, settle]
  exact ⟨_, results_none rfl _ _ _, rfl, w', hR, hH, rfl⟩

set_option maxRecDepth 100000 in
set_option maxHeartbeats 1600000 in
/-- Do, not yet done, the lock free. -/
theorem do_first (b o : Nat) (pc : Addr) (w : World) (R : World → Prop)
    (h0 : w.cell? ⟨b, o, none⟩ = some (.int .u32 0)) (h1 : w.cell? ⟨b, o + 1, none⟩ = some (.int .i32 0))
    (f0 : w.frozen? ⟨b, o, none⟩ = false) (f1 : w.frozen? ⟨b, o + 1, none⟩ = false)
    (hF : Calls Tryz.prog 134 #[.pointer (some pc)] (w.setCell ⟨b, o + 1, none⟩ (.int .i32 1)) fun e w' => e = .returned (.tuple #[]) ∧ Held b o w' ∧ R w') :
    Calls Tryz.prog 109 #[.pointer (some ⟨b, o, none⟩), .func (.func 134) #[.pointer (some pc)] #[]] w fun e w' => e = .returned (.tuple #[]) ∧
      ∃ w2, R w2 ∧ Held b o w2 ∧ w' = (w2.drew.setCell ⟨b, o, none⟩ (.int .u32 1)).setCell ⟨b, o + 1, none⟩ (.int .i32 0) := by
  have hl := load_bool ⟨b, o, none⟩ 0 w h0
  have hnot : ∀ (x : Bool) (w : World), (Op.unary .not (.bool x)).run Tryz.prog w = .ok (.bool (!x)) w := fun _ _ => rfl
  go_enter Tryz.func109, Tryz.ntmps109
  go_wp2_with (first
    | (go_at_call 130; refine (slow_any b o pc w R h0 h1 f0 f1 hF).mono ?_; rintro e w' ⟨rfl, hE⟩)
    | (go_at_call 129; refine hl.mono ?_; rintro e w' ⟨rfl, rfl⟩))
  go_end0
  exact ⟨rfl, hE⟩

/-- Do, done already: nothing is called. -/
theorem do_done (a : Addr) (fv : Value) (w : World) (h0 : w.cell? a = some (.int .u32 1)) :
    Calls Tryz.prog 109 #[.pointer (some a), fv] w fun e w' => e = .returned (.tuple #[]) ∧ w = w' := by
  have hl := load_bool a 1 w h0
  have hnot : ∀ (x : Bool) (w : World), (Op.unary .not (.bool x)).run Tryz.prog w = .ok (.bool (!x)) w := fun _ _ => rfl
  go_enter Tryz.func109, Tryz.ntmps109
  go_wp2_with (go_at_call 129; refine hl.mono ?_; rintro e w' ⟨rfl, rfl⟩)
  go_end0
  exact ⟨rfl, rfl⟩
/- A cell of lazy over rows of int64: create, Get, Made, Asked, New. -/
open Go.RowKit

/-- The deferred function of create, where nothing panicked: nothing is recovered. -/
theorem catch_idle (w : World) :
    CallsD Tryz.prog 144 #[] .returning w fun e u' w' => e = .returned (.tuple #[]) ∧ u' = .returning ∧ w = w' := by
  refine callsD_of_wpS Tryz.func144 rfl fun c₀ cs hu => ?_
  first | apply wpS_region | (apply wpS_seq; apply wpS_region)
  cases c₀
  simp_all [wpOpsS, go_sem, recoverD, Tryz.ntmps144, Exit.thenS, bodyPostS, results, Tryz.results144]

/-- A cell's seven words. -/
structure Cel (b : Nat) (f : Value) (d : Int) (v : Value) (m : Int) (n : Int) (w : World) : Prop where
  build : w.cell? ⟨b, 0, none⟩ = some f
  done : w.cell? ⟨b, 1, none⟩ = some (.int .u32 d)
  lock : w.cell? ⟨b, 2, none⟩ = some (.int .i32 0)
  value : w.cell? ⟨b, 4, none⟩ = some v
  made : w.cell? ⟨b, 5, none⟩ = some (.int .u32 m)
  asked : w.cell? ⟨b, 6, none⟩ = some (.int .i64 n)
  free : ∀ j, w.frozen? ⟨b, j, none⟩ = false

theorem nil_eql_nil (w : World) : (binOp .eql 196 .nilFunc .nilFunc).run Tryz.prog w = .ok (.bool true) w := by kernel_rfl
theorem fn_eql_nil (g : Fn) (a b : Array Value) (w : World) : (binOp .eql 196 (.func g a b) .nilFunc).run Tryz.prog w = .ok (.bool false) w := by kernel_rfl

/-- New: a new block. -/
theorem new_fn (g : Fn) (first cap : Array Value) (w : World) :
    Calls Tryz.prog 112 #[.func g first cap] w fun e w' => e = .returned (.pointer (some ⟨w.heap.size, 0, none⟩)) ∧
      w.alloc (.cells #[.func g first cap, .int .u32 0, .int .i32 0, .int .u32 0, .slice none 0 0, .int .u32 0, .int .i64 0] 211) = w' := by
  go_enter Tryz.func112, Tryz.ntmps112
  go_wp2
  go_ret
  exact ⟨rfl, rfl⟩
/-- What create leaves behind: the value lies in the cell. -/
def Made (b vn : Nat) (R : Option Addr → Nat → World → Prop) (e : Ending) (w' : World) : Prop := e = .returned (.tuple #[]) ∧ ∃ va vc w2, R va vc w2 ∧ w2.setCell ⟨b, 4, none⟩ (.slice va vn vc) = w'
set_option maxRecDepth 100000 in
set_option maxHeartbeats 1600000 in
/-- create, with a function. -/
theorem create_fn (G : Nat) (pl : Addr) (b : Nat) (x y : Value) (vn : Nat) (w : World) (R : Option Addr → Nat → World → Prop) (he : ∀ w : World, (callFunc G #[.pointer (some pl)]).run Tryz.prog w = .ok (.enter G #[.pointer (some pl)]) w) (hb : w.cell? ⟨b, 0, none⟩ = some (.func (.func G) #[.pointer (some pl)] #[])) (hm : w.cell? ⟨b, 5, none⟩ = some x) (hz : ∀ j, w.frozen? ⟨b, j, none⟩ = false)
    (hG : Calls Tryz.prog G #[.pointer (some pl)] ((w.setCell ⟨b, 5, none⟩ (.int .u32 1)).setCell ⟨b, 0, none⟩ .nilFunc).drew fun e w' => ∃ va vc, e = .returned (.slice va vn vc) ∧ w'.cell? ⟨b, 4, none⟩ = some y ∧ w'.frozen? ⟨b, 4, none⟩ = false ∧ R va vc w') :
    Calls Tryz.prog 134 #[.pointer (some ⟨b, 0, none⟩)] w (Made b vn R) := by
  have c0 : (w.drew.setCell ⟨b, 5, none⟩ (.int .u32 1)).cell? ⟨b, 0, none⟩ = some (.func (.func G) #[.pointer (some pl)] #[]) := (World.cell?_setCell_other _ ⟨b, 5, none⟩ ⟨b, 0, none⟩ _ (by simp)).trans hb
  have z0 : (w.drew.setCell ⟨b, 5, none⟩ (.int .u32 1)).frozen? ⟨b, 0, none⟩ = false := by have := hz 0; simp [this]
  have hmf : ∀ (fn : Fn) (first cap : Array Value) (w : World), (Instr.makeFunc fn first cap).run Tryz.prog w = .ok (.func fn first cap) w := fun _ _ _ _ => rfl
  have q0 := nil_eql_nil
  have q1 := fn_eql_nil
  go_enter_defers Tryz.func134, Tryz.ntmps134
  go_wp2_with (first
    | (go_at_call 131; refine (store_true ⟨b, 5, none⟩ x _ (by go_simp) (by go_simp)).mono ?_; rintro e w' ⟨rfl, rfl⟩)
    | (refine Calls.mono hG ?_; rintro e w' ⟨va, vc, rfl, h4, z4, hR⟩))
  refine leaves_cons (f := 144) (args := #[]) (by simp) (by simp [go_sem]) ?_
  refine (catch_idle _).mono ?_
  rintro e u' w'' ⟨rfl, rfl, rfl⟩
  simp only [Leaves, settle]
  exact ⟨_, results_none rfl _ _ _, rfl, _, _, _, hR, rfl⟩

/- Get of a cell of lazy over rows of int64. -/
open Go.RowKit

theorem Cel.of_block {b : Nat} {f v : Value} {d m n : Int} {w w' : World} (C : Cel b f d v m n w) (h : w'.heap[b]? = w.heap[b]?) : Cel b f d v m n w' :=
  ⟨(World.cell?_of_block (a := ⟨b, 0, none⟩) h).trans C.build, (World.cell?_of_block (a := ⟨b, 1, none⟩) h).trans C.done, (World.cell?_of_block (a := ⟨b, 2, none⟩) h).trans C.lock,
   (World.cell?_of_block (a := ⟨b, 4, none⟩) h).trans C.value, (World.cell?_of_block (a := ⟨b, 5, none⟩) h).trans C.made, (World.cell?_of_block (a := ⟨b, 6, none⟩) h).trans C.asked,
   fun j => (World.frozen?_of_block (a := ⟨b, j, none⟩) h).trans (C.free j)⟩

/-- The world in which the cell's function is called. -/
def atBuild (b : Nat) (n1 : Int) (w : World) : World :=
  ((((w.setCell ⟨b, 6, none⟩ (.int .i64 n1)).setCell ⟨b, 2, none⟩ (.int .i32 1)).setCell ⟨b, 5, none⟩ (.int .u32 1)).setCell ⟨b, 0, none⟩ .nilFunc).drew
theorem atBuild_only (b : Nat) (n1 : Int) (w : World) : Only (· = b) w (atBuild b n1 w) :=
  (((((Only.refl (fun k => k = b) w).setCell ⟨b, 6, none⟩ _ rfl).setCell ⟨b, 2, none⟩ _ rfl).setCell ⟨b, 5, none⟩ _ rfl).setCell ⟨b, 0, none⟩ _ rfl).drew
theorem atBuild_size (b : Nat) (n1 : Int) (w : World) : (atBuild b n1 w).heap.size = w.heap.size := by simp [atBuild]

/-- What the first Get leaves behind. -/
def GotRow (b vn : Nat) (n1 : Int) (R : Option Addr → Nat → World → Prop) (e : Ending) (w' : World) : Prop := ∃ va vc, e = .returned (.slice va vn vc) ∧ Cel b .nilFunc 1 (.slice va vn vc) 1 n1 w' ∧ ∃ w2, R va vc w2 ∧ Only (· = b) w2 w' ∧ w'.heap.size = w2.heap.size
set_option maxRecDepth 100000 in
set_option maxHeartbeats 1600000 in
/-- The first Get: the function's value is laid, and handed back. -/
theorem get_fn (G : Nat) (pl : Addr) (b : Nat) (v0 : Value) (vn : Nat) (m n n1 : Int) (w : World) (R : Option Addr → Nat → World → Prop) (hs : wrap64 (n + 1) = n1)
    (he : ∀ w : World, (callFunc G #[.pointer (some pl)]).run Tryz.prog w = .ok (.enter G #[.pointer (some pl)]) w) (C : Cel b (.func (.func G) #[.pointer (some pl)] #[]) 0 v0 m n w)
    (hG : Calls Tryz.prog G #[.pointer (some pl)] (atBuild b n1 w) fun e w' => ∃ va vc, e = .returned (.slice va vn vc) ∧ w'.heap[b]? = (atBuild b n1 w).heap[b]? ∧ R va vc w') :
    Calls Tryz.prog 115 #[.pointer (some ⟨b, 0, none⟩)] w (GotRow b vn n1 R) := by
  obtain ⟨c0, c1, c2, c4, c5, c6, cz⟩ := C
  have z0 := cz 0; have z1 := cz 1; have z2 := cz 2; have z4 := cz 4; have z5 := cz 5; have z6 := cz 6
  -- the cell's words in the world of the function's call, and behind it
  have B : ∀ w' : World, w'.heap[b]? = (atBuild b n1 w).heap[b]? → w'.cell? ⟨b, 0, none⟩ = some .nilFunc ∧ w'.cell? ⟨b, 1, none⟩ = some (.int .u32 0) ∧ w'.cell? ⟨b, 2, none⟩ = some (.int .i32 1) ∧ w'.cell? ⟨b, 4, none⟩ = some v0 ∧
      w'.cell? ⟨b, 5, none⟩ = some (.int .u32 1) ∧ w'.cell? ⟨b, 6, none⟩ = some (.int .i64 n1) ∧ ∀ j, w'.frozen? ⟨b, j, none⟩ = false := by
    intro w' hk
    refine ⟨(World.cell?_of_block (a := ⟨b, 0, none⟩) hk).trans ?_, (World.cell?_of_block (a := ⟨b, 1, none⟩) hk).trans ?_, (World.cell?_of_block (a := ⟨b, 2, none⟩) hk).trans ?_, (World.cell?_of_block (a := ⟨b, 4, none⟩) hk).trans ?_,
      (World.cell?_of_block (a := ⟨b, 5, none⟩) hk).trans ?_, (World.cell?_of_block (a := ⟨b, 6, none⟩) hk).trans ?_, fun j => (World.frozen?_of_block (a := ⟨b, j, none⟩) hk).trans ?_⟩ <;> unfold atBuild
    all_goals first | go_simp | simp [cz]
  have c := create_fn G pl b (.int .u32 m) v0 vn ((w.setCell ⟨b, 6, none⟩ (.int .i64 n1)).setCell ⟨b, 2, none⟩ (.int .i32 1)) (fun va vc w' => w'.heap[b]? = (atBuild b n1 w).heap[b]? ∧ R va vc w') he
    (by go_simp) (by go_simp) (by intro j; simp [cz]) (hG.mono fun e w' ⟨va, vc, h1, h2, h3⟩ => ⟨va, vc, h1, (B w' h2).2.2.2.1, (B w' h2).2.2.2.2.2.2 4, h2, h3⟩)
  have hF := c.mono (R' := fun e w' => e = .returned (.tuple #[]) ∧ Held b 1 w' ∧ (∃ va vc, (w'.cell? ⟨b, 0, none⟩ = some .nilFunc ∧ w'.cell? ⟨b, 4, none⟩ = some (.slice va vn vc) ∧ w'.cell? ⟨b, 5, none⟩ = some (.int .u32 1) ∧ w'.cell? ⟨b, 6, none⟩ = some (.int .i64 n1) ∧ ∀ j, w'.frozen? ⟨b, j, none⟩ = false) ∧
      ∃ w2, R va vc w2 ∧ Only (· = b) w2 w' ∧ w'.heap.size = w2.heap.size))
    (by
      rintro e w' ⟨h1, va, vc, w2, ⟨hk, hR⟩, rfl⟩
      obtain ⟨k0, k1, k2, k4, k5, k6, kz⟩ := B w2 hk
      exact ⟨h1, ⟨by go_simp, by go_simp, by simp [kz], by simp [kz]⟩, va, vc, ⟨by go_simp, by go_simp, by go_simp, by go_simp, by intro j; simp [kz]⟩, w2, hR, (Only.refl (fun k => k = b) w2).setCell ⟨b, 4, none⟩ _ rfl, by simp⟩)
  have hd := do_first b 1 ⟨b, 0, none⟩ (w.setCell ⟨b, 6, none⟩ (.int .i64 n1)) _ (by go_simp) (by go_simp) (by simp [cz]) (by simp [cz]) hF
  have hmf : ∀ (fn : Fn) (first cap : Array Value) (w : World), (Instr.makeFunc fn first cap).run Tryz.prog w = .ok (.func fn first cap) w := fun _ _ _ _ => rfl
  go_enter Tryz.func115, Tryz.ntmps115
  go_wp2_with (first
    | (go_at_call 108; refine (add_int ⟨b, 6, none⟩ n 1 n1 hs _ c6 z6).mono ?_; rintro e w' ⟨rfl, rfl⟩)
    | (go_at_call 109; refine hd.mono ?_; rintro e w' ⟨rfl, w3, ⟨va, vc, ⟨k0, k4, k5, k6, kz⟩, w2, hR, hO, hsz⟩, ⟨k1, k2, _, _⟩, rfl⟩))
  go_ret
  refine ⟨va, vc, rfl, ⟨by go_simp, by go_simp, by go_simp, by go_simp, by go_simp, by go_simp, by intro j; simp [kz]⟩, w2, hR, hO.trans ?_, by simpa using hsz⟩
  exact (((Only.refl (fun k => k = b) w3).setCell ⟨b, 1, none⟩ _ rfl).setCell ⟨b, 2, none⟩ _ rfl).drew

set_option maxRecDepth 100000 in
set_option maxHeartbeats 1600000 in
/-- A later Get: the value, and one question more. -/
theorem get_again (b : Nat) (f : Value) (va : Option Addr) (vn vc : Nat) (m n n1 : Int) (w : World) (hs : wrap64 (n + 1) = n1) (C : Cel b f 1 (.slice va vn vc) m n w) :
    Calls Tryz.prog 115 #[.pointer (some ⟨b, 0, none⟩)] w fun e w' => e = .returned (.slice va vn vc) ∧ Cel b f 1 (.slice va vn vc) m n1 w' ∧ Only (· = b) w w' ∧ w'.heap.size = w.heap.size := by
  obtain ⟨c0, c1, c2, c4, c5, c6, cz⟩ := C
  have z6 := cz 6
  have hd := do_done ⟨b, 1, none⟩ (.func (.func 134) #[.pointer (some ⟨b, 0, none⟩)] #[]) (w.setCell ⟨b, 6, none⟩ (.int .i64 n1)) (by go_simp)
  have hmf : ∀ (fn : Fn) (first cap : Array Value) (w : World), (Instr.makeFunc fn first cap).run Tryz.prog w = .ok (.func fn first cap) w := fun _ _ _ _ => rfl
  go_enter Tryz.func115, Tryz.ntmps115
  go_wp2_with (first
    | (go_at_call 108; refine (add_int ⟨b, 6, none⟩ n 1 n1 hs _ c6 z6).mono ?_; rintro e w' ⟨rfl, rfl⟩)
    | (go_at_call 109; refine hd.mono ?_; rintro e w' ⟨rfl, rfl⟩))
  go_ret
  exact ⟨rfl, ⟨by go_simp, by go_simp, by go_simp, by go_simp, by go_simp, by go_simp, by intro j; simp [cz]⟩, (Only.refl (fun k => k = b) w).setCell ⟨b, 6, none⟩ _ rfl, by simp⟩
end Go.Proofs.YtibjboacjobaoaaGreat

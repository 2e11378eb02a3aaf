/- Get of a cell of lazy over rows of int64. -/
import Derived.Test.YtfeegohjgecjgaaWzC
namespace Go.Proofs.Ytfeegohjgecjgaa
open Go.RowKit

theorem Cel.of_block {b : Nat} {f v : Value} {d m n : Int} {w w' : World} (C : Cel b f d v m n w) (h : w'.heap[b]? = w.heap[b]?) : Cel b f d v m n w' :=
  ⟨(World.cell?_of_block (a := ⟨b, 0, none⟩) h).trans C.build, (World.cell?_of_block (a := ⟨b, 1, none⟩) h).trans C.done, (World.cell?_of_block (a := ⟨b, 2, none⟩) h).trans C.lock,
   (World.cell?_of_block (a := ⟨b, 4, none⟩) h).trans C.value, (World.cell?_of_block (a := ⟨b, 5, none⟩) h).trans C.made, (World.cell?_of_block (a := ⟨b, 6, none⟩) h).trans C.asked,
   fun j => (World.frozen?_of_block (a := ⟨b, j, none⟩) h).trans (C.free j)⟩

/-- The world in which the cell's function is called. -/
def atBuild (b : Nat) (n1 : Int) (w : World) : World :=
  ((((w.setCell ⟨b, 6, none⟩ (.int .i64 n1)).setCell ⟨b, 2, none⟩ (.int .i32 1)).setCell ⟨b, 5, none⟩ (.int .u32 1)).setCell ⟨b, 0, none⟩ .nilFunc).drew
theorem atBuild_only (b : Nat) (n1 : Int) (w : World) : Only (· = b) w (atBuild b n1 w) :=
  (((((Only.refl (fun k => k = b) w).setCell ⟨b, 6, none⟩ _ rfl).setCell ⟨b, 2, none⟩ _ rfl).setCell ⟨b, 5, none⟩ _ rfl).setCell ⟨b, 0, none⟩ _ rfl).drew
theorem atBuild_size (b : Nat) (n1 : Int) (w : World) : (atBuild b n1 w).heap.size = w.heap.size := by simp [atBuild]

/-- What the first Get leaves behind. -/
def GotRow (b vn : Nat) (n1 : Int) (R : Option Addr → Nat → World → Prop) (e : Ending) (w' : World) : Prop := ∃ va vc, e = .returned (.slice va vn vc) ∧ Cel b .nilFunc 1 (.slice va vn vc) 1 n1 w' ∧ ∃ w2, R va vc w2 ∧ Only (· = b) w2 w' ∧ w'.heap.size = w2.heap.size
set_option maxRecDepth 100000 in
set_option maxHeartbeats 1600000 in
/-- The first Get: the function's value is laid, and handed back. -/
theorem get_fn (G : Nat) (pl : Addr) (b : Nat) (v0 : Value) (vn : Nat) (m n n1 : Int) (w : World) (R : Option Addr → Nat → World → Prop) (hs : wrap64 (n + 1) = n1)
    (he : ∀ w : World, (callFunc G #[.pointer (some pl)]).run Try.prog w = .ok (.enter G #[.pointer (some pl)]) w) (C : Cel b (.func (.func G) #[.pointer (some pl)] #[]) 0 v0 m n w)
    (hG : Calls Try.prog G #[.pointer (some pl)] (atBuild b n1 w) fun e w' => ∃ va vc, e = .returned (.slice va vn vc) ∧ w'.heap[b]? = (atBuild b n1 w).heap[b]? ∧ R va vc w') :
    Calls Try.prog 84 #[.pointer (some ⟨b, 0, none⟩)] w (GotRow b vn n1 R) := by
  obtain ⟨c0, c1, c2, c4, c5, c6, cz⟩ := C
  have z0 := cz 0; have z1 := cz 1; have z2 := cz 2; have z4 := cz 4; have z5 := cz 5; have z6 := cz 6
  -- the cell's words in the world of the function's call, and behind it
  have B : ∀ w' : World, w'.heap[b]? = (atBuild b n1 w).heap[b]? → w'.cell? ⟨b, 0, none⟩ = some .nilFunc ∧ w'.cell? ⟨b, 1, none⟩ = some (.int .u32 0) ∧ w'.cell? ⟨b, 2, none⟩ = some (.int .i32 1) ∧ w'.cell? ⟨b, 4, none⟩ = some v0 ∧
      w'.cell? ⟨b, 5, none⟩ = some (.int .u32 1) ∧ w'.cell? ⟨b, 6, none⟩ = some (.int .i64 n1) ∧ ∀ j, w'.frozen? ⟨b, j, none⟩ = false := by
    intro w' hk
    refine ⟨(World.cell?_of_block (a := ⟨b, 0, none⟩) hk).trans ?_, (World.cell?_of_block (a := ⟨b, 1, none⟩) hk).trans ?_, (World.cell?_of_block (a := ⟨b, 2, none⟩) hk).trans ?_, (World.cell?_of_block (a := ⟨b, 4, none⟩) hk).trans ?_,
      (World.cell?_of_block (a := ⟨b, 5, none⟩) hk).trans ?_, (World.cell?_of_block (a := ⟨b, 6, none⟩) hk).trans ?_, fun j => (World.frozen?_of_block (a := ⟨b, j, none⟩) hk).trans ?_⟩ <;> unfold atBuild
    all_goals first | go_simp | simp [cz]
  have c := create_fn G pl b (.int .u32 m) v0 vn ((w.setCell ⟨b, 6, none⟩ (.int .i64 n1)).setCell ⟨b, 2, none⟩ (.int .i32 1)) (fun va vc w' => w'.heap[b]? = (atBuild b n1 w).heap[b]? ∧ R va vc w') he
    (by go_simp) (by go_simp) (by intro j; simp [cz]) (hG.mono fun e w' ⟨va, vc, h1, h2, h3⟩ => ⟨va, vc, h1, (B w' h2).2.2.2.1, (B w' h2).2.2.2.2.2.2 4, h2, h3⟩)
  have hF := c.mono (R' := fun e w' => e = .returned (.tuple #[]) ∧ Held b 1 w' ∧ (∃ va vc, (w'.cell? ⟨b, 0, none⟩ = some .nilFunc ∧ w'.cell? ⟨b, 4, none⟩ = some (.slice va vn vc) ∧ w'.cell? ⟨b, 5, none⟩ = some (.int .u32 1) ∧ w'.cell? ⟨b, 6, none⟩ = some (.int .i64 n1) ∧ ∀ j, w'.frozen? ⟨b, j, none⟩ = false) ∧
      ∃ w2, R va vc w2 ∧ Only (· = b) w2 w' ∧ w'.heap.size = w2.heap.size))
    (by
      rintro e w' ⟨h1, va, vc, w2, ⟨hk, hR⟩, rfl⟩
      obtain ⟨k0, k1, k2, k4, k5, k6, kz⟩ := B w2 hk
      exact ⟨h1, ⟨by go_simp, by go_simp, by simp [kz], by simp [kz]⟩, va, vc, ⟨by go_simp, by go_simp, by go_simp, by go_simp, by intro j; simp [kz]⟩, w2, hR, (Only.refl (fun k => k = b) w2).setCell ⟨b, 4, none⟩ _ rfl, by simp⟩)
  have hd := do_first b 1 ⟨b, 0, none⟩ (w.setCell ⟨b, 6, none⟩ (.int .i64 n1)) _ (by go_simp) (by go_simp) (by simp [cz]) (by simp [cz]) hF
  have hmf : ∀ (fn : Fn) (first cap : Array Value) (w : World), (Instr.makeFunc fn first cap).run Try.prog w = .ok (.func fn first cap) w := fun _ _ _ _ => rfl
  go_enter Try.func84, Try.ntmps84
  go_wp2_with (first
    | (go_at_call 92; refine (add_int ⟨b, 6, none⟩ n 1 n1 hs _ c6 z6).mono ?_; rintro e w' ⟨rfl, rfl⟩)
    | (go_at_call 93; refine hd.mono ?_; rintro e w' ⟨rfl, w3, ⟨va, vc, ⟨k0, k4, k5, k6, kz⟩, w2, hR, hO, hsz⟩, ⟨k1, k2, _, _⟩, rfl⟩))
  go_ret
  refine ⟨va, vc, rfl, ⟨by go_simp, by go_simp, by go_simp, by go_simp, by go_simp, by go_simp, by intro j; simp [kz]⟩, w2, hR, hO.trans ?_, by simpa using hsz⟩
  exact (((Only.refl (fun k => k = b) w3).setCell ⟨b, 1, none⟩ _ rfl).setCell ⟨b, 2, none⟩ _ rfl).drew

set_option maxRecDepth 100000 in
set_option maxHeartbeats 1600000 in
/-- A later Get: the value, and one question more. -/
theorem get_again (b : Nat) (f : Value) (va : Option Addr) (vn vc : Nat) (m n n1 : Int) (w : World) (hs : wrap64 (n + 1) = n1) (C : Cel b f 1 (.slice va vn vc) m n w) :
    Calls Try.prog 84 #[.pointer (some ⟨b, 0, none⟩)] w fun e w' => e = .returned (.slice va vn vc) ∧ Cel b f 1 (.slice va vn vc) m n1 w' ∧ Only (· = b) w w' ∧ w'.heap.size = w.heap.size := by
  obtain ⟨c0, c1, c2, c4, c5, c6, cz⟩ := C
  have z6 := cz 6
  have hd := do_done ⟨b, 1, none⟩ (.func (.func 94) #[.pointer (some ⟨b, 0, none⟩)] #[]) (w.setCell ⟨b, 6, none⟩ (.int .i64 n1)) (by go_simp)
  have hmf : ∀ (fn : Fn) (first cap : Array Value) (w : World), (Instr.makeFunc fn first cap).run Try.prog w = .ok (.func fn first cap) w := fun _ _ _ _ => rfl
  go_enter Try.func84, Try.ntmps84
  go_wp2_with (first
    | (go_at_call 92; refine (add_int ⟨b, 6, none⟩ n 1 n1 hs _ c6 z6).mono ?_; rintro e w' ⟨rfl, rfl⟩)
    | (go_at_call 93; refine hd.mono ?_; rintro e w' ⟨rfl, rfl⟩))
  go_ret
  exact ⟨rfl, ⟨by go_simp, by go_simp, by go_simp, by go_simp, by go_simp, by go_simp, by intro j; simp [cz]⟩, (Only.refl (fun k => k = b) w).setCell ⟨b, 6, none⟩ _ rfl, by simp⟩
end Go.Proofs.Ytfeegohjgecjgaa

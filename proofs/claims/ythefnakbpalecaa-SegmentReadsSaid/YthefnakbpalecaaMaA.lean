import Derived.Test.YthefnakbpalecaaLzA
import Derived.WalkMore
import Derived.Deep.QuietTactic
import Derived.BigQuiet
import Derived.RegionCalls
import Derived.StillTailTactics
import Derived.Deep.RegionHeld3
import Derived.Outline
namespace Go.Proofs.Ythefnakbpalecaa
open Go.RowKit
/- A meter: its counters in memory, and what its small calls do. -/
open Go.RowKit

/-- The greatest value of a counter. -/
def TOP : Int := 4611686018427387904

/-- A meter with the values vs lies in block b. -/
structure Met (b : Nat) (vs : List Int) (w : World) : Prop where
  n : w.cell? ⟨b, 0, none⟩ = some (.int .i64 (vs.length : Int))
  v : ∀ i, i < vs.length → w.cell? ⟨b, 1 + i, none⟩ = some (.int .u64 (vs.getD i 0))
  free : ∀ j, w.frozen? ⟨b, j, none⟩ = false
  few : vs.length ≤ 16
  low : ∀ x ∈ vs, 0 ≤ x ∧ x ≤ TOP

theorem Met.of_block {b : Nat} {vs : List Int} {w w' : World} (M : Met b vs w) (h : w'.heap[b]? = w.heap[b]?) : Met b vs w' :=
  ⟨(World.cell?_of_block (a := ⟨b, 0, none⟩) h).trans M.n, fun i hi => (World.cell?_of_block (a := ⟨b, 1 + i, none⟩) h).trans (M.v i hi), fun j => (World.frozen?_of_block (a := ⟨b, j, none⟩) h).trans (M.free j), M.few, M.low⟩
theorem Met.lt {b : Nat} {vs : List Int} {w : World} (M : Met b vs w) : b < w.heap.size := (cell_spot M.n).2
theorem Met.at_low {b : Nat} {vs : List Int} {w : World} (M : Met b vs w) (i : Nat) (hi : i < vs.length) : 0 ≤ vs.getD i 0 ∧ vs.getD i 0 ≤ TOP := M.low _ (by simp [hi])
theorem Met.set {b : Nat} {vs : List Int} {w : World} (M : Met b vs w) (i : Nat) (hi : i < vs.length) (x : Int) (h0 : 0 ≤ x) (h1 : x ≤ TOP) : Met b (vs.set i x) (w.setCell ⟨b, 1 + i, none⟩ (.int .u64 x)) := by
  refine ⟨?_, ?_, ?_, by simpa using M.few, ?_⟩
  · rw [List.length_set]
    exact (World.cell?_setCell_other _ ⟨b, 1 + i, none⟩ ⟨b, 0, none⟩ _ (fun e => by injection e with e1 e2; omega)).trans M.n
  · intro j hj
    rw [List.length_set] at hj
    by_cases h : j = i
    · subst h
      rw [World.cell?_setCell_same _ _ _ (M.v j hi)]
      simp [hj]
    · refine (World.cell?_setCell_other _ ⟨b, 1 + i, none⟩ ⟨b, 1 + j, none⟩ _ (fun e => by injection e with e1 e2; omega)).trans ?_
      rw [M.v j hj]
      simp [List.getElem?_set, Ne.symm h]
  · intro j; simpa using M.free j
  · intro y hy
    rcases List.mem_or_eq_of_mem_set hy with h | rfl
    · exact M.low y h
    · exact ⟨h0, h1⟩

/-- No meter: nil, or one that no call made. -/
def Nob (v : Value) (w : World) : Prop := v = .pointer none ∨ ∃ b, v = .pointer (some ⟨b, 0, none⟩) ∧ w.cell? ⟨b, 0, none⟩ = some (.int .i64 0)

theorem len_met (b : Nat) (x : Int) (w : World) (h : w.cell? ⟨b, 0, none⟩ = some (.int .i64 x)) :
    Calls Try.prog 153 #[.pointer (some ⟨b, 0, none⟩)] w fun e w' => e = .returned (.int .i64 x) ∧ w = w' := by
  go_enter Try.func153, Try.ntmps153
  go_wp2
  go_ret
  exact ⟨rfl, rfl⟩
theorem len_nob (v : Value) (w : World) (h : Nob v w) :
    Calls Try.prog 153 #[v] w fun e w' => e = .returned (.int .i64 0) ∧ w = w' := by
  rcases h with rfl | ⟨b, rfl, h⟩
  · go_enter Try.func153, Try.ntmps153
    go_wp2
    go_ret
    exact ⟨rfl, rfl⟩
  · exact len_met b 0 w h

theorem load_u64 (a : Addr) (d : Int) (w : World) (hc : w.cell? a = some (.int .u64 d)) :
    Calls Try.prog 141 #[.pointer (some a)] w fun e w' => e = .returned (.int .u64 d) ∧ w = w' := by
  have hl := run_call_load (P := Try.prog) Try.func154 (by kernel_rfl) (by kernel_rfl) (by kernel_rfl) .u64 (by kernel_rfl) hc
  go_enter Try.func141, Try.ntmps141
  go_wp2
  go_ret
  exact ⟨rfl, rfl⟩
theorem cas_u64 (a : Addr) (x y : Int) (w : World) (hc : w.cell? a = some (.int .u64 x)) (hz : w.frozen? a = false) :
    Calls Try.prog 168 #[.pointer (some a), .int .u64 x, .int .u64 y] w fun e w' => e = .returned (.bool true) ∧ w.setCell a (.int .u64 y) = w' := by
  have hcas := run_call_cas_hit (P := Try.prog) Try.func175 (by kernel_rfl) (by kernel_rfl) (by kernel_rfl) .u64 (by kernel_rfl) (y := y) hc hz
  go_enter Try.func168, Try.ntmps168
  go_wp2
  go_ret
  exact ⟨rfl, rfl⟩

theorem has_yes (b : Nat) (vs : List Int) (i : Nat) (w : World) (M : Met b vs w) (hi : i < vs.length) :
    Calls Try.prog 140 #[.pointer (some ⟨b, 0, none⟩), .int .i64 (i : Int)] w fun e w' => e = .returned (.bool true) ∧ w = w' := by
  have h1 : decide ((i : Int) ≥ 0) = true := by simp
  have h2 : decide (0 ≤ (i : Int)) = true := by simp
  have h3 : decide (i < vs.length) = true := by simp [hi]
  have h4 : decide ((i : Int) < (vs.length : Int)) = true := by simp; omega
  go_enter Try.func140, Try.ntmps140
  go_wp2_with (go_at_call 153; refine (len_met b _ _ M.n).mono ?_; rintro e w' ⟨rfl, rfl⟩)
  go_ret
  exact ⟨rfl, rfl⟩
theorem has_neg (v : Value) (i : Int) (w : World) (hi : i < 0) :
    Calls Try.prog 140 #[v, .int .i64 i] w fun e w' => e = .returned (.bool false) ∧ w = w' := by
  have h1 : decide (i ≥ 0) = false := by simp; omega
  have h2 : decide (0 ≤ i) = false := by simp; omega
  go_enter Try.func140, Try.ntmps140
  go_wp2_with fail
  go_ret
  exact ⟨rfl, rfl⟩
theorem has_past (v : Value) (n : Int) (i : Int) (w : World) (hl : Calls Try.prog 153 #[v] w fun e w' => e = .returned (.int .i64 n) ∧ w = w') (h0 : 0 ≤ i) (hi : n ≤ i) :
    Calls Try.prog 140 #[v, .int .i64 i] w fun e w' => e = .returned (.bool false) ∧ w = w' := by
  have h1 : decide (i ≥ 0) = true := by simp [h0]
  have h2 : decide (0 ≤ i) = true := by simp [h0]
  have h3 : decide (i < n) = false := by simp [hi]
  go_enter Try.func140, Try.ntmps140
  go_wp2_with (go_at_call 153; refine hl.mono ?_; rintro e w' ⟨rfl, rfl⟩)
  go_ret
  exact ⟨rfl, rfl⟩
theorem has_no (v : Value) (n : Int) (i : Int) (w : World) (hl : Calls Try.prog 153 #[v] w fun e w' => e = .returned (.int .i64 n) ∧ w = w') (h : i < 0 ∨ n ≤ i) :
    Calls Try.prog 140 #[v, .int .i64 i] w fun e w' => e = .returned (.bool false) ∧ w = w' := by
  by_cases h0 : i < 0
  · exact has_neg v i w h0
  · exact has_past v n i w hl (by omega) (by omega)
/- The functions that change hands a counter to, and change. -/
open Go.RowKit

/-- What the function of Add makes of a counter. -/
theorem add1_ok (p : Addr) (old x : Int) (w : World) (hp : w.cell? p = some (.int .u64 x)) (h0 : 0 ≤ old) (h1 : 0 ≤ x) (h : old + x ≤ TOP) :
    Calls Try.prog 152 #[.int .u64 old, .pointer (some p)] w fun e w' => e = .returned (.tuple #[.int .u64 (old + x), .int .i64 0]) ∧ w = w' := by
  have e1 : IntKind.u64.wrap (4611686018427387904 - old) = 4611686018427387904 - old := by unfold TOP at h; rw [IntKind.wrap_u64]; omega
  have e2 : IntKind.u64.wrap (old + x) = old + x := by unfold TOP at h; rw [IntKind.wrap_u64]; omega
  have e3 : decide (4611686018427387904 - old < x) = false := by unfold TOP at h; simp; omega
  clear h
  go_enter Try.func152, Try.ntmps152
  go_wp2
  go_ret2
  exact ⟨rfl, rfl⟩
theorem add1_no (p : Addr) (old x : Int) (w : World) (hp : w.cell? p = some (.int .u64 x)) (h0 : 0 ≤ old) (h0' : old ≤ TOP) (h : TOP < old + x) :
    Calls Try.prog 152 #[.int .u64 old, .pointer (some p)] w fun e w' => e = .returned (.tuple #[.int .u64 0, .int .i64 10]) ∧ w = w' := by
  have e1 : IntKind.u64.wrap (4611686018427387904 - old) = 4611686018427387904 - old := by unfold TOP at h0'; rw [IntKind.wrap_u64]; omega
  have e3 : decide (4611686018427387904 - old < x) = true := by unfold TOP at h; simp; omega
  clear h h0'
  go_enter Try.func152, Try.ntmps152
  go_wp2
  go_ret2
  exact ⟨rfl, rfl⟩
/- change: a counter by a function. -/
open Go.RowKit

theorem change_nob (v : Value) (i : Int) (fv : Value) (w : World) (h : Nob v w) :
    Calls Try.prog 151 #[v, .int .i64 i, fv] w fun e w' => e = .returned (.tuple #[.int .u64 0, .int .u64 0, .int .i64 1]) ∧ w = w' := by
  go_enter Try.func151, Try.ntmps151
  go_wp2_with fail
  go_step3
  go_wp2_with (go_at_call 153; refine (len_nob v _ h).mono ?_; rintro e w' ⟨rfl, rfl⟩)
  rw [Exit.noGoto_ret]
  go_ret3
  exact ⟨rfl, rfl⟩
theorem change_out (b : Nat) (vs : List Int) (i : Int) (fv : Value) (w : World) (M : Met b vs w) (h0 : 0 < vs.length) (h : i < 0 ∨ (vs.length : Int) ≤ i) :
    Calls Try.prog 151 #[.pointer (some ⟨b, 0, none⟩), .int .i64 i, fv] w fun e w' => e = .returned (.tuple #[.int .u64 0, .int .u64 0, .int .i64 2]) ∧ w = w' := by
  have d1 : ((vs.length : Int) == 0) = false := by rw [beq_eq_false_iff_ne]; omega
  have d2 : decide ((vs.length : Int) = 0) = false := decide_eq_false (by omega)
  have hh := has_no (.pointer (some ⟨b, 0, none⟩)) vs.length i w (len_met b _ w M.n) h
  go_enter Try.func151, Try.ntmps151
  go_wp2_with fail
  go_step3
  go_wp2_with (first
    | (go_at_call 153; refine (len_met b _ _ M.n).mono ?_; rintro e w' ⟨rfl, rfl⟩)
    | (go_at_call 140; refine hh.mono ?_; rintro e w' ⟨rfl, rfl⟩))
  rw [Exit.noGoto_ret]
  go_ret3
  exact ⟨rfl, rfl⟩
set_option maxRecDepth 100000 in
set_option maxHeartbeats 1600000 in
theorem change_no (b : Nat) (vs : List Int) (i : Nat) (G : Nat) (cap : Array Value) (er x y : Int) (w : World) (M : Met b vs w) (hv : w.cell? ⟨b, 1 + i, none⟩ = some (.int .u64 x)) (hi : i < vs.length) (he : ∀ w : World, (callFunc G (#[.int .u64 x] ++ cap)).run Try.prog w = .ok (.enter G (#[.int .u64 x] ++ cap)) w)
    (hG : Calls Try.prog G (#[.int .u64 x] ++ cap) w fun e w' => e = .returned (.tuple #[.int .u64 y, .int .i64 er]) ∧ ∃ n, w' = w.drewN n) (hz : ¬ er = 0) :
    Calls Try.prog 151 #[.pointer (some ⟨b, 0, none⟩), .int .i64 (i : Int), .func (.func G) #[] cap] w fun e w' => e = .returned (.tuple #[.int .u64 0, .int .u64 0, .int .i64 er]) ∧ ∃ n, w' = w.drewN n := by
  have d1 : ((vs.length : Int) == 0) = false := by rw [beq_eq_false_iff_ne]; omega
  have d2 : decide ((vs.length : Int) = 0) = false := decide_eq_false (by omega)
  have hh := has_yes b vs i w M hi
  have hl := load_u64 ⟨b, 1 + i, none⟩ _ w hv
  have hf := M.few
  have i0 : (0 : Int) ≤ (i : Int) := by omega
  have i16 : (i : Int) < 16 := by omega
  have z1 : (er != 0) = true := by simp [hz]
  go_enter Try.func151, Try.ntmps151
  go_wp2_with fail
  go_step3
  go_wp2_with (first
    | (go_at_call 153; refine (len_met b _ _ M.n).mono ?_; rintro e w' ⟨rfl, rfl⟩)
    | (go_at_call 140; refine hh.mono ?_; rintro e w' ⟨rfl, rfl⟩)
    | (go_at_call 141; refine hl.mono ?_; rintro e w' ⟨rfl, rfl⟩))
  go_step3
  go_wp2_with (first
    | (go_at_call 141; refine hl.mono ?_; rintro e w' ⟨rfl, rfl⟩)
    | (refine Calls.mono hG ?_; rintro e w' ⟨rfl, nd, rfl⟩))
  rw [Exit.noGoto_ret]
  go_ret3
  exact ⟨rfl, nd, rfl⟩
set_option maxRecDepth 100000 in
set_option maxHeartbeats 1600000 in
theorem change_ok (b : Nat) (vs : List Int) (i : Nat) (G : Nat) (cap : Array Value) (x y : Int) (w : World) (M : Met b vs w) (hv : w.cell? ⟨b, 1 + i, none⟩ = some (.int .u64 x)) (hi : i < vs.length) (he : ∀ w : World, (callFunc G (#[.int .u64 x] ++ cap)).run Try.prog w = .ok (.enter G (#[.int .u64 x] ++ cap)) w)
    (hG : Calls Try.prog G (#[.int .u64 x] ++ cap) w fun e w' => e = .returned (.tuple #[.int .u64 y, .int .i64 0]) ∧ ∃ n, w' = w.drewN n) :
    Calls Try.prog 151 #[.pointer (some ⟨b, 0, none⟩), .int .i64 (i : Int), .func (.func G) #[] cap] w fun e w' => e = .returned (.tuple #[.int .u64 x, .int .u64 y, .int .i64 0]) ∧ ∃ n, w' = (w.drewN n).setCell ⟨b, 1 + i, none⟩ (.int .u64 y) := by
  have d1 : ((vs.length : Int) == 0) = false := by rw [beq_eq_false_iff_ne]; omega
  have d2 : decide ((vs.length : Int) = 0) = false := decide_eq_false (by omega)
  have hh := has_yes b vs i w M hi
  have hl := load_u64 ⟨b, 1 + i, none⟩ _ w hv
  have hc : ∀ n, Calls Try.prog 168 #[.pointer (some ⟨b, 1 + i, none⟩), .int .u64 x, .int .u64 y] (w.drewN n) fun e w' => e = .returned (.bool true) ∧ (w.drewN n).setCell ⟨b, 1 + i, none⟩ (.int .u64 y) = w' := fun n => cas_u64 _ _ _ _ (by simpa using hv) (by simpa using M.free (1 + i))
  have hf := M.few
  have i0 : (0 : Int) ≤ (i : Int) := by omega
  have i16 : (i : Int) < 16 := by omega
  go_enter Try.func151, Try.ntmps151
  go_wp2_with fail
  go_step3
  go_wp2_with (first
    | (go_at_call 153; refine (len_met b _ _ M.n).mono ?_; rintro e w' ⟨rfl, rfl⟩)
    | (go_at_call 140; refine hh.mono ?_; rintro e w' ⟨rfl, rfl⟩))
  go_step3
  go_wp2_with (first
    | (go_at_call 141; refine hl.mono ?_; rintro e w' ⟨rfl, rfl⟩)
    | (go_at_call 168; refine (hc _).mono ?_; rintro e w' ⟨rfl, rfl⟩)
    | (refine Calls.mono hG ?_; rintro e w' ⟨rfl, nd, rfl⟩))
  rw [Exit.noGoto_ret]
  go_ret3
  exact ⟨rfl, nd, rfl⟩
/- The calls of a meter: New, Add, Raise, Swap, Once, Get. -/
open Go.RowKit

theorem Only.drewN {X : Nat → Prop} {w w' : World} (h : Only X w w') (n : Nat) : Only X w (w'.drewN n) := ⟨h.os, h.tape, h.output, h.size, h.block⟩
theorem Nob.kept {v : Value} {w w' : World} (h : Nob v w) (hb : Below w.heap.size w w') : Nob v w' := by
  rcases h with rfl | ⟨b, rfl, h⟩
  · exact .inl rfl
  · exact .inr ⟨b, rfl, (hb.cell (p := ⟨b, 0, none⟩) (cell_spot h).2).trans h⟩
theorem Met.kept {b : Nat} {vs : List Int} {w w' : World} (M : Met b vs w) (hb : Below w.heap.size w w') : Met b vs w' := M.of_block (hb.block b M.lt)
theorem Met.drewN {b : Nat} {vs : List Int} {w : World} (M : Met b vs w) (n : Nat) : Met b vs (w.drewN n) := M.of_block rfl
theorem alloc_b (w : World) (o : Obj) : Below w.heap.size w (w.alloc o) := (Below.refl _ _).alloc (Nat.le_refl _) _

theorem new_none (n : Int) (w : World) (h : n < 1 ∨ 16 < n) : Calls Try.prog 77 #[.int .i64 n] w fun e w' => e = .returned (.pointer none) ∧ w = w' := by
  by_cases h1 : n < 1
  · have d1 : decide (n < 1) = true := by simp [h1]
    go_enter Try.func77, Try.ntmps77
    go_wp2_with fail
    go_ret
    exact ⟨rfl, rfl⟩
  · have d1 : decide (n < 1) = false := by simp; omega
    have d2 : decide (16 < n) = true := by simp; omega
    go_enter Try.func77, Try.ntmps77
    go_wp2_with fail
    go_ret
    exact ⟨rfl, rfl⟩
theorem new_met (n : Nat) (w : World) (h : 1 ≤ n) (h' : n ≤ 16) : Calls Try.prog 77 #[.int .i64 (n : Int)] w fun e w' => e = .returned (.pointer (some ⟨w.heap.size, 0, none⟩)) ∧ (Below w.heap.size w w' ∧ Met w.heap.size (List.replicate n 0) w' ∧ w'.heap.size = w.heap.size + 1) := by
  have d1 : decide ((n : Int) < 1) = false := by simp; omega
  have d2 : decide (16 < (n : Int)) = false := by simp; omega
  go_enter Try.func77, Try.ntmps77
  go_wp2_with fail
  go_ret
  refine ⟨rfl, alloc_b _ _, ⟨?_, ?_, ?_, by simp [h'], ?_⟩, by simp⟩
  · rw [List.length_replicate]; rw [World.cell?_alloc_at _ _ _ _ rfl]; rfl
  · intro i hi
    rw [List.length_replicate] at hi
    rw [World.cell?_alloc_at _ _ _ _ rfl]
    have hi' : i < 16 := by omega
    have e0 : (List.replicate n (0 : Int)).getD i 0 = 0 := by simp [hi]
    rw [e0]
    clear e0 hi
    iterate 16 (rcases i with _ | i; · rfl)
    omega
  · intro j; simp
  · intro x hx
    rw [List.mem_replicate] at hx
    unfold TOP
    omega

theorem add_nob (v : Value) (i x : Int) (w : World) (h : Nob v w) : Calls Try.prog 139 #[v, .int .i64 i, .int .u64 x] w fun e w' => e = .returned (.tuple #[.int .u64 0, .int .i64 1]) ∧ Below w.heap.size w w' := by
  have hmf : ∀ (fn : Fn) (first cap : Array Value) (w : World), (Instr.makeFunc fn first cap).run Try.prog w = .ok (.func fn first cap) w := fun _ _ _ _ => rfl
  go_enter Try.func139, Try.ntmps139
  go_wp2_with (go_at_call 151; refine (change_nob v _ _ _ (h.kept (alloc_b _ _))).mono ?_; rintro e w' ⟨rfl, rfl⟩)
  go_ret2
  exact ⟨rfl, alloc_b _ _⟩
theorem get_nob (v : Value) (i : Int) (w : World) (h : Nob v w) : Calls Try.prog 120 #[v, .int .i64 i] w fun e w' => e = .returned (.int .u64 0) ∧ w = w' := by
  have hh := has_no v 0 i w (len_nob v w h) (by omega)
  go_enter Try.func120, Try.ntmps120
  go_wp2_with (go_at_call 140; refine hh.mono ?_; rintro e w' ⟨rfl, rfl⟩)
  go_ret
  exact ⟨rfl, rfl⟩

section out
variable (b : Nat) (vs : List Int) (i x : Int) (w : World) (M : Met b vs w) (h0 : 0 < vs.length) (h : i < 0 ∨ (vs.length : Int) ≤ i)
include M h0 h
theorem add_out : Calls Try.prog 139 #[.pointer (some ⟨b, 0, none⟩), .int .i64 i, .int .u64 x] w fun e w' => e = .returned (.tuple #[.int .u64 0, .int .i64 2]) ∧ Below w.heap.size w w' := by
  have hmf : ∀ (fn : Fn) (first cap : Array Value) (w : World), (Instr.makeFunc fn first cap).run Try.prog w = .ok (.func fn first cap) w := fun _ _ _ _ => rfl
  have hC := fun fv o => change_out b vs i fv _ (M.kept (alloc_b _ o)) h0 h
  go_enter Try.func139, Try.ntmps139
  go_wp2_with (go_at_call 151; refine (hC _ _).mono ?_; rintro e w' ⟨rfl, rfl⟩)
  go_ret2
  exact ⟨rfl, alloc_b _ _⟩
omit x in
omit x h0 in
theorem get_out : Calls Try.prog 120 #[.pointer (some ⟨b, 0, none⟩), .int .i64 i] w fun e w' => e = .returned (.int .u64 0) ∧ w = w' := by
  have hh := has_no _ vs.length i w (len_met b _ w M.n) h
  go_enter Try.func120, Try.ntmps120
  go_wp2_with (go_at_call 140; refine hh.mono ?_; rintro e w' ⟨rfl, rfl⟩)
  go_ret
  exact ⟨rfl, rfl⟩
end out
/- The calls of a meter on a counter that there is. -/
open Go.RowKit

theorem nat_of {i : Int} (h : 0 ≤ i) : ∃ k : Nat, i = (k : Int) := ⟨i.toNat, by omega⟩

theorem below_drew {B : Nat} {a w : World} (h : Below B a w) (n : Nat) : Below B a (w.drewN n) := h.trans ⟨rfl, rfl, rfl, Nat.le_refl _, fun _ _ => rfl⟩

section inside
variable (b : Nat) (vs : List Int) (i : Nat) (x y : Int) (w : World) (M : Met b vs w) (hi : i < vs.length) (hy : vs.getD i 0 = y)
include M hi hy

set_option maxRecDepth 100000 in
theorem get_in : Calls Try.prog 120 #[.pointer (some ⟨b, 0, none⟩), .int .i64 (i : Int)] w fun e w' => e = .returned (.int .u64 y) ∧ w = w' := by
  have hl := load_u64 ⟨b, 1 + i, none⟩ _ w (M.v i hi)
  rw [hy] at hl
  have hf := M.few
  have hh := has_yes b vs i w M hi
  have i0 : (0 : Int) ≤ (i : Int) := by omega
  have i16 : (i : Int) < 16 := by omega
  clear hy
  go_enter Try.func120, Try.ntmps120
  go_wp2_with (first
    | (go_at_call 140; refine hh.mono ?_; rintro e w' ⟨rfl, rfl⟩)
    | (go_at_call 141; refine hl.mono ?_; rintro e w' ⟨rfl, rfl⟩))
  go_ret
  exact ⟨rfl, rfl⟩

set_option maxRecDepth 100000 in
theorem add_ok (h0 : 0 ≤ x) (h1 : y + x ≤ TOP) : Calls Try.prog 139 #[.pointer (some ⟨b, 0, none⟩), .int .i64 (i : Int), .int .u64 x] w fun e w' => e = .returned (.tuple #[.int .u64 (y + x), .int .i64 0]) ∧ (Only (· = b) w w' ∧ Met b (vs.set i (y + x)) w' ∧ w'.heap.size = w.heap.size + 1) := by
  have hmf : ∀ (fn : Fn) (first cap : Array Value) (w : World), (Instr.makeFunc fn first cap).run Try.prog w = .ok (.func fn first cap) w := fun _ _ _ _ => rfl
  have lo := M.at_low i hi
  rw [hy] at lo
  have M1 := M.kept (alloc_b w (.cells #[.int .u64 x] 22))
  have hC := change_ok b vs i 152 #[.pointer (some ⟨w.heap.size, 0, none⟩)] y (y + x) _ M1 (by rw [M1.v i hi, hy]) hi (fun _ => by first | rfl | kernel_rfl | simp [go_sem])
    ((add1_ok ⟨w.heap.size, 0, none⟩ y x _ (by simp) lo.1 h0 h1).mono fun e w' h => ⟨h.1, 0, h.2.symm⟩)
  have fin : ∀ n, Only (· = b) w (((w.alloc (.cells #[.int .u64 x] 22)).drewN n).setCell ⟨b, 1 + i, none⟩ (.int .u64 (y + x))) ∧ Met b (vs.set i (y + x)) (((w.alloc (.cells #[.int .u64 x] 22)).drewN n).setCell ⟨b, 1 + i, none⟩ (.int .u64 (y + x))) ∧
      (((w.alloc (.cells #[.int .u64 x] 22)).drewN n).setCell ⟨b, 1 + i, none⟩ (.int .u64 (y + x))).heap.size = w.heap.size + 1 :=
    fun n => ⟨((Only.below (alloc_b _ _)).drewN n).setCell _ _ rfl, (M1.drewN n).set i hi _ (by omega) h1, by simp⟩
  clear hy lo M1 M
  go_enter Try.func139, Try.ntmps139
  go_wp2_with (go_at_call 151; refine hC.mono ?_; rintro e w' ⟨rfl, nd, rfl⟩)
  go_ret2
  exact ⟨rfl, fin nd⟩
set_option maxRecDepth 100000 in
theorem add_big (h0 : 0 ≤ x) (h1 : TOP < y + x) : Calls Try.prog 139 #[.pointer (some ⟨b, 0, none⟩), .int .i64 (i : Int), .int .u64 x] w fun e w' => e = .returned (.tuple #[.int .u64 0, .int .i64 10]) ∧ Below w.heap.size w w' := by
  have hmf : ∀ (fn : Fn) (first cap : Array Value) (w : World), (Instr.makeFunc fn first cap).run Try.prog w = .ok (.func fn first cap) w := fun _ _ _ _ => rfl
  have lo := M.at_low i hi
  rw [hy] at lo
  have M1 := M.kept (alloc_b w (.cells #[.int .u64 x] 22))
  have hC := change_no b vs i 152 #[.pointer (some ⟨w.heap.size, 0, none⟩)] 10 y 0 _ M1 (by rw [M1.v i hi, hy]) hi (fun _ => by first | rfl | kernel_rfl | simp [go_sem])
    ((add1_no ⟨w.heap.size, 0, none⟩ y x _ (by simp) lo.1 lo.2 h1).mono fun e w' h => ⟨h.1, 0, h.2.symm⟩) (by decide)
  have fin : ∀ n, Below w.heap.size w ((w.alloc (.cells #[.int .u64 x] 22)).drewN n) := fun n => below_drew (alloc_b _ _) n
  clear hy lo M1 M
  go_enter Try.func139, Try.ntmps139
  go_wp2_with (go_at_call 151; refine hC.mono ?_; rintro e w' ⟨rfl, nd, rfl⟩)
  go_ret2
  exact ⟨rfl, fin nd⟩
end inside
end Go.Proofs.Ythefnakbpalecaa

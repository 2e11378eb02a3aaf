/- A clock that is nil or that no call made; a reader that is none. -/
import Derived.Test.YtfeegohjgecjgaaCaR
import Derived.Test.YtfeegohjgecjgaaCaG
import Derived.BigQuiet
namespace Go.Proofs.Ytfeegohjgecjgaa
open Go.RowKit
set_option maxRecDepth 100000 in
set_option maxHeartbeats 4000000 in
theorem copen_none (p : Option Addr) (w : World) (t : Int) (hcr : ∀ q, Calls Try.prog 58 #[.pointer p] (w.drewN q) fun e w'' => e = .returned (.bool false) ∧ w.drewN q = w'') :
    Calls Try.prog 36 #[.pointer p, .int .i64 t] w fun e w' => e = .returned (.bool false) ∧ ∃ q, w' = w.drewN q := by
  have HS := Lib.hid (fun q => (hcr q).mono (fun e w' (h : e = .returned (.bool false) ∧ w.drewN q = w') => (⟨h.1, h.2.symm⟩ : e = .returned (.bool false) ∧ w' = w.drewN q)))
  clear hcr
  go_enter Try.func36, Try.ntmps36
  go_wp2_with fail
  go_quiet ((go_at_call 58; exact Calls.quiet_of_same (HS.out _)))
  go_wp2_with fail
  go_ret
  exact ⟨rfl, _, rfl⟩
set_option maxRecDepth 100000 in
set_option maxHeartbeats 4000000 in
theorem cplain_none (p : Option Addr) (w : World) (hcr : ∀ w' : World, Below w.heap.size w w' → Calls Try.prog 58 #[.pointer p] w' fun e w'' => e = .returned (.bool false) ∧ w' = w'') :
    Calls Try.prog 39 #[.pointer p] w fun e w' => e = .returned (.agg #[.int .i64 0, .slice none 0 0, .slice none 0 0]) ∧ Below w.heap.size w w' := by
  have B1 : Below w.heap.size w (w.alloc (.cells #[.int .i64 0, .slice none 0 0, .slice none 0 0] 53)) := (Below.refl _ _).alloc (Nat.le_refl _) _
  have h := hcr _ B1
  have z0 : (w.alloc (.cells #[.int .i64 0, .slice none 0 0, .slice none 0 0] 53)).frozen? ⟨w.heap.size, 0, none⟩ = false := by simp
  have z1 : (w.alloc (.cells #[.int .i64 0, .slice none 0 0, .slice none 0 0] 53)).frozen? ⟨w.heap.size, 1, none⟩ = false := by simp
  have z2 : (w.alloc (.cells #[.int .i64 0, .slice none 0 0, .slice none 0 0] 53)).frozen? ⟨w.heap.size, 2, none⟩ = false := by simp
  have y0 : (w.alloc (.cells #[.int .i64 0, .slice none 0 0, .slice none 0 0] 53)).cell? ⟨w.heap.size, 0, none⟩ = some (.int .i64 0) := by simp
  have y1 : (w.alloc (.cells #[.int .i64 0, .slice none 0 0, .slice none 0 0] 53)).cell? ⟨w.heap.size, 1, none⟩ = some (.slice none 0 0) := by simp
  have y2 : (w.alloc (.cells #[.int .i64 0, .slice none 0 0, .slice none 0 0] 53)).cell? ⟨w.heap.size, 2, none⟩ = some (.slice none 0 0) := by simp
  have HB1 := Lib.hid B1
  clear hcr B1
  go_enter Try.func39, Try.ntmps39
  go_wp2_with fail
  generalize w.alloc (.cells #[.int .i64 0, .slice none 0 0, .slice none 0 0] 53) = W at *
  refine h.mono ?_
  rintro e w2 ⟨rfl, rfl⟩
  go_wp2_with fail
  have q0 : (((W.setCell ⟨w.heap.size, 0, none⟩ (.int .i64 0)).setCell ⟨w.heap.size, 1, none⟩ (.slice none 0 0)).setCell ⟨w.heap.size, 2, none⟩ (.slice none 0 0)).cell? ⟨w.heap.size, 0, none⟩ = some (.int .i64 0) := by go_simp
  have q1 : (((W.setCell ⟨w.heap.size, 0, none⟩ (.int .i64 0)).setCell ⟨w.heap.size, 1, none⟩ (.slice none 0 0)).setCell ⟨w.heap.size, 2, none⟩ (.slice none 0 0)).cell? ⟨w.heap.size, 1, none⟩ = some (.slice none 0 0) := by go_simp
  have q2 : (((W.setCell ⟨w.heap.size, 0, none⟩ (.int .i64 0)).setCell ⟨w.heap.size, 1, none⟩ (.slice none 0 0)).setCell ⟨w.heap.size, 2, none⟩ (.slice none 0 0)).cell? ⟨w.heap.size, 2, none⟩ = some (.slice none 0 0) := by go_simp
  refine bodyPost_ret (v := .agg #[.int .i64 0, .slice none 0 0, .slice none 0 0]) (by simp [results, Try.results39, go_sem, q0, q1, q2]) rfl ⟨rfl, ?_⟩
  exact ((HB1.out.setCell (p := ⟨w.heap.size, 0, none⟩) (Nat.le_refl _) _).setCell (p := ⟨w.heap.size, 1, none⟩) (Nat.le_refl _) _).setCell (p := ⟨w.heap.size, 2, none⟩) (Nat.le_refl _) _
theorem fail_nil (w : World) : Calls Try.prog 72 #[.pointer none] w fun e w' => e = .returned (.tuple #[]) ∧ w = w' := by
  go_enter Try.func72, Try.ntmps72
  go_wp2_with fail
  go_end0
  exact ⟨rfl, rfl⟩
theorem bad_nil (w : World) : Calls Try.prog 71 #[.pointer none] w fun e w' => e = .returned (.bool false) ∧ w = w' := by
  go_enter Try.func71, Try.ntmps71
  go_wp2_with fail
  go_ret
  exact ⟨rfl, rfl⟩
theorem take_nil (k : Int) (w : World) : Calls Try.prog 97 #[.pointer none, .int .u64 k] w fun e w' => e = .returned (.slice none 0 0) ∧ w = w' := by
  go_enter Try.func97, Try.ntmps97
  go_wp2_with fail
  refine (fail_nil _).mono ?_
  rintro e w8 ⟨rfl, rfl⟩
  go_wp2_with fail
  go_ret
  exact ⟨rfl, rfl⟩
theorem number_nil (w : World) : Calls Try.prog 87 #[.pointer none] w fun e w' => e = .returned (.tuple #[.int .u64 0, .bool false]) ∧ w = w' := by
  go_enter Try.func87, Try.ntmps87
  go_wp2_with fail
  refine (take_nil _ _).mono ?_
  rintro e w8 ⟨rfl, rfl⟩
  go_wp2_with fail
  go_ret2
  exact ⟨rfl, rfl⟩
theorem num_nil (k : Int) (w : World) (hk : 0 ≤ k) : Calls Try.prog 88 #[.pointer none, .int .u64 k] w fun e w' => e = .returned (.int .u64 0) ∧ w = w' := by
  have d1 : decide (k < 0) = false := decide_eq_false (by omega)
  go_enter Try.func88, Try.ntmps88
  go_wp2_with fail
  refine (number_nil _).mono ?_
  rintro e w8 ⟨rfl, rfl⟩
  go_wp2_with fail
  go_ret
  exact ⟨rfl, rfl⟩
theorem int_nil (w : World) : Calls Try.prog 69 #[.pointer none] w fun e w' => e = .returned (.int .i64 0) ∧ w = w' := by
  go_enter Try.func69, Try.ntmps69
  go_wp2_with fail
  refine (number_nil _).mono ?_
  rintro e w8 ⟨rfl, rfl⟩
  go_wp2_with fail
  go_ret
  exact ⟨rfl, rfl⟩
theorem spans_nil (w : World) : Calls Try.prog 70 #[.pointer none] w fun e w' => e = .returned (.slice none 0 0) ∧ w = w' := by
  go_enter Try.func70, Try.ntmps70
  go_wp2_with fail
  refine (num_nil 32 _ (by omega)).mono ?_
  rintro e w8 ⟨rfl, rfl⟩
  go_wp2_with fail
  go_loopw [3, 6] (fun s i wr => s = .slice none 0 0 ∧ i = .int .u64 0 ∧ wr = w) (fun _ _ _ => 0)
  case atStart => exact ⟨rfl, rfl, rfl⟩
  case round =>
    obtain ⟨rfl, rfl, rfl⟩ := hrel
    go_wp2_with fail
    go_ret
    exact ⟨rfl, rfl⟩
set_option maxRecDepth 100000 in
set_option maxHeartbeats 4000000 in
theorem read_nil (w : World) : Calls Try.prog 46 #[.pointer none] w fun e w' => e = .returned (.tuple #[.agg #[.int .i64 0, .slice none 0 0, .slice none 0 0], .bool false]) ∧ Below w.heap.size w w' := by
  go_enter Try.func46, Try.ntmps46
  go_wp2_with fail
  refine (int_nil _).mono ?_
  rintro e w8 ⟨rfl, rfl⟩
  go_wp2_with fail
  refine (spans_nil _).mono ?_
  rintro e w8 ⟨rfl, rfl⟩
  go_wp2_with fail
  refine (spans_nil _).mono ?_
  rintro e w8 ⟨rfl, rfl⟩
  go_wp2_with fail
  refine (fail_nil _).mono ?_
  rintro e w8 ⟨rfl, rfl⟩
  go_wp2_with fail
  have q0 : ((w.alloc (.cells #[.int .i64 0, .slice none 0 0, .slice none 0 0] 53)).alloc (.cells #[.int .i64 0, .slice none 0 0, .slice none 0 0] 53)).cell? ⟨w.heap.size, 0, none⟩ = some (.int .i64 0) := by rw [World.cell?_alloc_past _ _ _ (by simp)]; simp
  have q1 : ((w.alloc (.cells #[.int .i64 0, .slice none 0 0, .slice none 0 0] 53)).alloc (.cells #[.int .i64 0, .slice none 0 0, .slice none 0 0] 53)).cell? ⟨w.heap.size, 1, none⟩ = some (.slice none 0 0) := by rw [World.cell?_alloc_past _ _ _ (by simp)]; simp
  have q2 : ((w.alloc (.cells #[.int .i64 0, .slice none 0 0, .slice none 0 0] 53)).alloc (.cells #[.int .i64 0, .slice none 0 0, .slice none 0 0] 53)).cell? ⟨w.heap.size, 2, none⟩ = some (.slice none 0 0) := by rw [World.cell?_alloc_past _ _ _ (by simp)]; simp
  refine bodyPost_ret (v := .tuple #[.agg #[.int .i64 0, .slice none 0 0, .slice none 0 0], .bool false]) (by simp [results, Try.results46, go_sem, q0, q1, q2]) rfl ⟨rfl, ?_⟩
  exact ((Below.refl _ _).alloc (Nat.le_refl _) _).alloc (by simp) _
set_option maxRecDepth 100000 in
set_option maxHeartbeats 4000000 in
theorem rsame_none (w : World) : Calls Try.prog 38 #[.agg #[.int .i64 0, .slice none 0 0, .slice none 0 0], .agg #[.int .i64 0, .slice none 0 0, .slice none 0 0]] w fun e w' => e = .returned (.bool true) ∧ Below w.heap.size w w' := by
  have B2 : Below w.heap.size w ((w.alloc (.cells #[.int .i64 0, .slice none 0 0, .slice none 0 0] 53)).alloc (.cells #[.int .i64 0, .slice none 0 0, .slice none 0 0] 53)) := ((Below.refl _ _).alloc (Nat.le_refl _) _).alloc (by simp) _
  have q0 : ((w.alloc (.cells #[.int .i64 0, .slice none 0 0, .slice none 0 0] 53)).alloc (.cells #[.int .i64 0, .slice none 0 0, .slice none 0 0] 53)).cell? ⟨w.heap.size, 0, none⟩ = some (.int .i64 0) := by rw [World.cell?_alloc_past _ _ _ (by simp)]; simp
  have q1 : ((w.alloc (.cells #[.int .i64 0, .slice none 0 0, .slice none 0 0] 53)).alloc (.cells #[.int .i64 0, .slice none 0 0, .slice none 0 0] 53)).cell? ⟨w.heap.size, 1, none⟩ = some (.slice none 0 0) := by rw [World.cell?_alloc_past _ _ _ (by simp)]; simp
  have q2 : ((w.alloc (.cells #[.int .i64 0, .slice none 0 0, .slice none 0 0] 53)).alloc (.cells #[.int .i64 0, .slice none 0 0, .slice none 0 0] 53)).cell? ⟨w.heap.size, 2, none⟩ = some (.slice none 0 0) := by rw [World.cell?_alloc_past _ _ _ (by simp)]; simp
  have r0 : ((w.alloc (.cells #[.int .i64 0, .slice none 0 0, .slice none 0 0] 53)).alloc (.cells #[.int .i64 0, .slice none 0 0, .slice none 0 0] 53)).cell? ⟨w.heap.size + 1, 0, none⟩ = some (.int .i64 0) := by simp
  have r1 : ((w.alloc (.cells #[.int .i64 0, .slice none 0 0, .slice none 0 0] 53)).alloc (.cells #[.int .i64 0, .slice none 0 0, .slice none 0 0] 53)).cell? ⟨w.heap.size + 1, 1, none⟩ = some (.slice none 0 0) := by simp
  have r2 : ((w.alloc (.cells #[.int .i64 0, .slice none 0 0, .slice none 0 0] 53)).alloc (.cells #[.int .i64 0, .slice none 0 0, .slice none 0 0] 53)).cell? ⟨w.heap.size + 1, 2, none⟩ = some (.slice none 0 0) := by simp
  have HS := Lib.hid (fun W => rsame_any none none 0 0 0 0 (fun _ => 0) (fun _ => 0) (fun _ => 0) (fun _ => 0) W ⟨by decide, fun h => absurd h (Nat.not_lt_zero _)⟩ ⟨by decide, fun h => absurd h (Nat.not_lt_zero _)⟩)
  have ez : sameL (fun _ => 0) (fun _ => 0) (fun _ => 0) (fun _ => 0) 0 0 = true := by decide
  rw [ez] at HS
  have HB := Lib.hid B2
  clear B2 ez
  go_enter Try.func38, Try.ntmps38
  go_wp2_with fail
  generalize ((w.alloc (.cells #[.int .i64 0, .slice none 0 0, .slice none 0 0] 53)).alloc (.cells #[.int .i64 0, .slice none 0 0, .slice none 0 0] 53)) = W at *
  refine (HS.out _).mono ?_
  rintro e w3 ⟨rfl, q, rfl⟩
  have HB1 := Lib.hid (below_drewN' HB.out q)
  have q2' : (W.drewN q).cell? ⟨w.heap.size, 2, none⟩ = some (.slice none 0 0) := q2
  have r2' : (W.drewN q).cell? ⟨w.heap.size + 1, 2, none⟩ = some (.slice none 0 0) := r2
  clear q0 q1 q2 r0 r1 r2
  generalize W.drewN q = W3 at *
  go_wp2_with fail
  refine (HS.out _).mono ?_
  rintro e w4 ⟨rfl, q, rfl⟩
  have HB2 := Lib.hid (below_drewN' HB1.out q)
  go_wp2_with fail
  go_ret
  exact ⟨rfl, HB2.out⟩

/-- What the law asks of a clock that no call made. -/
structure Nob (p : Option Addr) (x y t : Int) (W : World) : Prop where
  cr : ∀ W', Below W.heap.size W W' → Calls Try.prog 58 #[.pointer p] W' fun e w'' => e = .returned (.bool false) ∧ W' = w''
theorem Nob.kept {p : Option Addr} {x y t : Int} {W W2 : World} (h : Nob p x y t W) (hb : Below W.heap.size W W2) : Nob p x y t W2 := ⟨fun W' h2 => h.cr W' (hb.trans (h2.mono hb.size))⟩
theorem Nob.el {p : Option Addr} {x y t : Int} {W : World} (h : Nob p x y t W) : Calls Try.prog 40 #[.pointer p, .int .i64 x, .int .i64 y] W fun e w' => e = .returned (.tuple #[.int .i64 0, .int .i64 1]) ∧ Below W.heap.size W w' :=
  elapsed_none p W x y (h.cr _ ((Below.refl _ _).alloc (Nat.le_refl _) _))
theorem Nob.du {p : Option Addr} {x y t : Int} {W : World} (h : Nob p x y t W) : Calls Try.prog 42 #[.pointer p, .int .i64 x, .int .i64 y] W fun e w' => e = .returned (.tuple #[.int .i64 0, .int .i64 1]) ∧ Below W.heap.size W w' :=
  due_none p W x y (h.cr _ (due0_below W p y 0 0))
theorem Nob.re {p : Option Addr} {x y t : Int} {W : World} (h : Nob p x y t W) : Calls Try.prog 44 #[.pointer p, .int .i64 x, .int .i64 y, .int .i64 t] W fun e w' => e = .returned (.tuple #[.int .i64 0, .int .i64 1]) ∧ W = w' :=
  rest_none p W x y t (h.cr _ (Below.refl _ _))
theorem Nob.op {p : Option Addr} {x y t : Int} {W : World} (h : Nob p x y t W) : Calls Try.prog 36 #[.pointer p, .int .i64 t] W fun e w' => e = .returned (.bool false) ∧ Below W.heap.size W w' := by
  refine (copen_none p W t (fun q => h.cr _ (below_drewN' (Below.refl _ _) q))).mono ?_
  · rintro e w' ⟨rfl, q, rfl⟩
    exact ⟨rfl, below_drewN' (Below.refl _ _) q⟩
theorem Nob.pl {p : Option Addr} {x y t : Int} {W : World} (h : Nob p x y t W) : Calls Try.prog 39 #[.pointer p] W fun e w' => e = .returned (.agg #[.int .i64 0, .slice none 0 0, .slice none 0 0]) ∧ Below W.heap.size W w' :=
  cplain_none p W h.cr
end Go.Proofs.Ytfeegohjgecjgaa

/- The law's do: Get. -/
import Derived.Test.YtfclmbneimbmnaaDoorRdD
import Derived.Laws.StructEq
namespace Go.Proofs.YtfclmbneimbmnaaDoor
open Go.RowKit

theorem th_struct : Tryd.prog.underlying 27 = some (.struct (Tryd.prog.fieldsOf 27)) := by kernel_rfl
theorem th_held : Tryd.prog.stoodInHeld 27 = false := by kernel_rfl
theorem th_guard : Tryd.prog.eqGuardType Tryd.prog.depth 27 = false := by kernel_rfl
theorem guard_th (op : BinOp) (x y : Operand) (xs ys : Array Value) (w : World) : (eqGuard op 27 x y (.agg xs) (.agg ys)).run Tryd.prog w = .ok () w := run_eqGuard_agg w op _ x y xs ys th_guard
theorem eq_th_same (a b c : Int) (w : World) : (Op.equalIn 10000 27 (.agg #[.int .u64 a, .int .u64 b, .int .i64 c]) (.agg #[.int .u64 a, .int .u64 b, .int .i64 c])).run Tryd.prog w = .ok true w := by
  rw [run_equalIn_agg w 9999 _ _ _ th_struct th_held]
  have h1 : Tryd.prog.underlying 2 = some (.int .i64) := Tryd.underlying2
  have h2 : Tryd.prog.underlying 25 = some (.int .u64) := Tryd.underlying25
  simp [Op.eqFields, go_sem, h1, h2, Tryd.underlying27]
theorem eql_th_same (a b c : Int) (w : World) : (binOp .eql 27 (.agg #[.int .u64 a, .int .u64 b, .int .i64 c]) (.agg #[.int .u64 a, .int .u64 b, .int .i64 c])).run Tryd.prog w = .ok (.bool true) w := by
  rw [run_eql_struct, eq_th_same]; rfl

theorem TS.one {w : World} {B : Nat} {x : Th} (c0 : w.cell? ⟨B, 0, none⟩ = some (.int .u64 x.1)) (c1 : w.cell? ⟨B, 1, none⟩ = some (.int .u64 x.2.1)) (c2 : w.cell? ⟨B, 2, none⟩ = some (.int .i64 x.2.2)) : TS w (some ⟨B, 0, none⟩) [x] := fun k hk => by
  have : k = 0 := by simpa using hk
  subst this
  exact ⟨B, 0, rfl, c0, c1, c2⟩
theorem RS.at_one {w : World} {B : Nat} {l : List Rt} (h : RS w (some ⟨B, 0, none⟩) l) {k : Nat} (hk : k < l.length) : RS w (some ⟨B, k * 4, none⟩) [l[k]] := by
  have h2 := (h.drop k).take 1
  have e : (l.drop k).take 1 = [l[k]] := by rw [List.drop_eq_getElem_cons hk]; rfl
  rw [e] at h2
  exact h2

set_option maxRecDepth 100000 in
set_option maxHeartbeats 8000000 in
theorem do_get_no {B r b : Nat} {V : Nat → Value} {S : Nat → List Th} {M : Int → Option (Nat × Nat)} {L : List Rt} (p : Option Addr) (c : Nat) (s x y z : Int) (w : World) (h : Bo B r b V S M w (.slice p L.length c) L) (hl : L.length ≤ 200) (hx : IdOk x) (hid : ∀ q ∈ L, idR q ≠ x) :
    Calls Tryd.prog 23 #[.pointer (some ⟨r, 0, none⟩), .slice p L.length c, .agg #[.int .i64 4, .int .i64 s, .int .u64 x, .int .u64 y, .int .i64 z]] w fun e w' => ∃ v', e = .returned (.tuple #[v', .bool true]) ∧ St B r b (L.length + 1) w' v' ∧ Below B w w' := by
  have mixed := insTh.mixed
  have hb1 : Below w.heap.size w (w.alloc (.cells #[.int .i64 4, .int .i64 s, .int .u64 x, .int .u64 y, .int .i64 z] 41)) := (Below.refl _ _).alloc (Nat.le_refl _) _
  obtain ⟨T, hT⟩ : ∃ T, w.heap.size = T := ⟨_, rfl⟩
  have t0 : (w.alloc (.cells #[.int .i64 4, .int .i64 s, .int .u64 x, .int .u64 y, .int .i64 z] 41)).cell? ⟨T, 0, none⟩ = some (.int .i64 4) := World.cell?_alloc_at _ _ _ _ hT.symm
  have t1 : (w.alloc (.cells #[.int .i64 4, .int .i64 s, .int .u64 x, .int .u64 y, .int .i64 z] 41)).cell? ⟨T, 1, none⟩ = some (.int .i64 s) := World.cell?_alloc_at _ _ _ _ hT.symm
  have t2 : (w.alloc (.cells #[.int .i64 4, .int .i64 s, .int .u64 x, .int .u64 y, .int .i64 z] 41)).cell? ⟨T, 2, none⟩ = some (.int .u64 x) := World.cell?_alloc_at _ _ _ _ hT.symm
  have t3 : (w.alloc (.cells #[.int .i64 4, .int .i64 s, .int .u64 x, .int .u64 y, .int .i64 z] 41)).cell? ⟨T, 3, none⟩ = some (.int .u64 y) := World.cell?_alloc_at _ _ _ _ hT.symm
  have t4 : (w.alloc (.cells #[.int .i64 4, .int .i64 s, .int .u64 x, .int .u64 y, .int .i64 z] 41)).cell? ⟨T, 4, none⟩ = some (.int .i64 z) := World.cell?_alloc_at _ _ _ _ hT.symm
  have hTs : T < (w.alloc (.cells #[.int .i64 4, .int .i64 s, .int .u64 x, .int .u64 y, .int .i64 z] 41)).heap.size := by simp; omega
  have hBo := h.below hb1
  have HBo := Lib.hid hBo
  have HB0 := Lib.hid hb1
  have HB1 := Lib.hid (hb1.mono (B' := B) h.size)
  obtain ⟨_, _, ev, hpn, hRS, _⟩ := hBo.own.shape
  injection ev with ev1 _ ev3
  subst ev1 ev3
  have HPN := Lib.hid hpn
  have hf := find_any p c L x _ hRS (by omega)
  have HL := Lib.hid hl
  have HX := Lib.hid hx
  have HID := Lib.hid hid
  clear hid
  clear hb1 hBo h hpn hl hx
  go_enter Tryd.func23, Tryd.ntmps23
  go_wp2_with fail
  generalize w.alloc (.cells #[.int .i64 4, .int .i64 s, .int .u64 x, .int .u64 y, .int .i64 z] 41) = W1 at t0 t1 t2 t3 t4 hTs HBo HB0 HB1 hf hRS ⊢
  have HRS := Lib.hid hRS
  clear hRS
  refine hf.mono ?_
  rintro e w1 ⟨rr, rfl, hF, rfl⟩
  have HF := Lib.hid hF
  clear hF hf
  have HS : Hid (∀ W, Below w1.heap.size w1 W → W.cell? ⟨T, 0, none⟩ = some (.int .i64 4) ∧ W.cell? ⟨T, 1, none⟩ = some (.int .i64 s) ∧ W.cell? ⟨T, 2, none⟩ = some (.int .u64 x) ∧ W.cell? ⟨T, 3, none⟩ = some (.int .u64 y) ∧ W.cell? ⟨T, 4, none⟩ = some (.int .i64 z) ∧ Below w1.heap.size w1 W) := Lib.hid (fun W hb =>
    ⟨(hb.cell (p := ⟨T, _, none⟩) hTs).trans t0, (hb.cell (p := ⟨T, _, none⟩) hTs).trans t1, (hb.cell (p := ⟨T, _, none⟩) hTs).trans t2, (hb.cell (p := ⟨T, _, none⟩) hTs).trans t3, (hb.cell (p := ⟨T, _, none⟩) hTs).trans t4, hb⟩)

  obtain rfl := HF.out.none HID.out
  have hg := get_none x w1 HBo.out.rn HX.out (HBo.out.nowhere HID.out)
  have heq := fun w => eql_th_same 0 0 0 w
  have hgd := fun (p q : Operand) w => guard_th .eql p q #[.int .u64 0, .int .u64 0, .int .i64 0] #[.int .u64 0, .int .u64 0, .int .i64 0] w
  go_wp2_with fail
  refine hg.mono ?_
  rintro e w2 ⟨rfl, hb2⟩
  clear t0 t1 t2 t3 t4 hg
  have hXs : (w2.alloc (.cells #[.int .u64 0, .int .u64 0, .int .i64 0] 27)).heap.size = w2.heap.size + 1 := by simp
  obtain ⟨X, hX⟩ : ∃ X, w2.heap.size = X := ⟨_, rfl⟩
  have x0 : (w2.alloc (.cells #[.int .u64 0, .int .u64 0, .int .i64 0] 27)).cell? ⟨X, 0, none⟩ = some (.int .u64 0) := World.cell?_alloc_at _ _ _ _ hX.symm
  have x1 : (w2.alloc (.cells #[.int .u64 0, .int .u64 0, .int .i64 0] 27)).cell? ⟨X, 1, none⟩ = some (.int .u64 0) := World.cell?_alloc_at _ _ _ _ hX.symm
  have x2 : (w2.alloc (.cells #[.int .u64 0, .int .u64 0, .int .i64 0] 27)).cell? ⟨X, 2, none⟩ = some (.int .i64 0) := World.cell?_alloc_at _ _ _ _ hX.symm
  have hb3 : Below w2.heap.size w2 (w2.alloc (.cells #[.int .u64 0, .int .u64 0, .int .i64 0] 27)) := (Below.refl _ _).alloc (Nat.le_refl _) _
  have HB2 := Lib.hid (hb2.trans (hb3.mono hb2.size))
  clear hb2 hb3
  go_wp2_with fail
  generalize w2.alloc (.cells #[.int .u64 0, .int .u64 0, .int .i64 0] 27) = w3 at x0 x1 x2 HB2 hXs ⊢
  have h0 : w3.drew.cell? ⟨X, 0, none⟩ = some (.int .u64 0) ∧ w3.drew.cell? ⟨X, 1, none⟩ = some (.int .u64 0) ∧ w3.drew.cell? ⟨X, 2, none⟩ = some (.int .i64 0) := ⟨x0, x1, x2⟩
  refine wp_region_held_drew (S := (fun w' => w'.cell? ⟨X, 0, none⟩ = some (.int .u64 0) ∧ w'.cell? ⟨X, 1, none⟩ = some (.int .u64 0) ∧ w'.cell? ⟨X, 2, none⟩ = some (.int .i64 0))) (by kernel_rfl) h0 (fun hHeld => ?_)
  refine wpAnyH_take (i := 0) (v := ?_) rfl (by kernel_rfl) (by kernel_rfl) (by kernel_rfl) (fun _ _ _ h => h) (Or.inl ⟨by rfl, ?_⟩) (by assumption) ?_
  case refine_2 => (intro w1 hS1; (try dsimp only at hS1); go_simp; try with_reducible rfl)
  try simp only [List.getElem_toArray, List.getElem_cons_zero, List.getElem_cons_succ, Act.put, List.setIfInBounds_toArray, List.set_cons_zero, List.set_cons_succ]
  refine wpAnyH_take (i := 1) (v := ?_) rfl (by kernel_rfl) (by kernel_rfl) (by kernel_rfl) (fun _ _ _ h => h) (Or.inl ⟨by rfl, ?_⟩) (by assumption) ?_
  case refine_2 => (intro w1 hS1; (try dsimp only at hS1); go_simp; try with_reducible rfl)
  try simp only [List.getElem_toArray, List.getElem_cons_zero, List.getElem_cons_succ, Act.put, List.setIfInBounds_toArray, List.set_cons_zero, List.set_cons_succ]
  refine wpAnyH_take (i := 2) (v := ?_) rfl (by kernel_rfl) (by kernel_rfl) (by kernel_rfl) (fun _ _ _ h => h) (Or.inl ⟨by rfl, ?_⟩) (by assumption) ?_
  case refine_2 => (intro w1 hS1; (try dsimp only at hS1); go_simp; try with_reducible rfl)
  try simp only [List.getElem_toArray, List.getElem_cons_zero, List.getElem_cons_succ, Act.put, List.setIfInBounds_toArray, List.set_cons_zero, List.set_cons_succ]
  refine wpAnyH_take (i := 3) (v := ?_) rfl (by kernel_rfl) (by kernel_rfl) (by kernel_rfl) (fun _ _ _ h => h) (Or.inl ⟨by rfl, ?_⟩) (by assumption) ?_
  case refine_2 => (intro w1 hS1; (try dsimp only at hS1); go_simp; try with_reducible rfl)
  try simp only [List.getElem_toArray, List.getElem_cons_zero, List.getElem_cons_succ, Act.put, List.setIfInBounds_toArray, List.set_cons_zero, List.set_cons_succ]
  refine wpAnyH_take (i := 4) (v := ?_) rfl (by kernel_rfl) (by kernel_rfl) (by kernel_rfl) (fun _ _ _ h => h) (Or.inl ⟨by rfl, ?_⟩) (by assumption) ?_
  case refine_2 => (intro w1 hS1; (try dsimp only at hS1); go_simp; try with_reducible rfl)
  try simp only [List.getElem_toArray, List.getElem_cons_zero, List.getElem_cons_succ, Act.put, List.setIfInBounds_toArray, List.set_cons_zero, List.set_cons_succ]
  refine wpAnyH_take (i := 5) (v := ?_) rfl (by kernel_rfl) (by kernel_rfl) (by kernel_rfl) (fun _ _ _ h => h) (Or.inl ⟨by rfl, ?_⟩) (by assumption) ?_
  case refine_2 => (intro w1 hS1; (try dsimp only at hS1); go_simp; try with_reducible rfl)
  try simp only [List.getElem_toArray, List.getElem_cons_zero, List.getElem_cons_succ, Act.put, List.setIfInBounds_toArray, List.set_cons_zero, List.set_cons_succ]
  refine wpAnyH_take (i := 6) (v := ?_) rfl (by kernel_rfl) (by kernel_rfl) (by kernel_rfl) (fun _ _ _ h => h) (Or.inl ⟨by rfl, ?_⟩) (by assumption) ?_
  case refine_2 => (intro w1 hS1; (try dsimp only at hS1); go_simp; try with_reducible rfl)
  try simp only [List.getElem_toArray, List.getElem_cons_zero, List.getElem_cons_succ, Act.put, List.setIfInBounds_toArray, List.set_cons_zero, List.set_cons_succ]
  refine wpAnyH_take (i := 7) (v := ?_) rfl (by kernel_rfl) (by kernel_rfl) (by kernel_rfl) (fun _ _ _ h => h) (Or.inl ⟨by rfl, ?_⟩) (by assumption) ?_
  case refine_2 => (intro w1 hS1; (try dsimp only at hS1); go_simp; try with_reducible rfl)
  try simp only [List.getElem_toArray, List.getElem_cons_zero, List.getElem_cons_succ, Act.put, List.setIfInBounds_toArray, List.set_cons_zero, List.set_cons_succ]
  refine wpAnyH_take (i := 8) (v := ?_) rfl (by kernel_rfl) (by kernel_rfl) (by kernel_rfl) (fun _ _ _ h => h) (Or.inl ⟨by rfl, ?_⟩) (by assumption) ?_
  case refine_2 => (intro w1 hS1; (try dsimp only at hS1); go_simp; try with_reducible rfl)
  try simp only [List.getElem_toArray, List.getElem_cons_zero, List.getElem_cons_succ, Act.put, List.setIfInBounds_toArray, List.set_cons_zero, List.set_cons_succ]
  refine wpAnyH_take (i := 9) (v := ?_) rfl (by kernel_rfl) (by kernel_rfl) (by kernel_rfl) (fun _ _ _ h => h) (Or.inl ⟨by rfl, ?_⟩) (by assumption) ?_
  case refine_2 => (intro w1 hS1; (try dsimp only at hS1); go_simp; try with_reducible rfl)
  try simp only [List.getElem_toArray, List.getElem_cons_zero, List.getElem_cons_succ, Act.put, List.setIfInBounds_toArray, List.set_cons_zero, List.set_cons_succ]
  refine wpAnyH_take (i := 10) (v := ?_) rfl (by kernel_rfl) (by kernel_rfl) (by kernel_rfl) (fun _ _ _ h => h) (Or.inl ⟨by rfl, ?_⟩) (by assumption) ?_
  case refine_2 => (intro w1 hS1; (try dsimp only at hS1); go_simp; try with_reducible rfl)
  try simp only [List.getElem_toArray, List.getElem_cons_zero, List.getElem_cons_succ, Act.put, List.setIfInBounds_toArray, List.set_cons_zero, List.set_cons_succ]
  refine wpAnyH_take (i := 11) (v := ?_) rfl (by kernel_rfl) (by kernel_rfl) (by kernel_rfl) (fun _ _ _ h => h) (Or.inl ⟨by rfl, ?_⟩) (by assumption) ?_
  case refine_2 => (intro w1 hS1; (try dsimp only at hS1); go_simp; try with_reducible rfl)
  try simp only [List.getElem_toArray, List.getElem_cons_zero, List.getElem_cons_succ, Act.put, List.setIfInBounds_toArray, List.set_cons_zero, List.set_cons_succ]
  refine wpAnyH_take (i := 12) (v := ?_) rfl (by kernel_rfl) (by kernel_rfl) (by kernel_rfl) (fun _ _ _ h => h) (Or.inl ⟨by rfl, ?_⟩) (by assumption) ?_
  case refine_2 => (intro w1 hS1; (try dsimp only at hS1); go_simp; try with_reducible rfl)
  try simp only [List.getElem_toArray, List.getElem_cons_zero, List.getElem_cons_succ, Act.put, List.setIfInBounds_toArray, List.set_cons_zero, List.set_cons_succ]
  refine wpAnyH_take (i := 13) (v := ?_) rfl (by kernel_rfl) (by kernel_rfl) (by kernel_rfl) (fun _ _ _ h => h) (Or.inl ⟨by rfl, ?_⟩) (by assumption) ?_
  case refine_2 => (intro w1 hS1; (try dsimp only at hS1); go_simp; try with_reducible rfl)
  try simp only [List.getElem_toArray, List.getElem_cons_zero, List.getElem_cons_succ, Act.put, List.setIfInBounds_toArray, List.set_cons_zero, List.set_cons_succ]
  refine wpAnyH_done (by kernel_rfl) ?_ _
  go_wp2_with fail
  go_ret2
  exact ⟨_, rfl, (HBo.out.below HB2.out.drew).st (Nat.le_succ _), HB1.out.trans (HB2.out.drew.mono HBo.out.size)⟩

end Go.Proofs.YtfclmbneimbmnaaDoor

/- The outbox: a box in memory; whether it was made, its row, how many wait. -/
import Derived.Test.YtnfpheccmjdpoaaObB
import Derived.Deep.MidRow
import Derived.Deep.RegionHeld
namespace Go.Proofs.Ytnfpheccmjdpoaa
open Go.RowKit
/-- A box: block b, the last ID, the notices. -/
structure BX (w : World) (b : Nat) (last : Int) (l : List Nt) : Prop where
  c0 : w.cell? ⟨b, 0, none⟩ = some (.int .u64 last)
  c1 : w.cell? ⟨b, 1, none⟩ = some (.int .i64 (l.length : Int))
  c2 : w.cell? ⟨b, 1154, none⟩ = some (.bool true)
  row : ∀ k (hk : k < l.length), NtAt w b (2 + k * 9) l[k]
  th : w.there b 0 1155
  len : l.length ≤ 128
theorem BX.lt {w : World} {b : Nat} {last : Int} {l : List Nt} (h : BX w b last l) : b < w.heap.size := (cell_spot h.c0).2
theorem BX.kept {w w' : World} {b : Nat} {last : Int} {l : List Nt} (h : BX w b last l) (e : w'.heap[b]? = w.heap[b]?) : BX w' b last l :=
  ⟨(World.cell?_of_block (a := ⟨b, 0, none⟩) e).trans h.c0, (World.cell?_of_block (a := ⟨b, 1, none⟩) e).trans h.c1, (World.cell?_of_block (a := ⟨b, 1154, none⟩) e).trans h.c2, fun k hk => (h.row k hk).kept e, fun j hj => by
    obtain ⟨h1, h2⟩ := h.th j hj
    exact ⟨by rw [World.cell?_of_block (a := ⟨b, 0 + j, none⟩) e]; exact h1, by rw [World.frozen?_of_block (a := ⟨b, 0 + j, none⟩) e]; exact h2⟩, h.len⟩
theorem BX.below {w w' : World} {b : Nat} {last : Int} {l : List Nt} (h : BX w b last l) (hb : Below w.heap.size w w') : BX w' b last l := h.kept (hb.block b h.lt)
theorem BX.nr {w : World} {b : Nat} {last : Int} {l : List Nt} (h : BX w b last l) : NR w (some ⟨b, 2, none⟩) l := fun k hk => ⟨b, 2, rfl, h.row k hk⟩
theorem BX.fr {w : World} {b : Nat} {last : Int} {l : List Nt} (h : BX w b last l) (o : Nat) (ho : o < 1155) : w.frozen? ⟨b, o, none⟩ = false := by
  have := (h.th o ho).2
  rwa [Nat.zero_add] at this
set_option maxRecDepth 100000 in
set_option maxHeartbeats 8000000 in
theorem created_box (b : Nat) (last : Int) (l : List Nt) (w : World) (h : BX w b last l) : Calls Try.prog 49 #[.pointer (some ⟨b, 0, none⟩)] w fun e w' => e = .returned (.bool true) ∧ w = w' := by
  have c2 := h.c2
  clear h
  go_enter Try.func49, Try.ntmps49
  go_wp2
  go_ret
  exact ⟨rfl, rfl⟩
set_option maxRecDepth 100000 in
set_option maxHeartbeats 8000000 in
theorem all_box (b : Nat) (last : Int) (l : List Nt) (w : World) (h : BX w b last l) : Calls Try.prog 46 #[.pointer (some ⟨b, 0, none⟩)] w fun e w' => e = .returned (.slice (some ⟨b, 2, none⟩) l.length l.length) ∧ Below w.heap.size w w' := by
  have hl := h.len
  have HS0 : Hid ((fun W : World => W.cell? ⟨b, 1, none⟩ = some (.int .i64 (l.length : Int))) w.drew) := Lib.hid h.c1
  have HB := Lib.hid ((Below.refl w.heap.size w).drew)
  clear h
  obtain ⟨n, hn⟩ : ∃ n, l.length = n := ⟨_, rfl⟩
  rw [hn] at HS0 hl ⊢
  clear hn
  have hn0 : (0 : Int) ≤ (n : Int) := by omega
  have hn1 : (n : Int) ≤ 128 := by omega
  go_enter Try.func46, Try.ntmps46
  go_wp2_with fail
  refine wp_region_held_drew (S := fun W : World => W.cell? ⟨b, 1, none⟩ = some (.int .i64 (n : Int))) (by kernel_rfl) HS0.out (fun hHeld => ?_)
  clear hHeld
  generalize w.drew = w0 at HS0 HB ⊢
  refine wpAnyH_take (i := 0) (oi := { dst := some 5, op := Go.Op.move (Go.Operand.tmp 0), type := 29, pos := "outbox.go:153", after := #[], guard := none }) (v := ?_) rfl (by kernel_rfl) (by kernel_rfl) (by kernel_rfl) (fun _ _ _ h => h) (Or.inl ⟨by rfl, ?_⟩) HS0.out ?_
  case refine_2 => (intro w1 hS1; have c1 : w1.cell? ⟨b, 1, none⟩ = some (.int .i64 (n : Int)) := hS1; clear hS1; go_simp; try with_reducible rfl)
  try simp only [Act.put, List.setIfInBounds_toArray, List.set_cons_zero, List.set_cons_succ]
  refine wpAnyH_take (i := 1) (oi := { dst := some 6, op := Go.Op.nilCheck (Go.Operand.tmp 5), type := 0, pos := "outbox.go:153", after := #[{ on := 0, ground := Go.Ground.data }], guard := none }) (v := ?_) rfl (by kernel_rfl) (by kernel_rfl) (by kernel_rfl) (fun _ _ _ h => h) (Or.inl ⟨by rfl, ?_⟩) HS0.out ?_
  case refine_2 => (intro w1 hS1; have c1 : w1.cell? ⟨b, 1, none⟩ = some (.int .i64 (n : Int)) := hS1; clear hS1; go_simp; try with_reducible rfl)
  try simp only [Act.put, List.setIfInBounds_toArray, List.set_cons_zero, List.set_cons_succ]
  refine wpAnyH_take (i := 2) (oi := { dst := some 7, op := Go.Op.fieldAddr 79 (Go.Operand.tmp 6) 2, type := 0, pos := "outbox.go:153", after := #[{ on := 1, ground := Go.Ground.data }], guard := none }) (v := ?_) rfl (by kernel_rfl) (by kernel_rfl) (by kernel_rfl) (fun _ _ _ h => h) (Or.inl ⟨by rfl, ?_⟩) HS0.out ?_
  case refine_2 => (intro w1 hS1; have c1 : w1.cell? ⟨b, 1, none⟩ = some (.int .i64 (n : Int)) := hS1; clear hS1; go_simp; try with_reducible rfl)
  try simp only [Act.put, List.setIfInBounds_toArray, List.set_cons_zero, List.set_cons_succ]
  refine wpAnyH_take (i := 3) (oi := { dst := some 8, op := Go.Op.move (Go.Operand.tmp 0), type := 29, pos := "outbox.go:153", after := #[], guard := none }) (v := ?_) rfl (by kernel_rfl) (by kernel_rfl) (by kernel_rfl) (fun _ _ _ h => h) (Or.inl ⟨by rfl, ?_⟩) HS0.out ?_
  case refine_2 => (intro w1 hS1; have c1 : w1.cell? ⟨b, 1, none⟩ = some (.int .i64 (n : Int)) := hS1; clear hS1; go_simp; try with_reducible rfl)
  try simp only [Act.put, List.setIfInBounds_toArray, List.set_cons_zero, List.set_cons_succ]
  refine wpAnyH_take (i := 4) (oi := { dst := some 9, op := Go.Op.nilCheck (Go.Operand.tmp 8), type := 0, pos := "outbox.go:153", after := #[{ on := 3, ground := Go.Ground.data }], guard := none }) (v := ?_) rfl (by kernel_rfl) (by kernel_rfl) (by kernel_rfl) (fun _ _ _ h => h) (Or.inl ⟨by rfl, ?_⟩) HS0.out ?_
  case refine_2 => (intro w1 hS1; have c1 : w1.cell? ⟨b, 1, none⟩ = some (.int .i64 (n : Int)) := hS1; clear hS1; go_simp; try with_reducible rfl)
  try simp only [Act.put, List.setIfInBounds_toArray, List.set_cons_zero, List.set_cons_succ]
  refine wpAnyH_take (i := 5) (oi := { dst := some 10, op := Go.Op.fieldAddr 79 (Go.Operand.tmp 9) 1, type := 0, pos := "outbox.go:153", after := #[{ on := 4, ground := Go.Ground.data }], guard := none }) (v := ?_) rfl (by kernel_rfl) (by kernel_rfl) (by kernel_rfl) (fun _ _ _ h => h) (Or.inl ⟨by rfl, ?_⟩) HS0.out ?_
  case refine_2 => (intro w1 hS1; have c1 : w1.cell? ⟨b, 1, none⟩ = some (.int .i64 (n : Int)) := hS1; clear hS1; go_simp; try with_reducible rfl)
  try simp only [Act.put, List.setIfInBounds_toArray, List.set_cons_zero, List.set_cons_succ]
  refine wpAnyH_take (i := 6) (oi := { dst := some 11, op := Go.Op.load 3 (Go.Operand.tmp 10), type := 3, pos := "outbox.go:153", after := #[{ on := 5, ground := Go.Ground.data }], guard := none }) (v := ?_) rfl (by kernel_rfl) (by kernel_rfl) (by kernel_rfl) (fun _ _ _ h => h) (Or.inl ⟨by rfl, ?_⟩) HS0.out ?_
  case refine_2 => (intro w1 hS1; have c1 : w1.cell? ⟨b, 1, none⟩ = some (.int .i64 (n : Int)) := hS1; clear hS1; go_simp; try with_reducible rfl)
  try simp only [Act.put, List.setIfInBounds_toArray, List.set_cons_zero, List.set_cons_succ]
  refine wpAnyH_take (i := 7) (oi := { dst := some 12, op := Go.Op.move (Go.Operand.tmp 0), type := 29, pos := "outbox.go:153", after := #[], guard := none }) (v := ?_) rfl (by kernel_rfl) (by kernel_rfl) (by kernel_rfl) (fun _ _ _ h => h) (Or.inl ⟨by rfl, ?_⟩) HS0.out ?_
  case refine_2 => (intro w1 hS1; have c1 : w1.cell? ⟨b, 1, none⟩ = some (.int .i64 (n : Int)) := hS1; clear hS1; go_simp; try with_reducible rfl)
  try simp only [Act.put, List.setIfInBounds_toArray, List.set_cons_zero, List.set_cons_succ]
  refine wpAnyH_take (i := 8) (oi := { dst := some 13, op := Go.Op.nilCheck (Go.Operand.tmp 12), type := 0, pos := "outbox.go:153", after := #[{ on := 7, ground := Go.Ground.data }], guard := none }) (v := ?_) rfl (by kernel_rfl) (by kernel_rfl) (by kernel_rfl) (fun _ _ _ h => h) (Or.inl ⟨by rfl, ?_⟩) HS0.out ?_
  case refine_2 => (intro w1 hS1; have c1 : w1.cell? ⟨b, 1, none⟩ = some (.int .i64 (n : Int)) := hS1; clear hS1; go_simp; try with_reducible rfl)
  try simp only [Act.put, List.setIfInBounds_toArray, List.set_cons_zero, List.set_cons_succ]
  refine wpAnyH_take (i := 9) (oi := { dst := some 14, op := Go.Op.fieldAddr 79 (Go.Operand.tmp 13) 1, type := 0, pos := "outbox.go:153", after := #[{ on := 8, ground := Go.Ground.data }], guard := none }) (v := ?_) rfl (by kernel_rfl) (by kernel_rfl) (by kernel_rfl) (fun _ _ _ h => h) (Or.inl ⟨by rfl, ?_⟩) HS0.out ?_
  case refine_2 => (intro w1 hS1; have c1 : w1.cell? ⟨b, 1, none⟩ = some (.int .i64 (n : Int)) := hS1; clear hS1; go_simp; try with_reducible rfl)
  try simp only [Act.put, List.setIfInBounds_toArray, List.set_cons_zero, List.set_cons_succ]
  refine wpAnyH_take (i := 10) (oi := { dst := some 15, op := Go.Op.load 3 (Go.Operand.tmp 14), type := 3, pos := "outbox.go:153", after := #[{ on := 9, ground := Go.Ground.data }], guard := none }) (v := ?_) rfl (by kernel_rfl) (by kernel_rfl) (by kernel_rfl) (fun _ _ _ h => h) (Or.inl ⟨by rfl, ?_⟩) HS0.out ?_
  case refine_2 => (intro w1 hS1; have c1 : w1.cell? ⟨b, 1, none⟩ = some (.int .i64 (n : Int)) := hS1; clear hS1; go_simp; try with_reducible rfl)
  try simp only [Act.put, List.setIfInBounds_toArray, List.set_cons_zero, List.set_cons_succ]
  refine wpAnyH_take (i := 11) (oi := { dst := some 16, op := Go.Op.slice 77 (Go.Operand.tmp 7) none (some (Go.Operand.tmp 11)) (some (Go.Operand.tmp 15)), type := 23, pos := "outbox.go:153", after := #[{ on := 2, ground := Go.Ground.data }, { on := 6, ground := Go.Ground.data }, { on := 10, ground := Go.Ground.data }], guard := none }) (v := ?_) rfl (by kernel_rfl) (by kernel_rfl) (by kernel_rfl) (fun _ _ _ h => h) (Or.inl ⟨by rfl, ?_⟩) HS0.out ?_
  case refine_2 => (intro w1 hS1; have c1 : w1.cell? ⟨b, 1, none⟩ = some (.int .i64 (n : Int)) := hS1; clear hS1; go_simp; try with_reducible rfl)
  try simp only [Act.put, List.setIfInBounds_toArray, List.set_cons_zero, List.set_cons_succ]
  refine wpAnyH_take (i := 12) (oi := { dst := some 2, op := Go.Op.assign (Go.Operand.tmp 16), type := 23, pos := "outbox.go:153", after := #[{ on := 11, ground := Go.Ground.data }, { on := 0, ground := Go.Ground.phase }, { on := 1, ground := Go.Ground.phase }, { on := 2, ground := Go.Ground.phase }, { on := 3, ground := Go.Ground.phase }, { on := 4, ground := Go.Ground.phase }, { on := 5, ground := Go.Ground.phase }, { on := 6, ground := Go.Ground.phase }, { on := 7, ground := Go.Ground.phase }, { on := 8, ground := Go.Ground.phase }, { on := 9, ground := Go.Ground.phase }, { on := 10, ground := Go.Ground.phase }, { on := 11, ground := Go.Ground.phase }], guard := none }) (v := ?_) rfl (by kernel_rfl) (by kernel_rfl) (by kernel_rfl) (fun _ _ _ h => h) (Or.inl ⟨by rfl, ?_⟩) HS0.out ?_
  case refine_2 => (intro w1 hS1; have c1 : w1.cell? ⟨b, 1, none⟩ = some (.int .i64 (n : Int)) := hS1; clear hS1; go_simp; try with_reducible rfl)
  try simp only [Act.put, List.setIfInBounds_toArray, List.set_cons_zero, List.set_cons_succ]
  refine wpAnyH_done (by kernel_rfl) ?_ _
  go_wp2_with fail
  go_ret
  exact ⟨by simp, HB.out⟩
/-- How many wait. -/
def cntW (l : List Nt) : Nat := (wh (fun x => !endN x) 0 l).length
theorem cntW_le (l : List Nt) : cntW l ≤ l.length := wh_len _ l 0
set_option maxRecDepth 100000 in
set_option maxHeartbeats 8000000 in
theorem waiting_box (b : Nat) (last : Int) (l : List Nt) (w : World) (h : BX w b last l) : Calls Try.prog 15 #[.pointer (some ⟨b, 0, none⟩)] w fun e w' => e = .returned (.int .i64 (cntW l : Int)) ∧ Below w.heap.size w w' := by
  have HX := Lib.hid h
  clear h
  go_enter Try.func15, Try.ntmps15
  go_wp2_with fail
  refine (all_box b last l w HX.out).mono ?_
  rintro e w1 ⟨rfl, hb⟩
  have HB := Lib.hid hb
  have HX1 := Lib.hid (HX.out.below hb)
  clear hb
  go_wp2_with fail
  refine (which_any _ _ _ _ _ l w1 HX1.out.nr (wait_cond w1) (by have := HX1.out.len; omega)).mono ?_
  rintro e w2 ⟨v, rfl, ho, hb⟩
  obtain ⟨av, cv, rfl, -⟩ := ho.cells
  have HB2 := Lib.hid (HB.out.trans (hb.mono HB.out.size))
  clear ho hb
  go_wp2_with fail
  go_ret
  exact ⟨rfl, HB2.out⟩
theorem zb_size : Try.zeroCells79.size = 1155 := by kernel_rfl
theorem zb_0 : Try.zeroCells79[0]? = some (.int .u64 0) := by kernel_rfl
theorem zb_1 : Try.zeroCells79[1]? = some (.int .i64 0) := by kernel_rfl
theorem bx_new {w : World} {b : Nat} {t : TypeId} (h : w.heap[b]? = some (.cells (Try.zeroCells79.setIfInBounds 1154 (.bool true)) t (0, 0))) : BX w b 0 [] := by
  have hc : ∀ j, w.cell? ⟨b, j, none⟩ = (Try.zeroCells79.setIfInBounds 1154 (.bool true))[j]? := fun j => by simp only [World.cell?, h]; rfl
  refine ⟨?_, ?_, ?_, fun k hk => absurd hk (by simp), fun j hj => ⟨?_, ?_⟩, by simp⟩
  · rw [hc, Array.getElem?_setIfInBounds_ne (by decide)]; exact zb_0
  · rw [hc, Array.getElem?_setIfInBounds_ne (by decide)]; exact zb_1
  · rw [hc, Array.getElem?_setIfInBounds_self_of_lt (by rw [zb_size]; decide)]
  · rw [Nat.zero_add, hc, Array.getElem?_eq_getElem (by rw [Array.size_setIfInBounds, zb_size]; exact hj)]
    rfl
  · simp only [World.frozen?, h]
    simp
set_option maxRecDepth 100000 in
set_option maxHeartbeats 8000000 in
theorem new_box (w : World) : Calls Try.prog 19 #[] w fun e w' => ∃ b, e = .returned (.pointer (some ⟨b, 0, none⟩)) ∧ w.heap.size ≤ b ∧ BX w' b 0 [] ∧ Below w.heap.size w w' := by
  go_enter Try.func19, Try.ntmps19
  go_wp2_with fail
  go_ret
  obtain ⟨B1, s0, -⟩ := box1 w (Try.zeroCells79.setIfInBounds 1154 (.bool true)) 79
  exact ⟨_, rfl, Nat.le_refl _, bx_new s0, B1⟩
end Go.Proofs.Ytnfpheccmjdpoaa

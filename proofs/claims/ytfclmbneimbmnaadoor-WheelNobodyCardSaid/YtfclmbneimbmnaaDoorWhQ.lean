import Derived.Test.YtfclmbneimbmnaaDoorWhJ
namespace Go.Proofs.YtfclmbneimbmnaaDoor
open Go.RowKit
/- Wheels that no call made. -/

/-- A pointer to no wheel: nil, or to one that no call made; so from a world on. -/
def NoW (v : Value) (w : World) : Prop := ∀ W, Below w.heap.size w W → Calls Tryd.prog 82 #[v] W fun e w' => e = .returned (.bool false) ∧ w' = W
theorem NoW.below {v : Value} {w w2 : World} (h : NoW v w) (hb : Below w.heap.size w w2) : NoW v w2 := fun W hW => h W (hb.trans (hW.mono hb.size))
set_option maxRecDepth 100000 in
theorem now_nil (w : World) : NoW (.pointer none) w := by
  intro W _
  go_enter Tryd.func82, Tryd.ntmps82
  go_wp2
  go_ret
  exact ⟨rfl, rfl⟩
set_option maxRecDepth 100000 in
theorem now_plain (q : Nat) (w : World) (h : w.cell? ⟨q, 1, none⟩ = some (.pointer none)) : NoW (.pointer (some ⟨q, 0, none⟩)) w := by
  intro W hb
  have h1 := (hb.cell (p := ⟨q, 1, none⟩) (cell_lt h)).trans h
  clear h hb
  go_enter Tryd.func82, Tryd.ntmps82
  go_wp2
  go_ret
  exact ⟨rfl, rfl⟩

set_option maxRecDepth 100000 in
theorem nwnow (v : Value) (w : World) (h : NoW v w) : Calls Tryd.prog 32 #[v] w fun e w' => e = .returned (.int .i64 0) ∧ w' = w := by
  have hc := h w (Below.refl _ _)
  clear h
  go_enter Tryd.func32, Tryd.ntmps32
  go_wp2_with (go_at_call 82; (with_reducible refine hc.mono ?_); rintro e w1 ⟨rfl, rfl⟩)
  go_ret
  exact ⟨rfl, rfl⟩
set_option maxRecDepth 100000 in
theorem nwnext (v : Value) (w : World) (h : NoW v w) : Calls Tryd.prog 37 #[v] w fun e w' => e = .returned (.tuple #[.int .i64 0, .bool false]) ∧ w' = w := by
  have hc := h w (Below.refl _ _)
  clear h
  go_enter Tryd.func37, Tryd.ntmps37
  go_wp2_with (go_at_call 82; (with_reducible refine hc.mono ?_); rintro e w1 ⟨rfl, rfl⟩)
  refine bodyPost_ret (results_tmp2 rfl _ _ _) rfl ?_
  exact ⟨rfl, rfl⟩
set_option maxRecDepth 100000 in
theorem nwall (v : Value) (w : World) (h : NoW v w) : Calls Tryd.prog 36 #[v] w fun e w' => e = .returned (.slice none 0 0) ∧ w' = w := by
  have hc := h w (Below.refl _ _)
  clear h
  go_enter Tryd.func36, Tryd.ntmps36
  go_wp2_with (go_at_call 82; (with_reducible refine hc.mono ?_); rintro e w1 ⟨rfl, rfl⟩)
  go_ret
  exact ⟨rfl, rfl⟩
/- Wheels that no call made: the calls that take memory. -/

set_option maxRecDepth 100000 in
theorem nwget (v : Value) (x : Int) (w : World) (h : NoW v w) : Calls Tryd.prog 41 #[v, .int .u64 x] w fun e w' => e = .returned (.tuple #[.agg #[.int .u64 0, .int .u64 0, .int .i64 0], .bool false]) ∧ Below w.heap.size w w' := by
  have hb : Below w.heap.size w (w.alloc (.cells #[.int .u64 0, .int .u64 0, .int .i64 0] 27)) := (Below.refl _ _).alloc (Nat.le_refl _) _
  have hc := h _ hb
  have hz : ∀ o, (w.alloc (.cells #[.int .u64 0, .int .u64 0, .int .i64 0] 27)).frozen? ⟨w.heap.size, o, none⟩ = false := fun o => by simp
  obtain ⟨q0, q1, q2⟩ := zero_three w
  obtain ⟨T, hT⟩ : ∃ T, w.heap.size = T := ⟨_, rfl⟩
  clear h
  go_enter Tryd.func41, Tryd.ntmps41
  go_wp2_with fail
  rw [hT] at q0 q1 q2 hz
  generalize w.alloc (.cells #[.int .u64 0, .int .u64 0, .int .i64 0] 27) = W1 at hb hc hz q0 q1 q2 ⊢
  have z0 := hz 0
  have z1 := hz 1
  have z2 := hz 2
  go_wp2_with (go_at_call 82; (with_reducible refine hc.mono ?_); rintro e w1 ⟨rfl, rfl⟩)
  have h3 := below_three (a := w) (w := w1) hb (show w.heap.size ≤ T by omega) (.int .u64 0) (.int .u64 0) (.int .i64 0)
  obtain ⟨k0, k1, k2⟩ := three_read (u := .int .u64 0) (v := .int .u64 0) (z := .int .i64 0) q0 q1 q2
  generalize ((w1.setCell ⟨T, 0, none⟩ (.int .u64 0)).setCell ⟨T, 1, none⟩ (.int .u64 0)).setCell ⟨T, 2, none⟩ (.int .i64 0) = W3 at k0 k1 k2 h3 ⊢
  refine bodyPost_ret (v := .tuple #[.agg #[.int .u64 0, .int .u64 0, .int .i64 0], .bool false]) (by simp [results, Tryd.results41, go_sem, k0, k1, k2]) rfl ⟨rfl, h3⟩
set_option maxRecDepth 100000 in
theorem nwcancel (v : Value) (x : Int) (w : World) (h : NoW v w) : Calls Tryd.prog 40 #[v, .int .u64 x] w fun e w' => e = .returned (.tuple #[.agg #[.int .u64 0, .int .u64 0, .int .i64 0], .bool false]) ∧ Below w.heap.size w w' := by
  have hb : Below w.heap.size w (w.alloc (.cells #[.int .u64 0, .int .u64 0, .int .i64 0] 27)) := (Below.refl _ _).alloc (Nat.le_refl _) _
  have hc := h _ hb
  have hz : ∀ o, (w.alloc (.cells #[.int .u64 0, .int .u64 0, .int .i64 0] 27)).frozen? ⟨w.heap.size, o, none⟩ = false := fun o => by simp
  obtain ⟨q0, q1, q2⟩ := zero_three w
  obtain ⟨T, hT⟩ : ∃ T, w.heap.size = T := ⟨_, rfl⟩
  clear h
  go_enter Tryd.func40, Tryd.ntmps40
  go_wp2_with fail
  rw [hT] at q0 q1 q2 hz
  generalize w.alloc (.cells #[.int .u64 0, .int .u64 0, .int .i64 0] 27) = W1 at hb hc hz q0 q1 q2 ⊢
  have z0 := hz 0
  have z1 := hz 1
  have z2 := hz 2
  go_wp2_with (go_at_call 82; (with_reducible refine hc.mono ?_); rintro e w1 ⟨rfl, rfl⟩)
  have h3 := below_three (a := w) (w := w1) hb (show w.heap.size ≤ T by omega) (.int .u64 0) (.int .u64 0) (.int .i64 0)
  obtain ⟨k0, k1, k2⟩ := three_read (u := .int .u64 0) (v := .int .u64 0) (z := .int .i64 0) q0 q1 q2
  generalize ((w1.setCell ⟨T, 0, none⟩ (.int .u64 0)).setCell ⟨T, 1, none⟩ (.int .u64 0)).setCell ⟨T, 2, none⟩ (.int .i64 0) = W3 at k0 k1 k2 h3 ⊢
  refine bodyPost_ret (v := .tuple #[.agg #[.int .u64 0, .int .u64 0, .int .i64 0], .bool false]) (by simp [results, Tryd.results40, go_sem, k0, k1, k2]) rfl ⟨rfl, h3⟩
set_option maxRecDepth 100000 in
theorem nwarm (v : Value) (x y z : Int) (w : World) (h : NoW v w) : Calls Tryd.prog 38 #[v, .agg #[.int .u64 x, .int .u64 y, .int .i64 z]] w fun e w' => e = .returned (.int .i64 1) ∧ Below w.heap.size w w' := by
  have hb : Below w.heap.size w (w.alloc (.cells #[.int .u64 x, .int .u64 y, .int .i64 z] 27)) := (Below.refl _ _).alloc (Nat.le_refl _) _
  have hc := h _ hb
  have HB := Lib.hid hb
  clear h hb
  go_enter Tryd.func38, Tryd.ntmps38
  go_wp2_with (go_at_call 82; (with_reducible refine hc.mono ?_); rintro e w1 ⟨rfl, rfl⟩)
  go_ret
  exact ⟨rfl, HB.out⟩
/- Wheels that no call made: Advance, Spread, Len. -/

set_option maxRecDepth 100000 in
theorem nwadv (q : Option Addr) (u : Int) (w : World) (h : NoW (.pointer q) w) : Calls Tryd.prog 39 #[.pointer q, .int .i64 u] w fun e w' => e = .returned (.tuple #[.slice none 0 0, .int .i64 1]) ∧ Below w.heap.size w w' := by
  have hb : Below w.heap.size w ((w.alloc (.cells #[.pointer q] 52)).alloc (.cells #[.int .i64 u] 2)) := ((Below.refl _ _).alloc (Nat.le_refl _) _).alloc (by simp) _
  have hc := h _ hb
  have HB := Lib.hid hb
  clear h hb
  go_enter Tryd.func39, Tryd.ntmps39
  go_wp2_with (go_at_call 82; (with_reducible refine hc.mono ?_); rintro e w1 ⟨rfl, rfl⟩)
  refine bodyPost_ret (results_tmp2 rfl _ _ _) rfl ?_
  exact ⟨rfl, HB.out⟩
set_option maxRecDepth 100000 in
set_option maxHeartbeats 4000000 in
theorem nwspread (v : Value) (w : World) (h : NoW v w) : Calls Tryd.prog 34 #[v] w fun e w' => e = .returned (.agg #[.int .i64 0, .int .i64 0, .int .i64 0, .int .i64 0, .int .i64 0]) ∧ Below w.heap.size w w' := by
  have hb0 : Below w.heap.size w ((w.alloc (.cells #[.int .i64 0, .int .i64 0, .int .i64 0, .int .i64 0, .int .i64 0] 61)).alloc (.cells #[.int .i64 0, .int .i64 0, .int .i64 0, .int .i64 0, .int .i64 0] 61)) := ((Below.refl _ _).alloc (Nat.le_refl _) _).alloc (by simp) _
  have hs0 : ((w.alloc (.cells #[.int .i64 0, .int .i64 0, .int .i64 0, .int .i64 0, .int .i64 0] 61)).alloc (.cells #[.int .i64 0, .int .i64 0, .int .i64 0, .int .i64 0, .int .i64 0] 61)).heap.size = w.heap.size + 2 := by simp
  obtain ⟨T, hT⟩ : ∃ T, w.heap.size = T := ⟨_, rfl⟩
  have tz : ∀ j, j < 5 → ((w.alloc (.cells #[.int .i64 0, .int .i64 0, .int .i64 0, .int .i64 0, .int .i64 0] 61)).alloc (.cells #[.int .i64 0, .int .i64 0, .int .i64 0, .int .i64 0, .int .i64 0] 61)).cell? ⟨T, j, none⟩ = some (.int .i64 0) := fun j hj => by
    rw [World.cell?_alloc_lt _ _ _ (by show T < _; simp; omega), World.cell?_alloc_at _ _ _ _ hT.symm]
    match j, hj with
    | 0, _ => rfl
    | 1, _ => rfl
    | 2, _ => rfl
    | 3, _ => rfl
    | 4, _ => rfl
  have nz : ∀ j, j < 5 → ((w.alloc (.cells #[.int .i64 0, .int .i64 0, .int .i64 0, .int .i64 0, .int .i64 0] 61)).alloc (.cells #[.int .i64 0, .int .i64 0, .int .i64 0, .int .i64 0, .int .i64 0] 61)).cell? ⟨T + 1, j, none⟩ = some (.int .i64 0) := fun j hj => by
    rw [World.cell?_alloc_at _ _ _ _ (by simp; omega)]
    match j, hj with
    | 0, _ => rfl
    | 1, _ => rfl
    | 2, _ => rfl
    | 3, _ => rfl
    | 4, _ => rfl
  have tf : ∀ j, ((w.alloc (.cells #[.int .i64 0, .int .i64 0, .int .i64 0, .int .i64 0, .int .i64 0] 61)).alloc (.cells #[.int .i64 0, .int .i64 0, .int .i64 0, .int .i64 0, .int .i64 0] 61)).frozen? ⟨T, j, none⟩ = false := fun j => by rw [← hT]; simp
  have nf : ∀ j, ((w.alloc (.cells #[.int .i64 0, .int .i64 0, .int .i64 0, .int .i64 0, .int .i64 0] 61)).alloc (.cells #[.int .i64 0, .int .i64 0, .int .i64 0, .int .i64 0, .int .i64 0] 61)).frozen? ⟨T + 1, j, none⟩ = false := fun j => by rw [← hT]; simp
  have hc := h _ hb0
  clear h
  go_enter Tryd.func34, Tryd.ntmps34
  go_wp2_with fail
  generalize ((w.alloc (.cells #[.int .i64 0, .int .i64 0, .int .i64 0, .int .i64 0, .int .i64 0] 61)).alloc (.cells #[.int .i64 0, .int .i64 0, .int .i64 0, .int .i64 0, .int .i64 0] 61)) = W0 at hb0 hs0 tz nz tf nf hc ⊢
  have t0 := tz 0 (by omega)
  have t1 := tz 1 (by omega)
  have t2 := tz 2 (by omega)
  have t3 := tz 3 (by omega)
  have t4 := tz 4 (by omega)
  have n0 := nz 0 (by omega)
  have n1 := nz 1 (by omega)
  have n2 := nz 2 (by omega)
  have n3 := nz 3 (by omega)
  have n4 := nz 4 (by omega)
  clear tz nz
  go_wp2_with (go_at_call 82; (with_reducible refine hc.mono ?_); rintro e w1 ⟨rfl, rfl⟩)
  have hT0 : w.heap.size ≤ T := by omega
  have hfin : Below w.heap.size w (((((w1.setCell ⟨T, 0, none⟩ (.int .i64 0)).setCell ⟨T, 1, none⟩ (.int .i64 0)).setCell ⟨T, 2, none⟩ (.int .i64 0)).setCell ⟨T, 3, none⟩ (.int .i64 0)).setCell ⟨T, 4, none⟩ (.int .i64 0)) := (((((hb0).setCell hT0 _).setCell hT0 _).setCell hT0 _).setCell hT0 _).setCell hT0 _
  obtain ⟨k0, k1, k2, k3, k4⟩ := five_read (w := w1) (.int .i64 0) (.int .i64 0) (.int .i64 0) (.int .i64 0) (.int .i64 0) t0 t1 t2 t3 t4
  generalize (((((w1.setCell ⟨T, 0, none⟩ (.int .i64 0)).setCell ⟨T, 1, none⟩ (.int .i64 0)).setCell ⟨T, 2, none⟩ (.int .i64 0)).setCell ⟨T, 3, none⟩ (.int .i64 0)).setCell ⟨T, 4, none⟩ (.int .i64 0)) = W9 at hfin k0 k1 k2 k3 k4 ⊢
  refine bodyPost_ret (v := .agg #[.int .i64 0, .int .i64 0, .int .i64 0, .int .i64 0, .int .i64 0]) (by simp [results, Tryd.results34, go_sem, k0, k1, k2, k3, k4]) rfl ⟨rfl, hfin⟩
set_option maxRecDepth 100000 in
set_option maxHeartbeats 4000000 in
theorem nwlen (v : Value) (w : World) (h : NoW v w) : Calls Tryd.prog 33 #[v] w fun e w' => e = .returned (.int .i64 0) ∧ Below w.heap.size w w' := by
  have hs := nwspread v w h
  clear h
  have hix := fun w => idx_five (.int .i64 0) (.int .i64 0) (.int .i64 0) (.int .i64 0) (.int .i64 0) w
  have i0 := fun w => (hix w).1
  have i1 := fun w => (hix w).2.1
  have i2 := fun w => (hix w).2.2.1
  have i3 := fun w => (hix w).2.2.2.1
  have i4 := fun w => (hix w).2.2.2.2
  clear hix
  go_enter Tryd.func33, Tryd.ntmps33
  go_wp2_with (go_at_call 34; (with_reducible refine hs.mono ?_); rintro e w1 ⟨rfl, hb1⟩; have HB1 := Lib.hid hb1; clear hb1 hs)
  refine wp_loop_rounds 6 ?_
  rw [rounds_succ]
  go_wp2_with fail
  rw [rounds_succ]
  go_wp2_with fail
  rw [rounds_succ]
  go_wp2_with fail
  rw [rounds_succ]
  go_wp2_with fail
  rw [rounds_succ]
  go_wp2_with fail
  rw [rounds_succ]
  go_wp2_with fail
  go_ret
  exact ⟨ret_intW (by push_cast), HB1.out⟩
end Go.Proofs.YtfclmbneimbmnaaDoor

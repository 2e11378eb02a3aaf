import Derived.Test.YtfclmbneimbmnaaDoorWhJ
import Derived.Test.YtfclmbneimbmnaaDoorWgA
import Derived.Deep.RegionHeld3
namespace Go.Proofs.YtfclmbneimbmnaaDoor
open Go.RowKit
open Go.RowKit
/- Wheels that no call made. -/

/-- A pointer to no wheel: nil, or to one that no call made; so from a world on. -/
def NoW (v : Value) (w : World) : Prop := ∀ W, Below w.heap.size w W → Calls Tryd.prog 82 #[v] W fun e w' => e = .returned (.bool false) ∧ w' = W
theorem NoW.below {v : Value} {w w2 : World} (h : NoW v w) (hb : Below w.heap.size w w2) : NoW v w2 := fun W hW => h W (hb.trans (hW.mono hb.size))
set_option maxRecDepth 100000 in
theorem now_nil (w : World) : NoW (.pointer none) w := by
  intro W _
  go_enter Tryd.func82, Tryd.ntmps82
  go_wp2
  go_ret
  exact ⟨rfl, rfl⟩
set_option maxRecDepth 100000 in
theorem now_plain (q : Nat) (w : World) (h : w.cell? ⟨q, 1, none⟩ = some (.pointer none)) : NoW (.pointer (some ⟨q, 0, none⟩)) w := by
  intro W hb
  have h1 := (hb.cell (p := ⟨q, 1, none⟩) (cell_lt h)).trans h
  clear h hb
  go_enter Tryd.func82, Tryd.ntmps82
  go_wp2
  go_ret
  exact ⟨rfl, rfl⟩

set_option maxRecDepth 100000 in
theorem nwnow (v : Value) (w : World) (h : NoW v w) : Calls Tryd.prog 32 #[v] w fun e w' => e = .returned (.int .i64 0) ∧ w' = w := by
  have hc := h w (Below.refl _ _)
  clear h
  go_enter Tryd.func32, Tryd.ntmps32
  go_wp2_with (go_at_call 82; (with_reducible refine hc.mono ?_); rintro e w1 ⟨rfl, rfl⟩)
  go_ret
  exact ⟨rfl, rfl⟩
set_option maxRecDepth 100000 in
theorem nwnext (v : Value) (w : World) (h : NoW v w) : Calls Tryd.prog 37 #[v] w fun e w' => e = .returned (.tuple #[.int .i64 0, .bool false]) ∧ w' = w := by
  have hc := h w (Below.refl _ _)
  clear h
  go_enter Tryd.func37, Tryd.ntmps37
  go_wp2_with (go_at_call 82; (with_reducible refine hc.mono ?_); rintro e w1 ⟨rfl, rfl⟩)
  refine bodyPost_ret (results_tmp2 rfl _ _ _) rfl ?_
  exact ⟨rfl, rfl⟩
set_option maxRecDepth 100000 in
theorem nwall (v : Value) (w : World) (h : NoW v w) : Calls Tryd.prog 36 #[v] w fun e w' => e = .returned (.slice none 0 0) ∧ w' = w := by
  have hc := h w (Below.refl _ _)
  clear h
  go_enter Tryd.func36, Tryd.ntmps36
  go_wp2_with (go_at_call 82; (with_reducible refine hc.mono ?_); rintro e w1 ⟨rfl, rfl⟩)
  go_ret
  exact ⟨rfl, rfl⟩
/- Wheels that no call made: the calls that take memory. -/

set_option maxRecDepth 100000 in
theorem nwget (v : Value) (x : Int) (w : World) (h : NoW v w) : Calls Tryd.prog 41 #[v, .int .u64 x] w fun e w' => e = .returned (.tuple #[.agg #[.int .u64 0, .int .u64 0, .int .i64 0], .bool false]) ∧ Below w.heap.size w w' := by
  have hb : Below w.heap.size w (w.alloc (.cells #[.int .u64 0, .int .u64 0, .int .i64 0] 27)) := (Below.refl _ _).alloc (Nat.le_refl _) _
  have hc := h _ hb
  have hz : ∀ o, (w.alloc (.cells #[.int .u64 0, .int .u64 0, .int .i64 0] 27)).frozen? ⟨w.heap.size, o, none⟩ = false := fun o => by simp
  obtain ⟨q0, q1, q2⟩ := zero_three w
  obtain ⟨T, hT⟩ : ∃ T, w.heap.size = T := ⟨_, rfl⟩
  clear h
  go_enter Tryd.func41, Tryd.ntmps41
  go_wp2_with fail
  rw [hT] at q0 q1 q2 hz
  generalize w.alloc (.cells #[.int .u64 0, .int .u64 0, .int .i64 0] 27) = W1 at hb hc hz q0 q1 q2 ⊢
  have z0 := hz 0
  have z1 := hz 1
  have z2 := hz 2
  go_wp2_with (go_at_call 82; (with_reducible refine hc.mono ?_); rintro e w1 ⟨rfl, rfl⟩)
  have h3 := below_three (a := w) (w := w1) hb (show w.heap.size ≤ T by omega) (.int .u64 0) (.int .u64 0) (.int .i64 0)
  obtain ⟨k0, k1, k2⟩ := three_read (u := .int .u64 0) (v := .int .u64 0) (z := .int .i64 0) q0 q1 q2
  generalize ((w1.setCell ⟨T, 0, none⟩ (.int .u64 0)).setCell ⟨T, 1, none⟩ (.int .u64 0)).setCell ⟨T, 2, none⟩ (.int .i64 0) = W3 at k0 k1 k2 h3 ⊢
  refine bodyPost_ret (v := .tuple #[.agg #[.int .u64 0, .int .u64 0, .int .i64 0], .bool false]) (by simp [results, Tryd.results41, go_sem, k0, k1, k2]) rfl ⟨rfl, h3⟩
set_option maxRecDepth 100000 in
theorem nwcancel (v : Value) (x : Int) (w : World) (h : NoW v w) : Calls Tryd.prog 40 #[v, .int .u64 x] w fun e w' => e = .returned (.tuple #[.agg #[.int .u64 0, .int .u64 0, .int .i64 0], .bool false]) ∧ Below w.heap.size w w' := by
  have hb : Below w.heap.size w (w.alloc (.cells #[.int .u64 0, .int .u64 0, .int .i64 0] 27)) := (Below.refl _ _).alloc (Nat.le_refl _) _
  have hc := h _ hb
  have hz : ∀ o, (w.alloc (.cells #[.int .u64 0, .int .u64 0, .int .i64 0] 27)).frozen? ⟨w.heap.size, o, none⟩ = false := fun o => by simp
  obtain ⟨q0, q1, q2⟩ := zero_three w
  obtain ⟨T, hT⟩ : ∃ T, w.heap.size = T := ⟨_, rfl⟩
  clear h
  go_enter Tryd.func40, Tryd.ntmps40
  go_wp2_with fail
  rw [hT] at q0 q1 q2 hz
  generalize w.alloc (.cells #[.int .u64 0, .int .u64 0, .int .i64 0] 27) = W1 at hb hc hz q0 q1 q2 ⊢
  have z0 := hz 0
  have z1 := hz 1
  have z2 := hz 2
  go_wp2_with (go_at_call 82; (with_reducible refine hc.mono ?_); rintro e w1 ⟨rfl, rfl⟩)
  have h3 := below_three (a := w) (w := w1) hb (show w.heap.size ≤ T by omega) (.int .u64 0) (.int .u64 0) (.int .i64 0)
  obtain ⟨k0, k1, k2⟩ := three_read (u := .int .u64 0) (v := .int .u64 0) (z := .int .i64 0) q0 q1 q2
  generalize ((w1.setCell ⟨T, 0, none⟩ (.int .u64 0)).setCell ⟨T, 1, none⟩ (.int .u64 0)).setCell ⟨T, 2, none⟩ (.int .i64 0) = W3 at k0 k1 k2 h3 ⊢
  refine bodyPost_ret (v := .tuple #[.agg #[.int .u64 0, .int .u64 0, .int .i64 0], .bool false]) (by simp [results, Tryd.results40, go_sem, k0, k1, k2]) rfl ⟨rfl, h3⟩
set_option maxRecDepth 100000 in
theorem nwarm (v : Value) (x y z : Int) (w : World) (h : NoW v w) : Calls Tryd.prog 38 #[v, .agg #[.int .u64 x, .int .u64 y, .int .i64 z]] w fun e w' => e = .returned (.int .i64 1) ∧ Below w.heap.size w w' := by
  have hb : Below w.heap.size w (w.alloc (.cells #[.int .u64 x, .int .u64 y, .int .i64 z] 27)) := (Below.refl _ _).alloc (Nat.le_refl _) _
  have hc := h _ hb
  have HB := Lib.hid hb
  clear h hb
  go_enter Tryd.func38, Tryd.ntmps38
  go_wp2_with (go_at_call 82; (with_reducible refine hc.mono ?_); rintro e w1 ⟨rfl, rfl⟩)
  go_ret
  exact ⟨rfl, HB.out⟩
/- Wheels that no call made: Advance, Spread, Len. -/

set_option maxRecDepth 100000 in
theorem nwadv (q : Option Addr) (u : Int) (w : World) (h : NoW (.pointer q) w) : Calls Tryd.prog 39 #[.pointer q, .int .i64 u] w fun e w' => e = .returned (.tuple #[.slice none 0 0, .int .i64 1]) ∧ Below w.heap.size w w' := by
  have hb : Below w.heap.size w ((w.alloc (.cells #[.pointer q] 52)).alloc (.cells #[.int .i64 u] 2)) := ((Below.refl _ _).alloc (Nat.le_refl _) _).alloc (by simp) _
  have hc := h _ hb
  have HB := Lib.hid hb
  clear h hb
  go_enter Tryd.func39, Tryd.ntmps39
  go_wp2_with (go_at_call 82; (with_reducible refine hc.mono ?_); rintro e w1 ⟨rfl, rfl⟩)
  refine bodyPost_ret (results_tmp2 rfl _ _ _) rfl ?_
  exact ⟨rfl, HB.out⟩
set_option maxRecDepth 100000 in
set_option maxHeartbeats 4000000 in
theorem nwspread (v : Value) (w : World) (h : NoW v w) : Calls Tryd.prog 34 #[v] w fun e w' => e = .returned (.agg #[.int .i64 0, .int .i64 0, .int .i64 0, .int .i64 0, .int .i64 0]) ∧ Below w.heap.size w w' := by
  have hb0 : Below w.heap.size w ((w.alloc (.cells #[.int .i64 0, .int .i64 0, .int .i64 0, .int .i64 0, .int .i64 0] 61)).alloc (.cells #[.int .i64 0, .int .i64 0, .int .i64 0, .int .i64 0, .int .i64 0] 61)) := ((Below.refl _ _).alloc (Nat.le_refl _) _).alloc (by simp) _
  have hs0 : ((w.alloc (.cells #[.int .i64 0, .int .i64 0, .int .i64 0, .int .i64 0, .int .i64 0] 61)).alloc (.cells #[.int .i64 0, .int .i64 0, .int .i64 0, .int .i64 0, .int .i64 0] 61)).heap.size = w.heap.size + 2 := by simp
  obtain ⟨T, hT⟩ : ∃ T, w.heap.size = T := ⟨_, rfl⟩
  have tz : ∀ j, j < 5 → ((w.alloc (.cells #[.int .i64 0, .int .i64 0, .int .i64 0, .int .i64 0, .int .i64 0] 61)).alloc (.cells #[.int .i64 0, .int .i64 0, .int .i64 0, .int .i64 0, .int .i64 0] 61)).cell? ⟨T, j, none⟩ = some (.int .i64 0) := fun j hj => by
    rw [World.cell?_alloc_lt _ _ _ (by show T < _; simp; omega), World.cell?_alloc_at _ _ _ _ hT.symm]
    match j, hj with
    | 0, _ => rfl
    | 1, _ => rfl
    | 2, _ => rfl
    | 3, _ => rfl
    | 4, _ => rfl
  have nz : ∀ j, j < 5 → ((w.alloc (.cells #[.int .i64 0, .int .i64 0, .int .i64 0, .int .i64 0, .int .i64 0] 61)).alloc (.cells #[.int .i64 0, .int .i64 0, .int .i64 0, .int .i64 0, .int .i64 0] 61)).cell? ⟨T + 1, j, none⟩ = some (.int .i64 0) := fun j hj => by
    rw [World.cell?_alloc_at _ _ _ _ (by simp; omega)]
    match j, hj with
    | 0, _ => rfl
    | 1, _ => rfl
    | 2, _ => rfl
    | 3, _ => rfl
    | 4, _ => rfl
  have tf : ∀ j, ((w.alloc (.cells #[.int .i64 0, .int .i64 0, .int .i64 0, .int .i64 0, .int .i64 0] 61)).alloc (.cells #[.int .i64 0, .int .i64 0, .int .i64 0, .int .i64 0, .int .i64 0] 61)).frozen? ⟨T, j, none⟩ = false := fun j => by rw [← hT]; simp
  have nf : ∀ j, ((w.alloc (.cells #[.int .i64 0, .int .i64 0, .int .i64 0, .int .i64 0, .int .i64 0] 61)).alloc (.cells #[.int .i64 0, .int .i64 0, .int .i64 0, .int .i64 0, .int .i64 0] 61)).frozen? ⟨T + 1, j, none⟩ = false := fun j => by rw [← hT]; simp
  have hc := h _ hb0
  clear h
  go_enter Tryd.func34, Tryd.ntmps34
  go_wp2_with fail
  generalize ((w.alloc (.cells #[.int .i64 0, .int .i64 0, .int .i64 0, .int .i64 0, .int .i64 0] 61)).alloc (.cells #[.int .i64 0, .int .i64 0, .int .i64 0, .int .i64 0, .int .i64 0] 61)) = W0 at hb0 hs0 tz nz tf nf hc ⊢
  have t0 := tz 0 (by omega)
  have t1 := tz 1 (by omega)
  have t2 := tz 2 (by omega)
  have t3 := tz 3 (by omega)
  have t4 := tz 4 (by omega)
  have n0 := nz 0 (by omega)
  have n1 := nz 1 (by omega)
  have n2 := nz 2 (by omega)
  have n3 := nz 3 (by omega)
  have n4 := nz 4 (by omega)
  clear tz nz
  go_wp2_with (go_at_call 82; (with_reducible refine hc.mono ?_); rintro e w1 ⟨rfl, rfl⟩)
  have hT0 : w.heap.size ≤ T := by omega
  have hfin : Below w.heap.size w (((((w1.setCell ⟨T, 0, none⟩ (.int .i64 0)).setCell ⟨T, 1, none⟩ (.int .i64 0)).setCell ⟨T, 2, none⟩ (.int .i64 0)).setCell ⟨T, 3, none⟩ (.int .i64 0)).setCell ⟨T, 4, none⟩ (.int .i64 0)) := (((((hb0).setCell hT0 _).setCell hT0 _).setCell hT0 _).setCell hT0 _).setCell hT0 _
  obtain ⟨k0, k1, k2, k3, k4⟩ := five_read (w := w1) (.int .i64 0) (.int .i64 0) (.int .i64 0) (.int .i64 0) (.int .i64 0) t0 t1 t2 t3 t4
  generalize (((((w1.setCell ⟨T, 0, none⟩ (.int .i64 0)).setCell ⟨T, 1, none⟩ (.int .i64 0)).setCell ⟨T, 2, none⟩ (.int .i64 0)).setCell ⟨T, 3, none⟩ (.int .i64 0)).setCell ⟨T, 4, none⟩ (.int .i64 0)) = W9 at hfin k0 k1 k2 k3 k4 ⊢
  refine bodyPost_ret (v := .agg #[.int .i64 0, .int .i64 0, .int .i64 0, .int .i64 0, .int .i64 0]) (by simp [results, Tryd.results34, go_sem, k0, k1, k2, k3, k4]) rfl ⟨rfl, hfin⟩
set_option maxRecDepth 100000 in
set_option maxHeartbeats 4000000 in
theorem nwlen (v : Value) (w : World) (h : NoW v w) : Calls Tryd.prog 33 #[v] w fun e w' => e = .returned (.int .i64 0) ∧ Below w.heap.size w w' := by
  have hs := nwspread v w h
  clear h
  have hix := fun w => idx_five (.int .i64 0) (.int .i64 0) (.int .i64 0) (.int .i64 0) (.int .i64 0) w
  have i0 := fun w => (hix w).1
  have i1 := fun w => (hix w).2.1
  have i2 := fun w => (hix w).2.2.1
  have i3 := fun w => (hix w).2.2.2.1
  have i4 := fun w => (hix w).2.2.2.2
  clear hix
  go_enter Tryd.func33, Tryd.ntmps33
  go_wp2_with (go_at_call 34; (with_reducible refine hs.mono ?_); rintro e w1 ⟨rfl, hb1⟩; have HB1 := Lib.hid hb1; clear hb1 hs)
  refine wp_loop_rounds 6 ?_
  rw [rounds_succ]
  go_wp2_with fail
  rw [rounds_succ]
  go_wp2_with fail
  rw [rounds_succ]
  go_wp2_with fail
  rw [rounds_succ]
  go_wp2_with fail
  rw [rounds_succ]
  go_wp2_with fail
  rw [rounds_succ]
  go_wp2_with fail
  go_ret
  exact ⟨ret_intW (by push_cast), HB1.out⟩
open Go.RowKit
/- A book over its wheel. -/
open Go.RowKit
/-- A book at block k: its wheel, its last number. -/
structure BI (B : Nat) (w : World) (k : Nat) (D : WD) (a last : Nat) : Prop where
  wi : WI B w D a
  c0 : w.cell? ⟨k, 0, none⟩ = some (.pointer (some ⟨D.q, 0, none⟩))
  c1 : w.cell? ⟨k, 1, none⟩ = some (.int .u64 last)
  fr : ∀ j, w.frozen? ⟨k, j, none⟩ = false
  ap : ¬ D.fp k
  bk : B ≤ k
  lt : k < w.heap.size
/-- The blocks of a book. -/
def BF (k : Nat) (D : WD) (g : Nat) : Prop := D.fp g ∨ g = k
theorem BI.below {B k a last : Nat} {w w' : World} {D : WD} (h : BI B w k D a last) (hb : Below w.heap.size w w') : BI B w' k D a last :=
  ⟨h.wi.below hb, (hb.cell (p := ⟨k, 0, none⟩) h.lt).trans h.c0, (hb.cell (p := ⟨k, 1, none⟩) h.lt).trans h.c1, fun j => (hb.frozen (p := ⟨k, j, none⟩) h.lt).trans (h.fr j), h.ap, h.bk, Nat.lt_of_lt_of_le h.lt hb.size⟩
/-- The wheel has turned, the book as it was. -/
theorem BI.turn {B k a a' last : Nat} {w w' : World} {D D' : WD} (h : BI B w k D a last) (h1 : WI B w' D' a') (hq : D'.q = D.q) (ho : Only D.fp w w') (hf : ∀ g, D'.fp g → D.fp g ∨ w.heap.size ≤ g) : BI B w' k D' a' last :=
  ⟨h1, by rw [hq]; exact (ho.cell (p := ⟨k, 0, none⟩) h.lt h.ap).trans h.c0, (ho.cell (p := ⟨k, 1, none⟩) h.lt h.ap).trans h.c1, fun j => (ho.frozen (p := ⟨k, j, none⟩) h.lt h.ap).trans (h.fr j), fun hk => by
    rcases hf k hk with h2 | h2
    · exact h.ap h2
    · have := h.lt; omega, h.bk, Nat.lt_of_lt_of_le h.lt ho.size⟩
set_option maxRecDepth 100000 in
theorem drings {B k a last : Nat} {w : World} {D : WD} (h : BI B w k D a last) : Calls Tryd.prog 95 #[.pointer (some ⟨k, 0, none⟩)] w fun e w' => e = .returned (.pointer (some ⟨D.q, 0, none⟩)) ∧ w' = w := by
  have c0 := h.c0
  clear h
  go_enter Tryd.func95, Tryd.ntmps95
  go_wp2_with fail
  go_ret
  exact ⟨rfl, rfl⟩
set_option maxRecDepth 100000 in
theorem dcreated {B k a last : Nat} {w : World} {D : WD} (h : BI B w k D a last) : Calls Tryd.prog 94 #[.pointer (some ⟨k, 0, none⟩)] w fun e w' => e = .returned (.bool true) ∧ w' = w := by
  have hr := drings h
  clear h
  go_enter Tryd.func94, Tryd.ntmps94
  go_wp2_with (go_at_call 95; (with_reducible refine hr.mono ?_); rintro e w1 ⟨rfl, rfl⟩)
  go_ret
  exact ⟨rfl, rfl⟩
set_option maxRecDepth 100000 in
theorem dinstant (t : Int) (w : World) (ht : -9223372036854775808 ≤ t ∧ t ≤ 9223372036854775807) : Calls Tryd.prog 96 #[.int .i64 t] w fun e w' => e = .returned (.bool (InsB t)) ∧ w' = w := by
  have ha := add_zero_any t w ht
  cases hib : InsB t
  all_goals
    rw [hib] at ha
    go_enter Tryd.func96, Tryd.ntmps96
    go_wp2_with (go_at_call 116; (with_reducible refine ha.mono ?_); rintro e w1 ⟨⟨x, rfl⟩, rfl⟩)
    go_ret
    exact ⟨rfl, rfl⟩
set_option maxRecDepth 100000 in
set_option maxHeartbeats 4000000 in
/-- Get of a book: whatever the wheel's tells. -/
theorem dget {B k a last : Nat} {w : World} {D : WD} (h : BI B w k D a last) (x p0 p1 p2 : Int) (b : Bool) (hg : ∀ W, Below w.heap.size w W → Calls Tryd.prog 41 #[.pointer (some ⟨D.q, 0, none⟩), .int .u64 x] W fun e w' => e = .returned (.tuple #[.agg #[.int .u64 p0, .int .u64 p1, .int .i64 p2], .bool b]) ∧ Below W.heap.size W w') : Calls Tryd.prog 65 #[.pointer (some ⟨k, 0, none⟩), .int .u64 x] w fun e w' => e = .returned (.tuple #[.agg #[.int .u64 p0, .int .u64 p1, .int .i64 p2], .bool b]) ∧ Below w.heap.size w w' := by
  have hbA : Below w.heap.size w (w.alloc (.cells #[.int .u64 0, .int .u64 0, .int .i64 0] 27)) := (Below.refl _ _).alloc (Nat.le_refl _) _
  have hr := drings (h.below hbA)
  have hg1 := hg _ hbA
  have hqA := zero_three w
  have hzA : ∀ o, (w.alloc (.cells #[.int .u64 0, .int .u64 0, .int .i64 0] 27)).frozen? ⟨w.heap.size, o, none⟩ = false := fun o => by simp
  have hsA : w.heap.size < (w.alloc (.cells #[.int .u64 0, .int .u64 0, .int .i64 0] 27)).heap.size := by simp
  obtain ⟨T, hT⟩ : ∃ T, w.heap.size = T := ⟨_, rfl⟩
  have HTB : Hid (w.heap.size ≤ T) := Lib.hid (by omega)
  clear h hg
  go_enter Tryd.func65, Tryd.ntmps65
  go_wp2_with fail
  rw [hT] at hqA hzA hsA
  generalize w.alloc (.cells #[.int .u64 0, .int .u64 0, .int .i64 0] 27) = W1 at hbA hr hg1 hqA hzA hsA ⊢
  have HBA := Lib.hid hbA
  have HQ := Lib.hid (And.intro hqA hzA)
  clear hbA hqA hzA
  go_wp2_with (first
    | (go_at_call 95; (with_reducible refine hr.mono ?_); rintro e w1 ⟨rfl, rfl⟩)
    | (go_at_call 41; (with_reducible refine hg1.mono ?_); rintro e w2 ⟨rfl, hb2⟩; have q0 := (hb2.cell (p := ⟨T, 0, none⟩) hsA).trans HQ.out.1.1; have q1 := (hb2.cell (p := ⟨T, 1, none⟩) hsA).trans HQ.out.1.2.1; have q2 := (hb2.cell (p := ⟨T, 2, none⟩) hsA).trans HQ.out.1.2.2; have z0 := (hb2.frozen (p := ⟨T, 0, none⟩) hsA).trans (HQ.out.2 0); have z1 := (hb2.frozen (p := ⟨T, 1, none⟩) hsA).trans (HQ.out.2 1); have z2 := (hb2.frozen (p := ⟨T, 2, none⟩) hsA).trans (HQ.out.2 2); have HB2 := Lib.hid (HBA.out.trans (hb2.mono HBA.out.size)); clear hb2 hg1))
  obtain ⟨k0, k1, k2⟩ := three_read (u := .int .u64 p0) (v := .int .u64 p1) (z := .int .i64 p2) q0 q1 q2
  have h3 := below_three (a := w) (w := w2) HB2.out HTB.out (.int .u64 p0) (.int .u64 p1) (.int .i64 p2)
  generalize ((w2.setCell ⟨T, 0, none⟩ (.int .u64 p0)).setCell ⟨T, 1, none⟩ (.int .u64 p1)).setCell ⟨T, 2, none⟩ (.int .i64 p2) = W3 at k0 k1 k2 h3 ⊢
  refine bodyPost_ret (v := .tuple #[.agg #[.int .u64 p0, .int .u64 p1, .int .i64 p2], .bool b]) (by simp [results, Tryd.results65, go_sem, k0, k1, k2]) rfl ⟨rfl, h3⟩
set_option maxRecDepth 100000 in
set_option maxHeartbeats 4000000 in
theorem dadv {B k a u last : Nat} {w : World} {D : WD} (h : BI B w k D a last) (hT : Tab w) (hB0 : 0 < B) (hB : B ≤ w.heap.size) (hau : a ≤ u) (hu : u ≤ 1125899906842624) : Calls Tryd.prog 52 #[.pointer (some ⟨k, 0, none⟩), .int .i64 u] w fun e w' => ∃ v D' L, e = .returned (.tuple #[v, .int .i64 0]) ∧ Advd B w w' D D' u v L ∧ BI B w' k D' u last := by
  have hr := drings h
  have ha := Lib.hid (wadv h.wi hT hB0 hB hau hu)
  have H := Lib.hid h
  clear h
  go_enter Tryd.func52, Tryd.ntmps52
  go_wp2_with (go_at_call 95; (with_reducible refine hr.mono ?_); rintro e w1 ⟨rfl, rfl⟩)
  refine ha.out.mono ?_
  rintro e w2 ⟨v, D', L, rfl, hA⟩
  have HA := Lib.hid hA
  clear hA ha hr
  go_wp2_with fail
  refine bodyPost_ret (results_tmp2 rfl _ _ _) rfl ?_
  exact ⟨v, D', L, rfl, HA.out, H.out.turn HA.out.wi HA.out.q HA.out.only HA.out.fps⟩
set_option maxRecDepth 100000 in
set_option maxHeartbeats 4000000 in
theorem dnew (now : Nat) (w : World) (ht : now ≤ 1125899906842624) : Calls Tryd.prog 50 #[.int .i64 now] w fun e w' => ∃ k D, e = .returned (.pointer (some ⟨k, 0, none⟩)) ∧ BI w.heap.size w' k D now 0 ∧ D.things = [] ∧ Below w.heap.size w w' := by
  have hn := wnew (now : Int) w (by omega)
  go_enter Tryd.func50, Tryd.ntmps50
  go_wp2_with fail
  refine hn.mono ?_
  rintro e w1 ⟨q, R, rfl, hW, hS, hb, hbs⟩
  have hbx : Below w1.heap.size w1 (w1.alloc (.cells #[.pointer (some ⟨q, 0, none⟩), .int .u64 0] 128)) := (Below.refl _ _).alloc (Nat.le_refl _) _
  have HF : Hid (∃ D, BI w.heap.size (w1.alloc (.cells #[.pointer (some ⟨q, 0, none⟩), .int .u64 0] 128)) w1.heap.size D now 0 ∧ D.things = [] ∧ Below w.heap.size w (w1.alloc (.cells #[.pointer (some ⟨q, 0, none⟩), .int .u64 0] 128))) := Lib.hid (by
    obtain ⟨h1, h2⟩ := WI.start hW hS ht hbs
    exact ⟨_, ⟨h1.below hbx, by simp, by simp, fun j => by simp, fun hf => by have := h1.wl.lt hf; omega, hb.size, by simp⟩, h2, hb.trans (hbx.mono hb.size)⟩)
  clear hn hW hS hb hbs hbx
  go_wp2_with fail
  go_ret
  obtain ⟨D, f1, f2, f3⟩ := HF.out
  exact ⟨_, D, rfl, f1, f2, f3⟩
/- A book's Set. -/
open Go.RowKit
/-- What waits besides the ID. -/
def els (L : List Th) (x : Int) : List Th := L.filter (fun u => !(u.1 == x))
theorem els_mem {L : List Th} {x : Int} {t : Th} : t ∈ els L x ↔ t ∈ L ∧ t.1 ≠ x := by unfold els; simp [List.mem_filter]
theorem els_none {L : List Th} {x : Int} (h : ∀ t ∈ L, t.1 ≠ x) : els L x = L := by
  unfold els
  refine List.filter_eq_self.2 fun t ht => ?_
  have := h t ht
  simp [this]
theorem els_some {L L' : List Th} {t : Th} (hp : (t :: L').Perm L) (hnd : (L.map (fun t : Th => t.1)).Nodup) : L'.Perm (els L t.1) := by
  have h1 := nd_perm hp hnd
  have h2 := (List.nodup_cons.1 h1).1
  have h3 : els (t :: L') t.1 = L' := by
    unfold els
    rw [List.filter_cons]
    simp only [beq_self_eq_true, Bool.not_true, Bool.false_eq_true, if_false]
    refine List.filter_eq_self.2 fun u hu => ?_
    have : u.1 ≠ t.1 := fun e => h2 (List.mem_map.2 ⟨u, hu, e⟩)
    simp [this]
  have h4 : (els (t :: L') t.1).Perm (els L t.1) := hp.filter _
  rw [h3] at h4
  exact h4
/-- Cancel, whatever waits. -/
theorem wcancelG {B a : Nat} {D : WD} {w : World} (h : WI B w D a) (hB : B ≤ w.heap.size) (x : Int) (hx : IdOk x) : Calls Tryd.prog 40 #[.pointer (some ⟨D.q, 0, none⟩), .int .u64 x] w fun e w' => (∃ v ok, e = .returned (.tuple #[v, .bool ok])) ∧ ∃ D', WI B w' D' a ∧ D'.q = D.q ∧ D'.things.Perm (els D.things x) ∧ Only D.fp w w' ∧ ∀ g, D'.fp g → D.fp g ∨ w.heap.size ≤ g := by
  by_cases hh : ∃ t ∈ D.things, t.1 = x
  · obtain ⟨t, ht, rfl⟩ := hh
    refine (wcancel h hB ht).mono ?_
    rintro e w' ⟨he, D', h1, h2, h3, h4, h5⟩
    exact ⟨⟨_, _, he⟩, D', h1, h2, els_some h3 h.nd, h4, h5⟩
  · have hn : ∀ t ∈ D.things, t.1 ≠ x := fun t ht e => hh ⟨t, ht, e⟩
    refine (wcancel_not h hx hn).mono ?_
    rintro e w' ⟨he, hb⟩
    exact ⟨⟨_, _, he⟩, D, h.below hb, rfl, by rw [els_none hn], Only.below hb, fun g hg => .inl hg⟩
/-- The number is raised. -/
theorem BI.raise {B k a last : Nat} {w : World} {D : WD} (h : BI B w k D a last) (m : Nat) : BI B (w.setCell ⟨k, 1, none⟩ (.int .u64 m)) k D a m := by
  have ho : Only (fun g => g = k) w (w.setCell ⟨k, 1, none⟩ (.int .u64 m)) := Only.setCell (Only.refl (fun g => g = k) w) ⟨k, 1, none⟩ _ (show k = k from rfl)
  refine ⟨h.wi.only ho (fun g hg e => h.ap (e ▸ hg)), ?_, World.cell?_setCell_same _ _ _ h.c1, fun j => by simpa using h.fr j, h.ap, h.bk, by simpa using h.lt⟩
  exact (World.cell?_setCell_other _ ⟨k, 1, none⟩ ⟨k, 0, none⟩ _ (fun e => by injection e with e1 e2; omega)).trans h.c0
/-- What Set leaves. -/
def DSet (B k a : Nat) (D : WD) (last : Nat) (x due : Int) (w w' : World) : Prop := ∃ D', BI B w' k D' a (last + 1) ∧ D'.q = D.q ∧ D'.things.Perm (els D.things x ++ [(x, ((last + 1 : Nat) : Int), due)]) ∧ Only (BF k D) w w' ∧ ∀ g, D'.fp g → D.fp g ∨ w.heap.size ≤ g
/-- From the cancelling on. -/
theorem dset_fin {B k a last : Nat} {D D1 : WD} {w w1 w2 w3 : World} {x due : Int} (h : BI B w k D a last) (hw : Below w.heap.size w w1) (h1 : WI B w2 D1 a) (hq : D1.q = D.q) (hp : D1.things.Perm (els D.things x)) (ho : Only D.fp w1 w2) (hf : ∀ g, D1.fp g → D.fp g ∨ w1.heap.size ≤ g) :
    BI B (w2.setCell ⟨k, 1, none⟩ (.int .u64 ((last + 1 : Nat) : Int))) k D1 a (last + 1) ∧ (∀ D2, BI B w3 k D2 a (last + 1) → D2.q = D1.q → D2.things.Perm (D1.things ++ [(x, ((last + 1 : Nat) : Int), due)]) → Only D1.fp (w2.setCell ⟨k, 1, none⟩ (.int .u64 ((last + 1 : Nat) : Int))) w3 → (∀ g, D2.fp g → D1.fp g ∨ (w2.setCell ⟨k, 1, none⟩ (.int .u64 ((last + 1 : Nat) : Int))).heap.size ≤ g) → DSet B k a D last x due w w3) := by
  have hb1 := (h.below hw).turn h1 hq ho (fun g hg => (hf g hg).imp_right id)
  refine ⟨hb1.raise (last + 1), fun D2 g1 g2 g3 g4 g5 => ⟨D2, g1, g2.trans hq, g3.trans (List.Perm.append_right _ hp), ?_, ?_⟩⟩
  · have k1 : Only (BF k D) w w2 := (Only.below hw).trans (ho.imp fun g hg => .inl hg)
    have k2 : Only (BF k D) w (w2.setCell ⟨k, 1, none⟩ (.int .u64 ((last + 1 : Nat) : Int))) := k1.setCell ⟨k, 1, none⟩ _ (.inr rfl)
    refine ⟨g4.os.trans k2.os, g4.tape.trans k2.tape, g4.output.trans k2.output, Nat.le_trans k2.size g4.size, fun j hj hx => ?_⟩
    refine (g4.block j (Nat.lt_of_lt_of_le hj k2.size) fun hd => ?_).trans (k2.block j hj hx)
    rcases hf j hd with e | e
    · exact hx (.inl e)
    · have := hw.size; omega
  · intro g hg
    rcases g5 g hg with e | e
    · rcases hf g e with e2 | e2
      · exact .inl e2
      · have := hw.size; exact .inr (by omega)
    · have h4 := hw.size
      have h5 := ho.size
      have h6 : (w2.setCell ⟨k, 1, none⟩ (.int .u64 ((last + 1 : Nat) : Int))).heap.size = w2.heap.size := by simp
      exact .inr (by omega)
set_option maxRecDepth 100000 in
set_option maxHeartbeats 8000000 in
theorem dset_there {B k a last : Nat} {w : World} {D : WD} (h : BI B w k D a last) (hB : B ≤ w.heap.size) (x due : Int) (hx : IdOk x) (hd : InsB due = true) (hla : last < 1152921504606846976) (t : Th) (ht : t ∈ D.things) (hid : t.1 = x) : Calls Tryd.prog 53 #[.pointer (some ⟨k, 0, none⟩), .int .u64 x, .int .i64 due] w fun e w' => e = .returned (.tuple #[.int .u64 ((last + 1 : Nat) : Int), .int .i64 0]) ∧ DSet B k a D last x due w w' := by
  have mixed := insTh.mixed
  have hdr : 0 ≤ due ∧ due ≤ 1125899906842624 := by unfold InsB at hd; exact of_decide_eq_true hd
  have hg := dget h x x t.2.1 t.2.2 true (fun W hW => by have := wget (h.wi.below hW) ht; rw [hid] at this; exact this)
  have HC := Lib.hid (fun W (hW : Below w.heap.size w W) => dcreated (h.below hW))
  have HI := Lib.hid (fun W => dinstant due W (by omega))
  rw [hd] at HI
  have HCN := Lib.hid (fun W (hW : Below w.heap.size w W) => wcancelG (h.wi.below hW) (Nat.le_trans hB hW.size) x hx)
  have HBI := Lib.hid (fun W (hW : Below w.heap.size w W) => h.below hW)
  have H := Lib.hid h
  have HB := Lib.hid hB
  have HX := Lib.hid hx
  have HDU := Lib.hid hd
  have HDR := Lib.hid hdr
  have hlaz : ¬ (1152921504606846976 : Int) ≤ (last : Int) := by omega
  have hlw : IntKind.u64.wrap ((last : Int) + 1) = ((last + 1 : Nat) : Int) := by rw [IntWalk.u64_in _ ⟨by omega, by omega⟩]; omega
  have HLA := Lib.hid hla
  have HFEW : Hid (∀ L : List Th, L.Perm (els D.things x) → L.length < 256) := Lib.hid (fun L hL => by
    have h1 := h.wi.few
    have h2 : (els D.things x).length < D.things.length := by
      unfold els
      exact List.length_filter_lt_length_iff_exists.2 ⟨t, ht, by simp [hid]⟩
    rw [hL.length_eq]; omega)
  clear hdr hd hB hx hla
  go_enter Tryd.func53, Tryd.ntmps53
  go_wp2_with fail
  refine hg.mono ?_
  rintro e w1 ⟨rfl, hb1⟩
  have hbx : Below w.heap.size w (w1.alloc (.cells #[.int .u64 x, .int .u64 t.2.1, .int .i64 t.2.2] 27)) := hb1.alloc hb1.size _
  have HB2 := Lib.hid hbx
  have hcr := HC.out _ hbx
  have hin := HI.out (w1.alloc (.cells #[.int .u64 x, .int .u64 t.2.1, .int .i64 t.2.2] 27))
  have c0 := (HBI.out _ hbx).c0
  have c1 := (HBI.out _ hbx).c1
  clear hb1 hbx hg h ht
  go_wp2_with fail
  generalize w1.alloc (.cells #[.int .u64 x, .int .u64 t.2.1, .int .i64 t.2.2] 27) = w2 at HB2 hcr hin c0 c1 ⊢
  refine hcr.mono ?_
  rintro e w3 ⟨rfl, rfl⟩
  clear hcr
  go_wp2_with fail
  refine hin.mono ?_
  rintro e w3 ⟨rfl, rfl⟩
  clear hin
  obtain ⟨ls, hls⟩ : ∃ ls : Int, (last : Int) = ls := ⟨_, rfl⟩
  obtain ⟨l2, hl2⟩ : ∃ l2 : Int, ((last + 1 : Nat) : Int) = l2 := ⟨_, rfl⟩
  rw [hls] at c1 hlaz hlw
  rw [hl2] at hlw
  have HLS := Lib.hid hls
  have HL2 := Lib.hid hl2
  clear hls hl2
  go_wp2_with fail
  refine (HCN.out _ HB2.out).mono ?_
  rintro e w5 ⟨⟨v, okc, rfl⟩, D1, h1, hq, hp, ho, hf⟩
  have hb5 := (HBI.out _ HB2.out).turn h1 hq ho hf
  have c0c := hb5.c0
  have c1c := hb5.c1
  have f1c := hb5.fr 1
  have hb6 := hb5.raise (last + 1)
  have hfin := fun w7 => dset_fin (w3 := w7) (due := due) H.out HB2.out h1 hq hp ho hf
  rw [hq] at c0c
  rw [HLS.out] at c1c
  rw [HL2.out] at hb6 hfin
  have H6 := Lib.hid hb6
  have HFIN := Lib.hid (And.intro hq (And.intro hp (fun w7 => (hfin w7).2)))
  clear hb5 hb6 hfin h1 hq hp ho hf c0 c1
  go_wp2_with fail
  generalize w5.setCell ⟨k, 1, none⟩ (.int .u64 l2) = w6 at H6 HFIN ⊢
  have H7 := Lib.hid (H6.out.below (Below.refl w6.heap.size w6).drew)
  have h0 : w6.drew.cell? ⟨k, 0, none⟩ = some (.pointer (some ⟨D.q, 0, none⟩)) ∧ w6.drew.cell? ⟨k, 1, none⟩ = some (.int .u64 l2) := ⟨by have := H7.out.c0; rw [HFIN.out.1] at this; exact this, by have := H7.out.c1; rw [HL2.out] at this; exact this⟩
  have hE : armE D1.things (x, l2, due) = 0 := armE_ok HDU.out (fun u hu => (els_mem.1 (HFIN.out.2.1.mem_iff.1 hu)).2) (HFEW.out _ HFIN.out.2.1)
  have harm := warm H7.out.wi (by have := H7.out.bk; have := H7.out.lt; omega) (x, l2, due) HX.out (by have := HDR.out; show -9223372036854775808 ≤ due ∧ due ≤ 9223372036854775807; omega)
  rw [hE, HFIN.out.1] at harm
  have HARM := Lib.hid harm
  clear hE harm c0c c1c f1c
  refine wp_region_held_drew (S := fun w' => w'.cell? ⟨k, 0, none⟩ = some (.pointer (some ⟨D.q, 0, none⟩)) ∧ w'.cell? ⟨k, 1, none⟩ = some (.int .u64 l2)) (by kernel_rfl) h0 (fun hHeld => ?_)
  refine wpAnyH_take (i := 0) (v := ?_) rfl (by kernel_rfl) (by kernel_rfl) (by kernel_rfl) (fun _ _ _ h => h) (Or.inl ⟨by rfl, ?_⟩) (by assumption) ?_
  case refine_2 => (intro w1 hS1; (try dsimp only at hS1); go_simp; try with_reducible rfl)
  try simp only [List.getElem_toArray, List.getElem_cons_zero, List.getElem_cons_succ, Act.put, List.setIfInBounds_toArray, List.set_cons_zero, List.set_cons_succ]
  refine wpAnyH_take (i := 1) (v := ?_) rfl (by kernel_rfl) (by kernel_rfl) (by kernel_rfl) (fun _ _ _ h => h) (Or.inl ⟨by rfl, ?_⟩) (by assumption) ?_
  case refine_2 => (intro w1 hS1; (try dsimp only at hS1); go_simp; try with_reducible rfl)
  try simp only [List.getElem_toArray, List.getElem_cons_zero, List.getElem_cons_succ, Act.put, List.setIfInBounds_toArray, List.set_cons_zero, List.set_cons_succ]
  refine wpAnyH_take (i := 2) (v := ?_) rfl (by kernel_rfl) (by kernel_rfl) (by kernel_rfl) (fun _ _ _ h => h) (Or.inl ⟨by rfl, ?_⟩) (by assumption) ?_
  case refine_2 => (intro w1 hS1; (try dsimp only at hS1); go_simp; try with_reducible rfl)
  try simp only [List.getElem_toArray, List.getElem_cons_zero, List.getElem_cons_succ, Act.put, List.setIfInBounds_toArray, List.set_cons_zero, List.set_cons_succ]
  refine wpAnyH_take (i := 3) (v := ?_) rfl (by kernel_rfl) (by kernel_rfl) (by kernel_rfl) (fun _ _ _ h => h) (Or.inl ⟨by rfl, ?_⟩) (by assumption) ?_
  case refine_2 => (intro w1 hS1; (try dsimp only at hS1); go_simp; try with_reducible rfl)
  try simp only [List.getElem_toArray, List.getElem_cons_zero, List.getElem_cons_succ, Act.put, List.setIfInBounds_toArray, List.set_cons_zero, List.set_cons_succ]
  refine wpAnyH_take (i := 4) (v := ?_) rfl (by kernel_rfl) (by kernel_rfl) (by kernel_rfl) (fun _ _ _ h => h) (Or.inl ⟨by rfl, ?_⟩) (by assumption) ?_
  case refine_2 => (intro w1 hS1; (try dsimp only at hS1); go_simp; try with_reducible rfl)
  try simp only [List.getElem_toArray, List.getElem_cons_zero, List.getElem_cons_succ, Act.put, List.setIfInBounds_toArray, List.set_cons_zero, List.set_cons_succ]
  refine wpAnyH_take (i := 5) (v := ?_) rfl (by kernel_rfl) (by kernel_rfl) (by kernel_rfl) (fun _ _ _ h => h) (Or.inl ⟨by rfl, ?_⟩) (by assumption) ?_
  case refine_2 => (intro w1 hS1; (try dsimp only at hS1); go_simp; try with_reducible rfl)
  try simp only [List.getElem_toArray, List.getElem_cons_zero, List.getElem_cons_succ, Act.put, List.setIfInBounds_toArray, List.set_cons_zero, List.set_cons_succ]
  refine wpAnyH_take (i := 6) (v := ?_) rfl (by kernel_rfl) (by kernel_rfl) (by kernel_rfl) (fun _ _ _ h => h) (Or.inl ⟨by rfl, ?_⟩) (by assumption) ?_
  case refine_2 => (intro w1 hS1; (try dsimp only at hS1); go_simp; try with_reducible rfl)
  try simp only [List.getElem_toArray, List.getElem_cons_zero, List.getElem_cons_succ, Act.put, List.setIfInBounds_toArray, List.set_cons_zero, List.set_cons_succ]
  refine wpAnyH_take (i := 7) (v := ?_) rfl (by kernel_rfl) (by kernel_rfl) (by kernel_rfl) (fun _ _ _ h => h) (Or.inl ⟨by rfl, ?_⟩) (by assumption) ?_
  case refine_2 => (intro w1 hS1; (try dsimp only at hS1); go_simp; try with_reducible rfl)
  try simp only [List.getElem_toArray, List.getElem_cons_zero, List.getElem_cons_succ, Act.put, List.setIfInBounds_toArray, List.set_cons_zero, List.set_cons_succ]
  refine wpAnyH_take (i := 8) (v := ?_) rfl (by kernel_rfl) (by kernel_rfl) (by kernel_rfl) (fun _ _ _ h => h) (Or.inl ⟨by rfl, ?_⟩) (by assumption) ?_
  case refine_2 => (intro w1 hS1; (try dsimp only at hS1); go_simp; try with_reducible rfl)
  try simp only [List.getElem_toArray, List.getElem_cons_zero, List.getElem_cons_succ, Act.put, List.setIfInBounds_toArray, List.set_cons_zero, List.set_cons_succ]
  refine wpAnyH_take (i := 9) (v := ?_) rfl (by kernel_rfl) (by kernel_rfl) (by kernel_rfl) (fun _ _ _ h => h) (Or.inl ⟨by rfl, ?_⟩) (by assumption) ?_
  case refine_2 => (intro w1 hS1; (try dsimp only at hS1); go_simp; try with_reducible rfl)
  try simp only [List.getElem_toArray, List.getElem_cons_zero, List.getElem_cons_succ, Act.put, List.setIfInBounds_toArray, List.set_cons_zero, List.set_cons_succ]
  refine wpAnyH_take (i := 10) (v := ?_) rfl (by kernel_rfl) (by kernel_rfl) (by kernel_rfl) (fun _ _ _ h => h) (Or.inl ⟨by rfl, ?_⟩) (by assumption) ?_
  case refine_2 => (intro w1 hS1; (try dsimp only at hS1); go_simp; try with_reducible rfl)
  try simp only [List.getElem_toArray, List.getElem_cons_zero, List.getElem_cons_succ, Act.put, List.setIfInBounds_toArray, List.set_cons_zero, List.set_cons_succ]
  refine wpAnyH_ready (rs := [11]) (by kernel_rfl) (by simp) ?_
  refine AllReadyH.cons rfl (fun K hK => ?_) AllReadyH.nil
  go_simp
  refine HARM.out.mono ?_
  rintro e w7 ⟨rfl, D2, g1, g2, g3, g4, g5⟩
  rw [if_pos rfl] at g3
  have hb7 := H7.out.turn g1 (by rw [g2, HFIN.out.1]) g4 g5
  have e0 : w7.cell? ⟨k, 0, none⟩ = some (.pointer (some ⟨D.q, 0, none⟩)) := by have := hb7.c0; rw [g2] at this; exact this
  have e1 : w7.cell? ⟨k, 1, none⟩ = some (.int .u64 l2) := by have := hb7.c1; rw [HL2.out] at this; exact this
  have HF := Lib.hid (HFIN.out.2.2 w7 D2 hb7 (by rw [g2, HFIN.out.1]) g3 ((Only.below (Below.refl w6.heap.size w6).drew).trans g4) g5)
  clear g1 g2 g3 g4 g5 hb7
  refine hK.out _ _ ⟨e0, e1⟩ (fun hHeld => ?_)
  clear hK K
  try simp only [List.getElem_toArray, List.getElem_cons_zero, List.getElem_cons_succ, Act.put, List.setIfInBounds_toArray, List.set_cons_zero, List.set_cons_succ]
  refine wpAnyH_done (by kernel_rfl) ?_ _
  go_wp2_with fail
  refine bodyPost_ret (results_tmp2 rfl _ _ _) rfl ?_
  refine ⟨?_, HF.out⟩
  show Ending.returned (.tuple #[.int .u64 l2, .int .i64 0]) = Ending.returned (.tuple #[.int .u64 ((last + 1 : Nat) : Int), .int .i64 0])
  rw [HL2.out]
set_option maxRecDepth 100000 in
set_option maxHeartbeats 8000000 in
theorem dset_new {B k a last : Nat} {w : World} {D : WD} (h : BI B w k D a last) (hB : B ≤ w.heap.size) (x due : Int) (hx : IdOk x) (hd : InsB due = true) (hla : last < 1152921504606846976) (hn : ∀ t ∈ D.things, t.1 ≠ x) (hl : D.things.length < 256) : Calls Tryd.prog 53 #[.pointer (some ⟨k, 0, none⟩), .int .u64 x, .int .i64 due] w fun e w' => e = .returned (.tuple #[.int .u64 ((last + 1 : Nat) : Int), .int .i64 0]) ∧ DSet B k a D last x due w w' := by
  have mixed := insTh.mixed
  have hdr : 0 ≤ due ∧ due ≤ 1125899906842624 := by unfold InsB at hd; exact of_decide_eq_true hd
  have hg := dget h x 0 0 0 false (fun W hW => wget_not (h.wi.below hW) hx hn)
  have HC := Lib.hid (fun W (hW : Below w.heap.size w W) => dcreated (h.below hW))
  have HI := Lib.hid (fun W => dinstant due W (by omega))
  rw [hd] at HI
  have HCN := Lib.hid (fun W (hW : Below w.heap.size w W) => wcancelG (h.wi.below hW) (Nat.le_trans hB hW.size) x hx)
  have HBI := Lib.hid (fun W (hW : Below w.heap.size w W) => h.below hW)
  have HLN := Lib.hid (fun W (hW : Below w.heap.size w W) => wlen D W (h.wi.below hW).wl)
  have hlz : ¬ (256 : Int) ≤ (D.all : Int) := by rw [D.all_things]; omega
  have H := Lib.hid h
  have HB := Lib.hid hB
  have HX := Lib.hid hx
  have HDU := Lib.hid hd
  have HDR := Lib.hid hdr
  have hlaz : ¬ (1152921504606846976 : Int) ≤ (last : Int) := by omega
  have hlw : IntKind.u64.wrap ((last : Int) + 1) = ((last + 1 : Nat) : Int) := by rw [IntWalk.u64_in _ ⟨by omega, by omega⟩]; omega
  have HLA := Lib.hid hla
  have HFEW : Hid (∀ L : List Th, L.Perm (els D.things x) → L.length < 256) := Lib.hid (fun L hL => by rw [hL.length_eq, els_none hn]; exact hl)
  clear hdr hd hB hx hla
  go_enter Tryd.func53, Tryd.ntmps53
  go_wp2_with fail
  refine hg.mono ?_
  rintro e w1 ⟨rfl, hb1⟩
  have hbx : Below w.heap.size w (w1.alloc (.cells #[.int .u64 0, .int .u64 0, .int .i64 0] 27)) := hb1.alloc hb1.size _
  have HB2 := Lib.hid hbx
  have hcr := HC.out _ hbx
  have hin := HI.out (w1.alloc (.cells #[.int .u64 0, .int .u64 0, .int .i64 0] 27))
  have c0 := (HBI.out _ hbx).c0
  have c1 := (HBI.out _ hbx).c1
  clear hb1 hbx hg h hn
  go_wp2_with fail
  generalize w1.alloc (.cells #[.int .u64 0, .int .u64 0, .int .i64 0] 27) = w2 at HB2 hcr hin c0 c1 ⊢
  refine hcr.mono ?_
  rintro e w3 ⟨rfl, rfl⟩
  clear hcr
  go_wp2_with fail
  refine hin.mono ?_
  rintro e w3 ⟨rfl, rfl⟩
  clear hin hl
  obtain ⟨ls, hls⟩ : ∃ ls : Int, (last : Int) = ls := ⟨_, rfl⟩
  obtain ⟨l2, hl2⟩ : ∃ l2 : Int, ((last + 1 : Nat) : Int) = l2 := ⟨_, rfl⟩
  rw [hls] at c1 hlaz hlw
  rw [hl2] at hlw
  have HLS := Lib.hid hls
  have HL2 := Lib.hid hl2
  clear hls hl2
  go_wp2_with fail
  refine (HLN.out _ HB2.out).mono ?_
  rintro e w4 ⟨rfl, hb4⟩
  have HB3 := Lib.hid (HB2.out.trans (hb4.mono HB2.out.size))
  have c0b := (HBI.out _ HB3.out).c0
  clear hb4 c0 c1
  go_wp2_with fail
  refine (HCN.out _ HB3.out).mono ?_
  rintro e w5 ⟨⟨v, okc, rfl⟩, D1, h1, hq, hp, ho, hf⟩
  have hb5 := (HBI.out _ HB3.out).turn h1 hq ho hf
  have c0c := hb5.c0
  have c1c := hb5.c1
  have f1c := hb5.fr 1
  have hb6 := hb5.raise (last + 1)
  have hfin := fun w7 => dset_fin (w3 := w7) (due := due) H.out HB3.out h1 hq hp ho hf
  rw [hq] at c0c
  rw [HLS.out] at c1c
  rw [HL2.out] at hb6 hfin
  have H6 := Lib.hid hb6
  have HFIN := Lib.hid (And.intro hq (And.intro hp (fun w7 => (hfin w7).2)))
  clear hb5 hb6 hfin h1 hq hp ho hf c0b
  go_wp2_with fail
  generalize w5.setCell ⟨k, 1, none⟩ (.int .u64 l2) = w6 at H6 HFIN ⊢
  have H7 := Lib.hid (H6.out.below (Below.refl w6.heap.size w6).drew)
  have h0 : w6.drew.cell? ⟨k, 0, none⟩ = some (.pointer (some ⟨D.q, 0, none⟩)) ∧ w6.drew.cell? ⟨k, 1, none⟩ = some (.int .u64 l2) := ⟨by have := H7.out.c0; rw [HFIN.out.1] at this; exact this, by have := H7.out.c1; rw [HL2.out] at this; exact this⟩
  have hE : armE D1.things (x, l2, due) = 0 := armE_ok HDU.out (fun u hu => (els_mem.1 (HFIN.out.2.1.mem_iff.1 hu)).2) (HFEW.out _ HFIN.out.2.1)
  have harm := warm H7.out.wi (by have := H7.out.bk; have := H7.out.lt; omega) (x, l2, due) HX.out (by have := HDR.out; show -9223372036854775808 ≤ due ∧ due ≤ 9223372036854775807; omega)
  rw [hE, HFIN.out.1] at harm
  have HARM := Lib.hid harm
  clear hE harm c0c c1c f1c
  refine wp_region_held_drew (S := fun w' => w'.cell? ⟨k, 0, none⟩ = some (.pointer (some ⟨D.q, 0, none⟩)) ∧ w'.cell? ⟨k, 1, none⟩ = some (.int .u64 l2)) (by kernel_rfl) h0 (fun hHeld => ?_)
  refine wpAnyH_take (i := 0) (v := ?_) rfl (by kernel_rfl) (by kernel_rfl) (by kernel_rfl) (fun _ _ _ h => h) (Or.inl ⟨by rfl, ?_⟩) (by assumption) ?_
  case refine_2 => (intro w1 hS1; (try dsimp only at hS1); go_simp; try with_reducible rfl)
  try simp only [List.getElem_toArray, List.getElem_cons_zero, List.getElem_cons_succ, Act.put, List.setIfInBounds_toArray, List.set_cons_zero, List.set_cons_succ]
  refine wpAnyH_take (i := 1) (v := ?_) rfl (by kernel_rfl) (by kernel_rfl) (by kernel_rfl) (fun _ _ _ h => h) (Or.inl ⟨by rfl, ?_⟩) (by assumption) ?_
  case refine_2 => (intro w1 hS1; (try dsimp only at hS1); go_simp; try with_reducible rfl)
  try simp only [List.getElem_toArray, List.getElem_cons_zero, List.getElem_cons_succ, Act.put, List.setIfInBounds_toArray, List.set_cons_zero, List.set_cons_succ]
  refine wpAnyH_take (i := 2) (v := ?_) rfl (by kernel_rfl) (by kernel_rfl) (by kernel_rfl) (fun _ _ _ h => h) (Or.inl ⟨by rfl, ?_⟩) (by assumption) ?_
  case refine_2 => (intro w1 hS1; (try dsimp only at hS1); go_simp; try with_reducible rfl)
  try simp only [List.getElem_toArray, List.getElem_cons_zero, List.getElem_cons_succ, Act.put, List.setIfInBounds_toArray, List.set_cons_zero, List.set_cons_succ]
  refine wpAnyH_take (i := 3) (v := ?_) rfl (by kernel_rfl) (by kernel_rfl) (by kernel_rfl) (fun _ _ _ h => h) (Or.inl ⟨by rfl, ?_⟩) (by assumption) ?_
  case refine_2 => (intro w1 hS1; (try dsimp only at hS1); go_simp; try with_reducible rfl)
  try simp only [List.getElem_toArray, List.getElem_cons_zero, List.getElem_cons_succ, Act.put, List.setIfInBounds_toArray, List.set_cons_zero, List.set_cons_succ]
  refine wpAnyH_take (i := 4) (v := ?_) rfl (by kernel_rfl) (by kernel_rfl) (by kernel_rfl) (fun _ _ _ h => h) (Or.inl ⟨by rfl, ?_⟩) (by assumption) ?_
  case refine_2 => (intro w1 hS1; (try dsimp only at hS1); go_simp; try with_reducible rfl)
  try simp only [List.getElem_toArray, List.getElem_cons_zero, List.getElem_cons_succ, Act.put, List.setIfInBounds_toArray, List.set_cons_zero, List.set_cons_succ]
  refine wpAnyH_take (i := 5) (v := ?_) rfl (by kernel_rfl) (by kernel_rfl) (by kernel_rfl) (fun _ _ _ h => h) (Or.inl ⟨by rfl, ?_⟩) (by assumption) ?_
  case refine_2 => (intro w1 hS1; (try dsimp only at hS1); go_simp; try with_reducible rfl)
  try simp only [List.getElem_toArray, List.getElem_cons_zero, List.getElem_cons_succ, Act.put, List.setIfInBounds_toArray, List.set_cons_zero, List.set_cons_succ]
  refine wpAnyH_take (i := 6) (v := ?_) rfl (by kernel_rfl) (by kernel_rfl) (by kernel_rfl) (fun _ _ _ h => h) (Or.inl ⟨by rfl, ?_⟩) (by assumption) ?_
  case refine_2 => (intro w1 hS1; (try dsimp only at hS1); go_simp; try with_reducible rfl)
  try simp only [List.getElem_toArray, List.getElem_cons_zero, List.getElem_cons_succ, Act.put, List.setIfInBounds_toArray, List.set_cons_zero, List.set_cons_succ]
  refine wpAnyH_take (i := 7) (v := ?_) rfl (by kernel_rfl) (by kernel_rfl) (by kernel_rfl) (fun _ _ _ h => h) (Or.inl ⟨by rfl, ?_⟩) (by assumption) ?_
  case refine_2 => (intro w1 hS1; (try dsimp only at hS1); go_simp; try with_reducible rfl)
  try simp only [List.getElem_toArray, List.getElem_cons_zero, List.getElem_cons_succ, Act.put, List.setIfInBounds_toArray, List.set_cons_zero, List.set_cons_succ]
  refine wpAnyH_take (i := 8) (v := ?_) rfl (by kernel_rfl) (by kernel_rfl) (by kernel_rfl) (fun _ _ _ h => h) (Or.inl ⟨by rfl, ?_⟩) (by assumption) ?_
  case refine_2 => (intro w1 hS1; (try dsimp only at hS1); go_simp; try with_reducible rfl)
  try simp only [List.getElem_toArray, List.getElem_cons_zero, List.getElem_cons_succ, Act.put, List.setIfInBounds_toArray, List.set_cons_zero, List.set_cons_succ]
  refine wpAnyH_take (i := 9) (v := ?_) rfl (by kernel_rfl) (by kernel_rfl) (by kernel_rfl) (fun _ _ _ h => h) (Or.inl ⟨by rfl, ?_⟩) (by assumption) ?_
  case refine_2 => (intro w1 hS1; (try dsimp only at hS1); go_simp; try with_reducible rfl)
  try simp only [List.getElem_toArray, List.getElem_cons_zero, List.getElem_cons_succ, Act.put, List.setIfInBounds_toArray, List.set_cons_zero, List.set_cons_succ]
  refine wpAnyH_take (i := 10) (v := ?_) rfl (by kernel_rfl) (by kernel_rfl) (by kernel_rfl) (fun _ _ _ h => h) (Or.inl ⟨by rfl, ?_⟩) (by assumption) ?_
  case refine_2 => (intro w1 hS1; (try dsimp only at hS1); go_simp; try with_reducible rfl)
  try simp only [List.getElem_toArray, List.getElem_cons_zero, List.getElem_cons_succ, Act.put, List.setIfInBounds_toArray, List.set_cons_zero, List.set_cons_succ]
  refine wpAnyH_ready (rs := [11]) (by kernel_rfl) (by simp) ?_
  refine AllReadyH.cons rfl (fun K hK => ?_) AllReadyH.nil
  go_simp
  refine HARM.out.mono ?_
  rintro e w7 ⟨rfl, D2, g1, g2, g3, g4, g5⟩
  rw [if_pos rfl] at g3
  have hb7 := H7.out.turn g1 (by rw [g2, HFIN.out.1]) g4 g5
  have e0 : w7.cell? ⟨k, 0, none⟩ = some (.pointer (some ⟨D.q, 0, none⟩)) := by have := hb7.c0; rw [g2] at this; exact this
  have e1 : w7.cell? ⟨k, 1, none⟩ = some (.int .u64 l2) := by have := hb7.c1; rw [HL2.out] at this; exact this
  have HF := Lib.hid (HFIN.out.2.2 w7 D2 hb7 (by rw [g2, HFIN.out.1]) g3 ((Only.below (Below.refl w6.heap.size w6).drew).trans g4) g5)
  clear g1 g2 g3 g4 g5 hb7
  refine hK.out _ _ ⟨e0, e1⟩ (fun hHeld => ?_)
  clear hK K
  try simp only [List.getElem_toArray, List.getElem_cons_zero, List.getElem_cons_succ, Act.put, List.setIfInBounds_toArray, List.set_cons_zero, List.set_cons_succ]
  refine wpAnyH_done (by kernel_rfl) ?_ _
  go_wp2_with fail
  refine bodyPost_ret (results_tmp2 rfl _ _ _) rfl ?_
  refine ⟨?_, HF.out⟩
  show Ending.returned (.tuple #[.int .u64 l2, .int .i64 0]) = Ending.returned (.tuple #[.int .u64 ((last + 1 : Nat) : Int), .int .i64 0])
  rw [HL2.out]
/- Books: the chapter's example. -/
open Go.RowKit
theorem dl_struct : Tryd.prog.underlying 27 = some (.struct (Tryd.prog.fieldsOf 27)) := by kernel_rfl
theorem dl_held : Tryd.prog.stoodInHeld 27 = false := by kernel_rfl
theorem dl_guard : Tryd.prog.eqGuardType Tryd.prog.depth 27 = false := by kernel_rfl
theorem dl_eql (x y z : Int) (w : World) : (binOp .eql 27 (.agg #[.int .u64 x, .int .u64 y, .int .i64 z]) (.agg #[.int .u64 x, .int .u64 y, .int .i64 z])).run Tryd.prog w = .ok (.bool true) w := by
  rw [run_eql_struct, run_equalIn_agg w 9999 _ _ _ dl_struct dl_held]
  have h : Tryd.prog.underlying 2 = some (.int .i64) := Tryd.underlying2
  have h2 : Tryd.prog.underlying 25 = some (.int .u64) := Tryd.underlying25
  simp [Op.eqFields, go_sem, h, h2, Tryd.underlying27]
theorem one_late {A L : List Th} {x : Th} {u : Int} (h : (A ++ L).Perm [x]) (hL : ∀ t ∈ L, t.2.2 ≤ u) (hx : u < x.2.2) : L = [] ∧ A = [x] := by
  have h1 := List.perm_singleton.1 h
  cases L with
  | nil => exact ⟨rfl, by simpa using h1⟩
  | cons t L =>
    have : t ∈ [x] := by rw [← h1]; simp
    have e := List.mem_singleton.1 this
    have := hL t (by simp)
    rw [e] at this
    omega
theorem one_due {A L : List Th} {x : Th} {u : Int} (h : (A ++ L).Perm [x]) (hA : ∀ t ∈ A, u < t.2.2) (hx : x.2.2 ≤ u) : L = [x] ∧ A = [] := by
  have h1 := List.perm_singleton.1 h
  cases A with
  | nil => exact ⟨by simpa using h1, rfl⟩
  | cons t A =>
    have : t ∈ [x] := by rw [← h1]; simp
    have e := List.mem_singleton.1 this
    have := hA t (by simp)
    rw [e] at this
    omega
/-- The example's book on the way. -/
def EB (B k a last : Nat) (L : List Th) (w0 w : World) : Prop := ∃ D, BI B w k D a last ∧ D.things = L ∧ Below B w0 w
theorem EB.set1 {B k : Nat} {w0 w : World} (h : EB B k 0 0 [] w0 w) (hB : B ≤ w0.heap.size) : Calls Tryd.prog 53 #[.pointer (some ⟨k, 0, none⟩), .int .u64 7, .int .i64 10] w fun e w' => e = .returned (.tuple #[.int .u64 1, .int .i64 0]) ∧ EB B k 0 1 [(7, 1, 10)] w0 w' := by
  obtain ⟨D, hb, hL, hbl⟩ := h
  have hBw : B ≤ w.heap.size := Nat.le_trans hB hbl.size
  refine (dset_new hb hBw 7 10 ⟨by decide, by decide⟩ (by decide) (by decide) (by rw [hL]; simp) (by rw [hL]; simp)).mono ?_
  rintro e w' ⟨he, D', h1, h2, h3, h4, h5⟩
  rw [hL] at h3
  have h6 : D'.things = [(7, 1, 10)] := List.perm_singleton.1 h3
  refine ⟨he, D', h1, h6, hbl.trans (h4.toBelow hBw (fun g hg => ?_))⟩
  rcases hg with hg | hg
  · exact hb.wi.base g hg
  · rw [hg]; exact hb.bk
theorem EB.set2 {B k : Nat} {w0 w : World} (h : EB B k 0 1 [(7, 1, 10)] w0 w) (hB : B ≤ w0.heap.size) : Calls Tryd.prog 53 #[.pointer (some ⟨k, 0, none⟩), .int .u64 7, .int .i64 20] w fun e w' => e = .returned (.tuple #[.int .u64 2, .int .i64 0]) ∧ EB B k 0 2 [(7, 2, 20)] w0 w' := by
  obtain ⟨D, hb, hL, hbl⟩ := h
  have hBw : B ≤ w.heap.size := Nat.le_trans hB hbl.size
  refine (dset_there hb hBw 7 20 ⟨by decide, by decide⟩ (by decide) (by decide) (7, 1, 10) (by rw [hL]; simp) rfl).mono ?_
  rintro e w' ⟨he, D', h1, h2, h3, h4, h5⟩
  rw [hL] at h3
  have h6 : D'.things = [(7, 2, 20)] := List.perm_singleton.1 h3
  refine ⟨he, D', h1, h6, hbl.trans (h4.toBelow hBw (fun g hg => ?_))⟩
  rcases hg with hg | hg
  · exact hb.wi.base g hg
  · rw [hg]; exact hb.bk
theorem EB.adv1 {B k : Nat} {w0 w : World} (h : EB B k 0 2 [(7, 2, 20)] w0 w) (hB0 : 0 < B) (hB : B ≤ w0.heap.size) (hT : Tab w) : Calls Tryd.prog 52 #[.pointer (some ⟨k, 0, none⟩), .int .i64 15] w fun e w' => ∃ p c, e = .returned (.tuple #[.slice p 0 c, .int .i64 0]) ∧ EB B k 15 2 [(7, 2, 20)] w0 w' := by
  obtain ⟨D, hb, hL, hbl⟩ := h
  have hBw : B ≤ w.heap.size := Nat.le_trans hB hbl.size
  refine (dadv (u := 15) hb hT hB0 hBw (by decide) (by decide)).mono ?_
  rintro e w' ⟨v, D', L, he, hA, h1⟩
  have hp := hA.perm
  rw [hL] at hp
  obtain ⟨e1, e2⟩ := one_late hp hA.due (by decide)
  have hr := hA.row
  rw [e1] at hr
  obtain ⟨p, c, hv, -⟩ := hr.reads
  rw [hv] at he
  exact ⟨p, c, he, D', h1, e2, hbl.trans (hA.only.toBelow hBw (fun g hg => hb.wi.base g hg))⟩
theorem EB.adv2 {B k : Nat} {w0 w : World} (h : EB B k 15 2 [(7, 2, 20)] w0 w) (hB0 : 0 < B) (hB : B ≤ w0.heap.size) (hT : Tab w) : Calls Tryd.prog 52 #[.pointer (some ⟨k, 0, none⟩), .int .i64 20] w fun e w' => ∃ g o c, e = .returned (.tuple #[.slice (some ⟨g, o, none⟩) 1 c, .int .i64 0]) ∧ w'.cell? ⟨g, o, none⟩ = some (.int .u64 7) ∧ w'.cell? ⟨g, o + 1, none⟩ = some (.int .u64 2) ∧ w'.cell? ⟨g, o + 2, none⟩ = some (.int .i64 20) ∧ Below B w0 w' := by
  obtain ⟨D, hb, hL, hbl⟩ := h
  have hBw : B ≤ w.heap.size := Nat.le_trans hB hbl.size
  refine (dadv (u := 20) hb hT hB0 hBw (by decide) (by decide)).mono ?_
  rintro e w' ⟨v, D', L, he, hA, h1⟩
  have hp := hA.perm
  rw [hL] at hp
  obtain ⟨e1, e2⟩ := one_due hp hA.late (by decide)
  have hr := hA.row
  have es : srt ltT zT [((7 : Int), (2 : Int), (20 : Int))] = [(7, 2, 20)] := List.perm_singleton.1 (srt_perm ltT zT [((7 : Int), (2 : Int), (20 : Int))])
  rw [e1, es] at hr
  obtain ⟨p, c, hv, hts⟩ := hr.reads
  obtain ⟨g, o, hp2, c0, c1, c2⟩ := hts 0 (by decide)
  rw [hv, hp2] at he
  refine ⟨g, o, c, he, by simpa using c0, by simpa using c1, by simpa using c2, hbl.trans (hA.only.toBelow hBw (fun g hg => hb.wi.base g hg))⟩
set_option maxRecDepth 100000 in
set_option maxHeartbeats 8000000 in
theorem lives13 (w : World) (hT : Tab w) : Calls Tryd.prog 43 #[] w fun e w' => e = .returned (.bool true) ∧ Below w.heap.size w w' := by
  have hn := dnew 0 w (by decide)
  have hB0 := hT.pos
  have HT := Lib.hid (fun w' (h : Below w.heap.size w w') => hT.below h)
  clear hT
  go_enter Tryd.func43, Tryd.ntmps43
  go_wp2_with fail
  refine hn.mono ?_
  rintro e w1 ⟨k, D, rfl, h1, h2, h3⟩
  have HE1 : Hid (EB w.heap.size k 0 0 [] w w1) := Lib.hid ⟨D, h1, h2, h3⟩
  clear hn h1 h2 h3
  go_wp2_with fail
  refine (HE1.out.set1 (Nat.le_refl _)).mono ?_
  rintro e w2 ⟨rfl, h1⟩
  have HE2 := Lib.hid h1
  clear h1 HE1
  go_wp2_with fail
  refine (HE2.out.set2 (Nat.le_refl _)).mono ?_
  rintro e w3 ⟨rfl, h1⟩
  have HE3 := Lib.hid h1
  clear h1 HE2
  go_wp2_with fail
  refine (HE3.out.adv1 hB0 (Nat.le_refl _) (HT.out _ (by obtain ⟨_, _, _, hb⟩ := HE3.out; exact hb))).mono ?_
  rintro e w4 ⟨p, c, rfl, h1⟩
  have HE4 := Lib.hid h1
  clear h1 HE3
  go_wp2_with fail
  refine (HE4.out.adv2 hB0 (Nat.le_refl _) (HT.out _ (by obtain ⟨_, _, _, hb⟩ := HE4.out; exact hb))).mono ?_
  rintro e w5 ⟨g, o, c', rfl, c0, c1, c2, hb⟩
  have HB := Lib.hid hb
  have hq := fun w => dl_eql 7 2 20 w
  have hgd := fun (op : BinOp) (x y : Operand) (xs ys : Array Value) (w : World) => run_eqGuard_agg w op _ x y xs ys dl_guard
  clear hb HE4
  go_wp2_with fail
  go_ret
  exact ⟨rfl, HB.out⟩
/- Books that no call made. -/
open Go.RowKit
/-- A pointer to no book, or to one without a wheel. -/
def NoB (v : Value) (w : World) : Prop := ∀ W, Below w.heap.size w W → Calls Tryd.prog 95 #[v] W fun e w' => e = .returned (.pointer none) ∧ w' = W
theorem NoB.below {v : Value} {w w2 : World} (h : NoB v w) (hb : Below w.heap.size w w2) : NoB v w2 := fun W hW => h W (hb.trans (hW.mono hb.size))
set_option maxRecDepth 100000 in
theorem nob_nil (w : World) : NoB (.pointer none) w := by
  intro W _
  go_enter Tryd.func95, Tryd.ntmps95
  go_wp2_with fail
  go_ret
  exact ⟨rfl, rfl⟩
set_option maxRecDepth 100000 in
theorem nob_plain (k : Nat) (w : World) (h : w.cell? ⟨k, 0, none⟩ = some (.pointer none)) : NoB (.pointer (some ⟨k, 0, none⟩)) w := by
  intro W hb
  have h1 := (hb.cell (p := ⟨k, 0, none⟩) (cell_lt h)).trans h
  clear h hb
  go_enter Tryd.func95, Tryd.ntmps95
  go_wp2_with fail
  go_ret
  exact ⟨rfl, rfl⟩
set_option maxRecDepth 100000 in
theorem nbcreated (v : Value) (w : World) (h : NoB v w) : Calls Tryd.prog 94 #[v] w fun e w' => e = .returned (.bool false) ∧ w' = w := by
  have hr := h w (Below.refl _ _)
  clear h
  go_enter Tryd.func94, Tryd.ntmps94
  go_wp2_with (go_at_call 95; (with_reducible refine hr.mono ?_); rintro e w1 ⟨rfl, rfl⟩)
  go_ret
  exact ⟨rfl, rfl⟩
set_option maxRecDepth 100000 in
set_option maxHeartbeats 4000000 in
theorem nbget (v : Value) (x : Int) (w : World) (h : NoB v w) : Calls Tryd.prog 65 #[v, .int .u64 x] w fun e w' => e = .returned (.tuple #[.agg #[.int .u64 0, .int .u64 0, .int .i64 0], .bool false]) ∧ Below w.heap.size w w' := by
  have hbA : Below w.heap.size w (w.alloc (.cells #[.int .u64 0, .int .u64 0, .int .i64 0] 27)) := (Below.refl _ _).alloc (Nat.le_refl _) _
  have hr := h _ hbA
  have hg1 := nwget (.pointer none) x (w.alloc (.cells #[.int .u64 0, .int .u64 0, .int .i64 0] 27)) (now_nil _)
  have hqA := zero_three w
  have hzA : ∀ o, (w.alloc (.cells #[.int .u64 0, .int .u64 0, .int .i64 0] 27)).frozen? ⟨w.heap.size, o, none⟩ = false := fun o => by simp
  have hsA : w.heap.size < (w.alloc (.cells #[.int .u64 0, .int .u64 0, .int .i64 0] 27)).heap.size := by simp
  obtain ⟨T, hT⟩ : ∃ T, w.heap.size = T := ⟨_, rfl⟩
  have HTB : Hid (w.heap.size ≤ T) := Lib.hid (by omega)
  clear h
  go_enter Tryd.func65, Tryd.ntmps65
  go_wp2_with fail
  rw [hT] at hqA hzA hsA
  generalize w.alloc (.cells #[.int .u64 0, .int .u64 0, .int .i64 0] 27) = W1 at hbA hr hg1 hqA hzA hsA ⊢
  have HBA := Lib.hid hbA
  have HQ := Lib.hid (And.intro hqA hzA)
  clear hbA hqA hzA
  go_wp2_with (first
    | (go_at_call 95; (with_reducible refine hr.mono ?_); rintro e w1 ⟨rfl, rfl⟩)
    | (go_at_call 41; (with_reducible refine hg1.mono ?_); rintro e w2 ⟨rfl, hb2⟩; have q0 := (hb2.cell (p := ⟨T, 0, none⟩) hsA).trans HQ.out.1.1; have q1 := (hb2.cell (p := ⟨T, 1, none⟩) hsA).trans HQ.out.1.2.1; have q2 := (hb2.cell (p := ⟨T, 2, none⟩) hsA).trans HQ.out.1.2.2; have z0 := (hb2.frozen (p := ⟨T, 0, none⟩) hsA).trans (HQ.out.2 0); have z1 := (hb2.frozen (p := ⟨T, 1, none⟩) hsA).trans (HQ.out.2 1); have z2 := (hb2.frozen (p := ⟨T, 2, none⟩) hsA).trans (HQ.out.2 2); have HB2 := Lib.hid (HBA.out.trans (hb2.mono HBA.out.size)); clear hb2 hg1))
  obtain ⟨k0, k1, k2⟩ := three_read (u := .int .u64 0) (v := .int .u64 0) (z := .int .i64 0) q0 q1 q2
  have h3 := below_three (a := w) (w := w2) HB2.out HTB.out (.int .u64 0) (.int .u64 0) (.int .i64 0)
  generalize ((w2.setCell ⟨T, 0, none⟩ (.int .u64 0)).setCell ⟨T, 1, none⟩ (.int .u64 0)).setCell ⟨T, 2, none⟩ (.int .i64 0) = W3 at k0 k1 k2 h3 ⊢
  refine bodyPost_ret (v := .tuple #[.agg #[.int .u64 0, .int .u64 0, .int .i64 0], .bool false]) (by simp [results, Tryd.results65, go_sem, k0, k1, k2]) rfl ⟨rfl, h3⟩
set_option maxRecDepth 100000 in
set_option maxHeartbeats 4000000 in
theorem nbclear (v : Value) (x : Int) (w : World) (h : NoB v w) : Calls Tryd.prog 51 #[v, .int .u64 x] w fun e w' => e = .returned (.tuple #[.agg #[.int .u64 0, .int .u64 0, .int .i64 0], .bool false]) ∧ Below w.heap.size w w' := by
  have hbA : Below w.heap.size w (w.alloc (.cells #[.int .u64 0, .int .u64 0, .int .i64 0] 27)) := (Below.refl _ _).alloc (Nat.le_refl _) _
  have hr := h _ hbA
  have hg1 := nwcancel (.pointer none) x (w.alloc (.cells #[.int .u64 0, .int .u64 0, .int .i64 0] 27)) (now_nil _)
  have hqA := zero_three w
  have hzA : ∀ o, (w.alloc (.cells #[.int .u64 0, .int .u64 0, .int .i64 0] 27)).frozen? ⟨w.heap.size, o, none⟩ = false := fun o => by simp
  have hsA : w.heap.size < (w.alloc (.cells #[.int .u64 0, .int .u64 0, .int .i64 0] 27)).heap.size := by simp
  obtain ⟨T, hT⟩ : ∃ T, w.heap.size = T := ⟨_, rfl⟩
  have HTB : Hid (w.heap.size ≤ T) := Lib.hid (by omega)
  clear h
  go_enter Tryd.func51, Tryd.ntmps51
  go_wp2_with fail
  rw [hT] at hqA hzA hsA
  generalize w.alloc (.cells #[.int .u64 0, .int .u64 0, .int .i64 0] 27) = W1 at hbA hr hg1 hqA hzA hsA ⊢
  have HBA := Lib.hid hbA
  have HQ := Lib.hid (And.intro hqA hzA)
  clear hbA hqA hzA
  go_wp2_with (first
    | (go_at_call 95; (with_reducible refine hr.mono ?_); rintro e w1 ⟨rfl, rfl⟩)
    | (go_at_call 40; (with_reducible refine hg1.mono ?_); rintro e w2 ⟨rfl, hb2⟩; have q0 := (hb2.cell (p := ⟨T, 0, none⟩) hsA).trans HQ.out.1.1; have q1 := (hb2.cell (p := ⟨T, 1, none⟩) hsA).trans HQ.out.1.2.1; have q2 := (hb2.cell (p := ⟨T, 2, none⟩) hsA).trans HQ.out.1.2.2; have z0 := (hb2.frozen (p := ⟨T, 0, none⟩) hsA).trans (HQ.out.2 0); have z1 := (hb2.frozen (p := ⟨T, 1, none⟩) hsA).trans (HQ.out.2 1); have z2 := (hb2.frozen (p := ⟨T, 2, none⟩) hsA).trans (HQ.out.2 2); have HB2 := Lib.hid (HBA.out.trans (hb2.mono HBA.out.size)); clear hb2 hg1))
  obtain ⟨k0, k1, k2⟩ := three_read (u := .int .u64 0) (v := .int .u64 0) (z := .int .i64 0) q0 q1 q2
  have h3 := below_three (a := w) (w := w2) HB2.out HTB.out (.int .u64 0) (.int .u64 0) (.int .i64 0)
  generalize ((w2.setCell ⟨T, 0, none⟩ (.int .u64 0)).setCell ⟨T, 1, none⟩ (.int .u64 0)).setCell ⟨T, 2, none⟩ (.int .i64 0) = W3 at k0 k1 k2 h3 ⊢
  refine bodyPost_ret (v := .tuple #[.agg #[.int .u64 0, .int .u64 0, .int .i64 0], .bool false]) (by simp [results, Tryd.results51, go_sem, k0, k1, k2]) rfl ⟨rfl, h3⟩
set_option maxRecDepth 100000 in
set_option maxHeartbeats 4000000 in
theorem nbadv (v : Value) (u : Int) (w : World) (h : NoB v w) : Calls Tryd.prog 52 #[v, .int .i64 u] w fun e w' => e = .returned (.tuple #[.slice none 0 0, .int .i64 1]) ∧ Below w.heap.size w w' := by
  have hr := h w (Below.refl _ _)
  have ha := nwadv none u w (now_nil w)
  clear h
  go_enter Tryd.func52, Tryd.ntmps52
  go_wp2_with (first
    | (go_at_call 95; (with_reducible refine hr.mono ?_); rintro e w1 ⟨rfl, rfl⟩)
    | (go_at_call 39; (with_reducible refine ha.mono ?_); rintro e w2 ⟨rfl, hb2⟩; have HB2 := Lib.hid hb2; clear hb2))
  refine bodyPost_ret (results_tmp2 rfl _ _ _) rfl ?_
  exact ⟨rfl, HB2.out⟩
set_option maxRecDepth 100000 in
set_option maxHeartbeats 4000000 in
theorem nbset (v : Value) (x u : Int) (w : World) (h : NoB v w) : Calls Tryd.prog 53 #[v, .int .u64 x, .int .i64 u] w fun e w' => e = .returned (.tuple #[.int .u64 0, .int .i64 1]) ∧ Below w.heap.size w w' := by
  have hg := nbget v x w h
  have HC := Lib.hid (fun W (hW : Below w.heap.size w W) => nbcreated v W (h.below hW))
  clear h
  go_enter Tryd.func53, Tryd.ntmps53
  go_wp2_with fail
  refine hg.mono ?_
  rintro e w1 ⟨rfl, hb1⟩
  have hbx : Below w.heap.size w (w1.alloc (.cells #[.int .u64 0, .int .u64 0, .int .i64 0] 27)) := hb1.alloc hb1.size _
  have hcr := HC.out _ hbx
  have HB2 := Lib.hid hbx
  clear hb1 hbx hg
  go_wp2_with fail
  generalize w1.alloc (.cells #[.int .u64 0, .int .u64 0, .int .i64 0] 27) = w2 at HB2 hcr ⊢
  refine hcr.mono ?_
  rintro e w3 ⟨rfl, rfl⟩
  clear hcr
  go_wp2_with fail
  refine bodyPost_ret (results_tmp2 rfl _ _ _) rfl ?_
  exact ⟨rfl, HB2.out⟩
set_option maxRecDepth 100000 in
set_option maxHeartbeats 4000000 in
theorem nbclone (w : World) : Calls Tryd.prog 54 #[.pointer none] w fun e w' => e = .returned (.pointer none) ∧ w' = w := by
  go_enter Tryd.func54, Tryd.ntmps54
  go_wp2_with fail
  go_ret
  exact ⟨rfl, rfl⟩
theorem three_at {w : World} {T : Nat} {a b c : Value} {t : TypeId} (h : w.heap[T]? = some (.cells #[a, b, c] t (0, 0))) : (w.cell? ⟨T, 0, none⟩ = some a ∧ w.cell? ⟨T, 1, none⟩ = some b ∧ w.cell? ⟨T, 2, none⟩ = some c) ∧ ∀ j, w.frozen? ⟨T, j, none⟩ = false := by
  simp [World.cell?, World.frozen?, h]
set_option maxRecDepth 100000 in
set_option maxHeartbeats 4000000 in
theorem nbstate (v : Value) (w : World) (h : NoB v w) : Calls Tryd.prog 49 #[v] w fun e w' => e = .returned (.agg #[.int .i64 0, .int .u64 0, .slice none 0 0]) ∧ Below w.heap.size w w' := by
  have hbA : Below w.heap.size w (w.alloc (.cells #[.int .i64 0, .int .u64 0, .slice none 0 0] 85)) := (Below.refl _ _).alloc (Nat.le_refl _) _
  have hcr := nbcreated v _ (h.below hbA)
  obtain ⟨⟨q0, q1, q2⟩, hz⟩ := three_at (heapW_new w (.cells #[.int .i64 0, .int .u64 0, .slice none 0 0] 85))
  obtain ⟨T, hT⟩ : ∃ T, w.heap.size = T := ⟨_, rfl⟩
  have HTB : Hid (w.heap.size ≤ T) := Lib.hid (by omega)
  clear h
  go_enter Tryd.func49, Tryd.ntmps49
  go_wp2_with fail
  rw [hT] at q0 q1 q2 hz
  generalize w.alloc (.cells #[.int .i64 0, .int .u64 0, .slice none 0 0] 85) = W1 at hbA hcr q0 q1 q2 hz ⊢
  have HBA := Lib.hid hbA
  have z0 := hz 0
  have z1 := hz 1
  have z2 := hz 2
  clear hbA hz
  refine hcr.mono ?_
  rintro e w1 ⟨rfl, rfl⟩
  go_wp2_with fail
  obtain ⟨k0, k1, k2⟩ := three_read (u := .int .i64 0) (v := .int .u64 0) (z := .slice none 0 0) q0 q1 q2
  have h3 := below_three (a := w) (w := w1) HBA.out HTB.out (.int .i64 0) (.int .u64 0) (.slice none 0 0)
  generalize ((w1.setCell ⟨T, 0, none⟩ (.int .i64 0)).setCell ⟨T, 1, none⟩ (.int .u64 0)).setCell ⟨T, 2, none⟩ (.slice none 0 0) = W3 at k0 k1 k2 h3 ⊢
  refine bodyPost_ret (v := .agg #[.int .i64 0, .int .u64 0, .slice none 0 0]) (by simp [results, Tryd.results49, go_sem, k0, k1, k2]) rfl ⟨rfl, h3⟩
/- Books that no call made: their state as the reference's; the law. -/
open Go.RowKit
theorem two_boxes (w : World) (a b : Obj) : Below w.heap.size w ((w.alloc a).alloc b) ∧ ((w.alloc a).alloc b).heap[w.heap.size]? = some a ∧ ((w.alloc a).alloc b).heap[w.heap.size + 1]? = some b ∧ ((w.alloc a).alloc b).heap.size = w.heap.size + 1 + 1 := by
  have h1 : (w.alloc a).heap.size = w.heap.size + 1 := by simp
  have b1 : Below w.heap.size w (w.alloc a) := (Below.refl _ _).alloc (Nat.le_refl _) _
  have b2 : Below (w.alloc a).heap.size (w.alloc a) ((w.alloc a).alloc b) := (Below.refl _ _).alloc (Nat.le_refl _) _
  refine ⟨b1.trans (b2.mono (by omega)), (b2.block w.heap.size (by omega)).trans (heapW_new w a), ?_, by simp⟩
  rw [← h1]
  exact heapW_new (w.alloc a) b
theorem two_at0 {w : World} {T : Nat} {a b : Value} {t : TypeId} (h : w.heap[T]? = some (.cells #[a, b] t (0, 0))) : w.cell? ⟨T, 0, none⟩ = some a := by
  simp [World.cell?, h]
theorem three_boxes (w : World) (a b c : Obj) : Below w.heap.size w (((w.alloc a).alloc b).alloc c) ∧ (((w.alloc a).alloc b).alloc c).heap[w.heap.size]? = some a ∧ (((w.alloc a).alloc b).alloc c).heap[w.heap.size + 1]? = some b ∧ (((w.alloc a).alloc b).alloc c).heap[w.heap.size + 1 + 1]? = some c := by
  obtain ⟨b1, h1, h2, h3⟩ := two_boxes w a b
  have b2 : Below ((w.alloc a).alloc b).heap.size ((w.alloc a).alloc b) (((w.alloc a).alloc b).alloc c) := (Below.refl _ _).alloc (Nat.le_refl _) _
  refine ⟨b1.trans (b2.mono (by omega)), (b2.block w.heap.size (by omega)).trans h1, (b2.block (w.heap.size + 1) (by omega)).trans h2, ?_⟩
  rw [← h3]
  exact heapW_new _ c
set_option maxRecDepth 100000 in
set_option maxHeartbeats 8000000 in
theorem plain13_zero (w : World) : Calls Tryd.prog 45 #[.agg #[.int .i64 0, .int .u64 0, .slice none 0 0]] w fun e w' => e = .returned (.agg #[.int .i64 0, .int .u64 0, .slice none 0 0]) ∧ Below w.heap.size w w' := by
  obtain ⟨hb, h0, h1, h2⟩ := three_boxes w (.cells #[.int .i64 0, .int .u64 0, .slice none 0 0] 85) (.cells #[.int .i64 0, .int .u64 0, .slice none 0 0] 92) (.cells #[.int .i64 0, .int .u64 0, .slice none 0 0] 92)
  obtain ⟨⟨q0, q1, q2⟩, qz⟩ := three_at h1
  obtain ⟨⟨p0, p1, p2⟩, -⟩ := three_at h2
  have z0 := qz 0
  have z1 := qz 1
  have z2 := qz 2
  obtain ⟨T, hT⟩ : ∃ T, w.heap.size = T := ⟨_, rfl⟩
  have HTB : Hid (w.heap.size ≤ T + 1) := Lib.hid (by omega)
  clear h0 h1 h2 qz
  go_enter Tryd.func45, Tryd.ntmps45
  go_wp2_with fail
  rw [hT] at q0 q1 q2 p0 p1 p2 z0 z1 z2
  generalize (((w.alloc (.cells #[.int .i64 0, .int .u64 0, .slice none 0 0] 85)).alloc (.cells #[.int .i64 0, .int .u64 0, .slice none 0 0] 92)).alloc (.cells #[.int .i64 0, .int .u64 0, .slice none 0 0] 92)) = W at hb q0 q1 q2 p0 p1 p2 z0 z1 z2 ⊢
  have HB := Lib.hid hb
  clear hb hT
  go_loopg [14] 1 (fun kx s14 wr => s14 = .int .i64 0 ∧ wr = W)
  case atStart => exact ⟨rfl, rfl⟩
  case round =>
    obtain ⟨rfl, rfl⟩ := hrel
    go_wp2_with fail
    obtain ⟨k0, k1, k2⟩ := three_read (u := .int .i64 0) (v := .int .u64 0) (z := .slice none 0 0) q0 q1 q2
    have h3 := below_three HB.out HTB.out (.int .i64 0) (.int .u64 0) (.slice none 0 0)
    refine bodyPost_ret (v := .agg #[.int .i64 0, .int .u64 0, .slice none 0 0]) (by simp [results, Tryd.results45, go_sem, k0, k1, k2]) rfl ⟨rfl, h3⟩
set_option maxRecDepth 100000 in
set_option maxHeartbeats 8000000 in
theorem same13_zero (w : World) : Calls Tryd.prog 48 #[.agg #[.int .i64 0, .int .u64 0, .slice none 0 0], .agg #[.int .i64 0, .int .u64 0, .slice none 0 0]] w fun e w' => e = .returned (.bool true) ∧ Below w.heap.size w w' := by
  obtain ⟨hb, h0, h1, -⟩ := two_boxes w (.cells #[.int .i64 0, .int .u64 0, .slice none 0 0] 92) (.cells #[.int .i64 0, .int .u64 0, .slice none 0 0] 92)
  obtain ⟨⟨q0, q1, q2⟩, -⟩ := three_at h0
  obtain ⟨⟨p0, p1, p2⟩, -⟩ := three_at h1
  obtain ⟨T, hT⟩ : ∃ T, w.heap.size = T := ⟨_, rfl⟩
  clear h0 h1
  go_enter Tryd.func48, Tryd.ntmps48
  go_wp2_with fail
  rw [hT] at q0 q1 q2 p0 p1 p2
  generalize ((w.alloc (.cells #[.int .i64 0, .int .u64 0, .slice none 0 0] 92)).alloc (.cells #[.int .i64 0, .int .u64 0, .slice none 0 0] 92)) = W at hb q0 q1 q2 p0 p1 p2 ⊢
  have HB := Lib.hid hb
  clear hb hT
  go_loopg [5] 1 (fun kx s5 wr => s5 = .int .i64 0 ∧ wr = W)
  case atStart => exact ⟨rfl, rfl⟩
  case round =>
    obtain ⟨rfl, rfl⟩ := hrel
    go_wp2_with fail
    go_ret
    exact ⟨rfl, HB.out⟩
set_option maxRecDepth 100000 in
set_option maxHeartbeats 8000000 in
theorem dnobody_walk (x u : Int) (w : World) (hT : Tab w) {p q : Prop} (_ : p) (_ : q) : Calls Tryd.prog 14 #[.int .u64 x, .int .i64 u] w fun e w' => e = .returned (.bool true) ∧ Below w.heap.size w w' := by
  have mixed := insTh.mixed
  have HT := Lib.hid hT
  clear hT
  have hcl := nbclone (w.alloc (.cells #[.pointer none, .int .u64 0] 128))
  obtain ⟨T, hTs⟩ : ∃ T, w.heap.size = T := ⟨_, rfl⟩
  obtain ⟨hb0, ha, hs, -⟩ := two_boxes w (.cells #[.pointer none, .int .u64 0] 128) (.cells #[.pointer none, .pointer (some ⟨T, 0, none⟩), .pointer none] 88)
  rw [hTs] at ha hs
  go_enter Tryd.func14, Tryd.ntmps14
  go_wp2_with (go_at_call 54; (with_reducible refine hcl.mono ?_); rintro e w1 ⟨rfl, rfl⟩)
  generalize hW : ((w.alloc (.cells #[.pointer none, .int .u64 0] 128)).alloc (.cells #[.pointer none, .pointer (some ⟨T, 0, none⟩), .pointer none] 88)) = W0 at hb0 ha hs ⊢
  have HB0 := Lib.hid hb0
  have HV : Hid (∀ k : Nat, k < 3 → ∃ v : Option Addr, W0.cell? ⟨T + 1, k, none⟩ = some (.pointer v) ∧ NoB (.pointer v) W0) := Lib.hid (fun k hk => by
    match k, hk with
    | 0, _ => exact ⟨none, (three_at hs).1.1, nob_nil W0⟩
    | 1, _ => exact ⟨some ⟨T, 0, none⟩, (three_at hs).1.2.1, nob_plain T W0 (two_at0 ha)⟩
    | 2, _ => exact ⟨none, (three_at hs).1.2.2, nob_nil W0⟩)
  clear hb0 ha hs hW hcl
  go_loopg [23] 3 (fun kx s23 wr => ∃ k : Nat, s23 = .int .i64 k ∧ k ≤ 3 ∧ 3 - k ≤ kx ∧ Hid (Below W0.heap.size W0 wr))
  case atStart => exact ⟨0, rfl, by omega, by omega, Below.refl _ _⟩
  case round =>
    obtain ⟨k, rfl, hk, hkx, HB⟩ := hrel
    by_cases hk2 : k < 3
    · have hk2z : (k : Int) < 3 := by omega
      have hk0 : (0 : Int) ≤ (k : Int) := by omega
      obtain ⟨v, hv, hno⟩ := HV.out k hk2
      have cv := (HB.out.cell (p := ⟨T + 1, k, none⟩) (cell_lt hv)).trans hv
      have HNO := Lib.hid hno
      clear hv hno
      go_wp2_with fail
      refine (nbset (.pointer v) x u wr (HNO.out.below HB.out)).mono ?_
      rintro e w1 ⟨rfl, hb1⟩
      have H1 := Lib.hid (HB.out.trans (hb1.mono HB.out.size))
      clear hb1 cv
      go_wp2_with fail
      refine (nbclear (.pointer v) x w1 (HNO.out.below H1.out)).mono ?_
      rintro e w2 ⟨rfl, hb2⟩
      have b2 := H1.out.trans (hb2.mono H1.out.size)
      have H2 : Hid (Below W0.heap.size W0 (w2.alloc (.cells #[.int .u64 0, .int .u64 0, .int .i64 0] 27))) := Lib.hid (b2.alloc b2.size _)
      clear hb2 b2
      go_wp2_with fail
      generalize w2.alloc (.cells #[.int .u64 0, .int .u64 0, .int .i64 0] 27) = w2' at H2 ⊢
      refine (nbget (.pointer v) x w2' (HNO.out.below H2.out)).mono ?_
      rintro e w3 ⟨rfl, hb3⟩
      have b3 := H2.out.trans (hb3.mono H2.out.size)
      have H3 : Hid (Below W0.heap.size W0 (w3.alloc (.cells #[.int .u64 0, .int .u64 0, .int .i64 0] 27))) := Lib.hid (b3.alloc b3.size _)
      clear hb3 b3
      go_wp2_with fail
      generalize w3.alloc (.cells #[.int .u64 0, .int .u64 0, .int .i64 0] 27) = w3' at H3 ⊢
      refine (nbadv (.pointer v) u w3' (HNO.out.below H3.out)).mono ?_
      rintro e w4 ⟨rfl, hb4⟩
      have H4 := Lib.hid (H3.out.trans (hb4.mono H3.out.size))
      clear hb4
      go_wp2_with fail
      refine (nbstate (.pointer v) w4 (HNO.out.below H4.out)).mono ?_
      rintro e w5 ⟨rfl, hb5⟩
      have H5 := Lib.hid (H4.out.trans (hb5.mono H4.out.size))
      clear hb5
      go_wp2_with fail
      refine (plain13_zero w5).mono ?_
      rintro e w6 ⟨rfl, hb6⟩
      have H6 := Lib.hid (H5.out.trans (hb6.mono H5.out.size))
      clear hb6
      go_wp2_with fail
      refine (same13_zero w6).mono ?_
      rintro e w7 ⟨rfl, hb7⟩
      have H7 := Lib.hid (H6.out.trans (hb7.mono H6.out.size))
      clear hb7
      go_wp2_with fail
      go_roundg (3 - (k + 1))
      case measure => omega
      case rel => exact ⟨k + 1, by go_num, by omega, by omega, H7⟩
    · have hk2z : ¬ (k : Int) < 3 := by omega
      obtain rfl : k = 3 := by omega
      have hbw := HB0.out.trans (HB.out.mono HB0.out.size)
      have hl := lives13 wr (HT.out.below hbw)
      have HW := Lib.hid hbw
      clear hbw
      go_wp2_with (go_at_call 43; (with_reducible refine hl.mono ?_); rintro e w1 ⟨rfl, hb1⟩; have H1 := Lib.hid (HW.out.trans (hb1.mono HW.out.size)); clear hb1 hl)
      go_ret
      exact ⟨rfl, H1.out⟩
end Go.Proofs.YtfclmbneimbmnaaDoor

/- The walk of LazyRows. -/
import Derived.Test.YtfakgemifbgafaaLzQ
import Derived.Maps.OwnSet
import Derived.Carry
import Derived.Deep.RegionHeld3
namespace Go.Proofs.Ytfakgemifbgafaa
open Go.RowKit Go.Maps

theorem keyed3 : Keyed Try.prog 3 := int_keyed Try.underlying3
theorem ints_info4 : (Try.prog.info? 3).map (fun i => (i.zero, i.size, i.bytes)) = some (some (.int .i64 0), 1, 8) := by kernel_rfl

theorem use_new (L lb lo n c : Nat) (V : Value) (z : Nat → Int) (w3 w4 : World) (hs : w3.heap.size = L + 3) (hl : w3.cell? ⟨L, 0, none⟩ = some V) (hc : w3.cell? ⟨L + 2, 0, none⟩ = some (.slice (some ⟨L + 1, 0, none⟩) n n)) (hcnt : ∀ i, i < n → w3.cell? ⟨L + 1, i, none⟩ = some (.int .i64 0))
    (hfz : ∀ b o, L ≤ b → b < L + 3 → w3.frozen? ⟨b, o, none⟩ = false) (hz : ∀ i, i < n → w3.cell? ⟨lb, lo + i, none⟩ = some (.int .i64 (z i))) (hlow : 0 < n → lb < L) (B : Below (L + 3) w3 w4)
    (T : Tab (L + 3) n n (.func (.func 17) #[] #[.pointer (some ⟨L, 0, none⟩), .pointer (some ⟨L + 2, 0, none⟩)]) w4) : Use L lb lo n V z (fun _ => false) 0 w4 := by
  have cl : ∀ b o x, b < L + 3 → w3.cell? ⟨b, o, none⟩ = some x → w4.cell? ⟨b, o, none⟩ = some x := fun b o x hb hx => (World.cell?_of_block (a := ⟨b, o, none⟩) (B.block b hb)).trans hx
  refine ⟨cl _ _ _ (by omega) hl, cl _ _ _ (by omega) hc, T.row, T.rows, T.made, T.t, fun b o h1 h2 => ?_, fun i hi => ?_, fun i hi => ?_, fun i hi => ?_, fun i hi _ => ?_, fun i hi h => by simp at h, fun i hi => cl _ _ _ (by have := hlow (by omega); omega) (hz i hi), ?_, hlow⟩
  · by_cases h : b < L + 3
    · exact (World.frozen?_of_block (a := ⟨b, o, none⟩) (B.block b h)).trans (hfz b o h1 h)
    · exact T.free _ (by show L + 3 ≤ b; omega)
  · have := T.cell i hi
    rwa [show L + 3 + 5 + 2 * i = L + 8 + 2 * i by omega] at this
  · have := T.ix i hi
    rwa [show L + 3 + 4 + 2 * i = L + 7 + 2 * i by omega] at this
  · simpa using cl _ _ _ (by omega) (hcnt i hi)
  · have := T.cel i hi
    rw [show L + 3 + 5 + 2 * i = L + 8 + 2 * i by omega] at this
    exact this
  · have := T.size
    omega

theorem map_of_block {H : Type} {b q : Nat} {D : DataW H} {w w' : World} (h : w.ownsMap Try.prog 3 (plainElem Try.prog 4) b q D) (hb : w'.heap[b]? = w.heap[b]?) : w'.ownsMap Try.prog 3 (plainElem Try.prog 4) b q D := by
  obtain ⟨es, clock, h1, h2⟩ := h
  exact ⟨es, clock, hb.trans h1, h2⟩

/-- LazyRows' loop: k numbers asked for; the map says which rows. -/
def Going (L lb lo n : Nat) (V : Value) (z : Nat → Int) (k : Nat) (w : World) : Prop :=
  ∃ (f : Nat → Bool) (m q : Nat) (D : DataW Unit), Use L lb lo n V z f m w ∧ w.ownsMap Try.prog 3 (plainElem Try.prog 4) (L + 7 + 2 * n) q D ∧ Maps.size D = m ∧ m ≤ k ∧ q ≤ k ∧ ∀ j, j < n → Maps.has D (.int .i64 (j : Int)) = f j
/-- Behind At, ahead of the map's store. -/
def Asked (L lb lo n : Nat) (V : Value) (z : Nat → Int) (k i : Nat) (w : World) : Prop :=
  ∃ (f : Nat → Bool) (m q : Nat) (D : DataW Unit), Use L lb lo n V z f m w ∧ w.ownsMap Try.prog 3 (plainElem Try.prog 4) (L + 7 + 2 * n) q D ∧ m = (if Maps.has D (.int .i64 (i : Int)) then Maps.size D else Maps.size D + 1) ∧ m ≤ k + 1 ∧ q ≤ k ∧ f i = true ∧
    ∀ j, j < n → ¬ j = i → Maps.has D (.int .i64 (j : Int)) = f j
theorem Going.more {L lb lo n : Nat} {V : Value} {z : Nat → Int} {k : Nat} {w : World} (h : Going L lb lo n V z k w) : Going L lb lo n V z (k + 1) w := by
  obtain ⟨f, m, q, D, U, M, h1, h2, h3, h4⟩ := h
  exact ⟨f, m, q, D, U, M, h1, by omega, by omega, h4⟩
theorem going_at {L lb lo n c : Nat} {z : Nat → Int} {k : Nat} (i : Nat) (w : World) (h : Going L lb lo n (.slice (some ⟨lb, lo, none⟩) n c) z k w) (hi : i < n) (hk : k ≤ 300) :
    Calls Try.prog 18 #[.pointer (some ⟨L + 4, 0, none⟩), .int .i64 (i : Int)] w fun e w' => e = .returned (.tuple #[.int .i64 (z i), .bool true]) ∧
      Asked L lb lo n (.slice (some ⟨lb, lo, none⟩) n c) z k i w' ∧ Only (fun k => L ≤ k ∧ k < L + 7 + 2 * n) w w' := by
  obtain ⟨f, m, q, D, U, M, h1, h2, h3, h4⟩ := h
  have hbig : L + 7 + 2 * n < w.heap.size := by
    obtain ⟨es, clock, hb, _⟩ := M
    exact (Array.getElem?_eq_some_iff.1 hb).1
  cases hf : f i with
  | false =>
    refine (at_first i w U hi hf (by omega)).mono ?_
    rintro e w' ⟨rfl, U', O⟩
    refine ⟨rfl, ⟨_, _, q, D, U', map_of_block M (O.block _ hbig (by omega)), ?_, by omega, h3, by simp [noted], fun j hj hne => ?_⟩, O⟩
    · rw [h4 i hi, hf]
      simp [h1]
    · rw [h4 j hj]
      simp [noted, hne]
  | true =>
    refine (at_again i w U hi hf).mono ?_
    rintro e w' ⟨rfl, U', O⟩
    refine ⟨rfl, ⟨_, _, q, D, U', map_of_block M (O.block _ hbig (by omega)), ?_, by omega, h3, hf, fun j hj _ => h4 j hj⟩, O⟩
    rw [h4 i hi, hf]
    simp [h1]
theorem asked_put {L lb lo n : Nat} {V : Value} {z : Nat → Int} {f : Nat → Bool} {m q k i : Nat} {D : DataW Unit} {w w' : World} (U : Use L lb lo n V z f m w) (M : w.ownsMap Try.prog 3 (plainElem Try.prog 4) (L + 7 + 2 * n) q D)
    (h1 : m = (if Maps.has D (.int .i64 (i : Int)) then Maps.size D else Maps.size D + 1)) (h2 : m ≤ k + 1) (h3 : q ≤ k) (hf : f i = true) (h4 : ∀ j, j < n → ¬ j = i → Maps.has D (.int .i64 (j : Int)) = f j)
    (M' : w'.ownsMap Try.prog 3 (plainElem Try.prog 4) (L + 7 + 2 * n) (q + 1) (D.put (.int .i64 (i : Int)) (.lit (.bool true)))) (g : w.grownBy w' (some (L + 7 + 2 * n))) :
    Use L lb lo n V z f m w' ∧ Maps.size (D.put (.int .i64 (i : Int)) (.lit (.bool true))) = m ∧ Going L lb lo n V z (k + 1) w' := by
  have O : Only (· = L + 7 + 2 * n) w w' := ⟨g.os, g.tape, g.output, g.size, fun b hb hne => g.block b hb (fun e => hne (by injection e))⟩
  have U' := U.only (fun b hb => by omega) O
  have hs : Maps.size (D.put (.int .i64 (i : Int)) (.lit (.bool true))) = m := (Maps.size_put (M.tidy keyed3) _).trans h1.symm
  refine ⟨U', hs, f, m, q + 1, _, U', M', hs, h2, by omega, fun j hj => ?_⟩
  by_cases hji : j = i
  · subst hji
    rw [hf]
    exact Maps.has_put_same M.isMap (by simp [WideAt.IsKeyLit]) _
  · rw [Maps.has_put_other (fun e => hji (by injection e with _ e2; omega))]
    exact h4 j hj hji

set_option maxRecDepth 100000 in
set_option maxHeartbeats 1600000 in
theorem lrows_big (a a' : Option Addr) (n c n' c' : Nat) (w : World) (hm : n ≤ 9223372036854775807) (hm' : n' ≤ 9223372036854775807) (h : 300 < n ∨ 300 < n') : Calls Try.prog 4 #[.slice a n c, .slice a' n' c'] w fun e w' => e = .returned (.bool true) ∧ Below w.heap.size w w' := by
  have hb : Below w.heap.size w (w.alloc (.cells #[.slice a n c] 22)) := (Below.refl _ _).alloc (Nat.le_refl _) _
  by_cases h1 : 300 < n
  · have d1 : decide (300 < (n : Int)) = true := by simp; omega
    go_enter Try.func4, Try.ntmps4
    go_wp2_with (go_at_call 11; refine (lives4 _).mono ?_; rintro e w' ⟨rfl, hc⟩)
    go_ret
    exact ⟨rfl, hb.trans (hc.mono hb.size)⟩
  · have d1 : decide (300 < (n : Int)) = false := by simp; omega
    have d2 : decide (300 < (n' : Int)) = true := by simp; omega
    go_enter Try.func4, Try.ntmps4
    go_wp2_with (go_at_call 11; refine (lives4 _).mono ?_; rintro e w' ⟨rfl, hc⟩)
    go_ret
    exact ⟨rfl, hb.trans (hc.mono hb.size)⟩

set_option maxRecDepth 100000 in
set_option maxHeartbeats 16000000 in
theorem lrows_ok (a a' : Option Addr) (lb lo n c n' c' : Nat) (z x : Nat → Int) (w : World) (hn : n ≤ 300) (hn' : n' ≤ 300)
    (hA : 0 < n → a = some ⟨lb, lo, none⟩ ∧ lb < w.heap.size) (hz : ∀ i, i < n → w.cell? ⟨lb, lo + i, none⟩ = some (.int .i64 (z i)))
    (hc : 0 < n' → ∃ ab ao, a' = some ⟨ab, ao, none⟩ ∧ ab < w.heap.size ∧ ∀ k, k < n' → w.cell? ⟨ab, ao + k, none⟩ = some (.int .i64 (x k)) ∧ (Lit.int .i64 (x k)).wf = true) :
    Calls Try.prog 4 #[.slice a n c, .slice a' n' c'] w fun e w' => e = .returned (.bool true) ∧ Below w.heap.size w w' := by
  have d1 : decide (300 < (n : Int)) = false := by simp; omega
  have d2 : decide (300 < (n' : Int)) = false := by simp; omega
  have hmi := run_make_row' (P := Try.prog) 24 3 (.int .i64 0) 8 Try.underlying24 ints_info4 rfl .i64 .i64 n (by omega) (by omega)
  have hmf : ∀ (fn : Fn) (first cap : Array Value) (w : World), (Instr.makeFunc fn first cap).run Try.prog w = .ok (.func fn first cap) w := fun _ _ _ _ => rfl
  have hmm := @run_makeMap Try.prog
  have HA := Lib.hid hA
  have HZ := Lib.hid hz
  clear hA hz
  go_enter Try.func4, Try.ntmps4
  go_wp2_with fail
  obtain ⟨w3, hw3⟩ : ∃ w3, (((w.alloc (.cells #[.slice a n c] 22)).alloc (.cells (madeCells #[.int .i64 0] n) 3)).alloc (.cells #[.slice (some ⟨w.heap.size + 1, 0, none⟩) n n] 24)) = w3 := ⟨_, rfl⟩
  have hs3 : w3.heap.size = w.heap.size + 3 := by rw [← hw3]; simp
  have B3 : Below w.heap.size w w3 := by rw [← hw3]; exact (((Below.refl _ _).alloc (Nat.le_refl _) _).alloc (by simp) _).alloc (by simp <;> omega) _
  have l3 : w3.cell? ⟨w.heap.size, 0, none⟩ = some (.slice a n c) := by
    rw [← hw3, World.cell?_alloc_past _ _ _ (by simp <;> omega), World.cell?_alloc_past _ _ _ (by simp), World.cell?_alloc_at _ _ _ _ rfl]
    rfl
  have c3 : w3.cell? ⟨w.heap.size + 2, 0, none⟩ = some (.slice (some ⟨w.heap.size + 1, 0, none⟩) n n) := by
    rw [← hw3, World.cell?_alloc_at _ _ _ _ (by simp)]
    rfl
  have n3 : ∀ i, i < n → w3.cell? ⟨w.heap.size + 1, i, none⟩ = some (.int .i64 0) := fun i hi => by
    rw [← hw3, World.cell?_alloc_past _ _ _ (by simp <;> omega), World.cell?_alloc_at _ _ _ _ (by simp)]
    simp [madeCells, hi, Nat.mod_one]
  have f3 : ∀ b o, w.heap.size ≤ b → b < w.heap.size + 3 → w3.frozen? ⟨b, o, none⟩ = false := fun b o h1 _ => by
    rw [← hw3, frozen?_alloc_cells, frozen?_alloc_cells, frozen?_alloc_cells]
    exact fresh_free h1
  have z3 : ∀ i, i < n → w3.cell? ⟨lb, lo + i, none⟩ = some (.int .i64 (z i)) := fun i hi => (B3.cell (p := ⟨lb, lo + i, none⟩) (HA.out (by omega)).2).trans (HZ.out i hi)
  rw [show w.heap.size + 1 + 1 = w.heap.size + 2 from rfl, hw3]
  clear hw3 hmi
  have hR := rows_fn (.func 17) #[] #[.pointer (some ⟨w.heap.size, 0, none⟩), .pointer (some ⟨w.heap.size + 2, 0, none⟩)] n w3 (by omega)
  rw [hs3] at hR
  refine hR.mono ?_
  rintro e w4 ⟨rfl, B4, T4⟩
  have U4 := use_new w.heap.size lb lo n c (.slice a n c) z w3 w4 hs3 l3 c3 n3 f3 z3 (fun h => (HA.out h).2) B4 T4
  have S4 := T4.size
  have B5 : Below w.heap.size w w4 := B3.trans (B4.mono (by omega))
  have hb4 : w4.heap.size = w.heap.size + 7 + 2 * n := by omega
  have U5 : Use w.heap.size lb lo n (.slice a n c) z (fun _ => false) 0 (w4.alloc (.map #[] 0)) := U4.only (X := fun _ => False) (fun k h => h.elim) (Only.below ((Below.refl _ _).alloc (Nat.le_refl _) _))
  have M5 : (w4.alloc (.map #[] 0)).ownsMap Try.prog 3 (plainElem (H := Unit) Try.prog 4) (w.heap.size + 7 + 2 * n) 0 (.map []) := by
    have := World.ownsMap_made w4 Try.prog 3 (plainElem (H := Unit) Try.prog 4)
    rwa [hb4] at this
  have B6 : Below w.heap.size w (w4.alloc (.map #[] 0)) := B5.alloc B5.size _
  clear hR l3 c3 n3 f3 z3 B3 B4 T4 S4 U4 B5 hs3
  have G5 : Going w.heap.size lb lo n (.slice a n c) z 0 (w4.alloc (.map #[] 0)) := ⟨_, 0, 0, _, U5, M5, rfl, Nat.le_refl _, Nat.le_refl _, fun _ _ => rfl⟩
  clear U5 M5
  go_wp2_with fail
  obtain ⟨w5, hw5⟩ : ∃ w5, w4.alloc (.map #[] 0) = w5 := ⟨_, rfl⟩
  rw [hw5] at G5 B6
  rw [hw5, show w.heap.size + 3 + 1 = w.heap.size + 4 from rfl]
  clear hw5 hb4
  go_loopw [9, 10, 11, 31] (fun _ _ _ i wr => ∃ k : Nat, k ≤ n' ∧ i = .int .i64 k ∧ Below w.heap.size w wr ∧ Going w.heap.size lb lo n (.slice a n c) z k wr) (fun _ _ _ i _ => n' - (intOf i).toNat)
  case atStart => exact ⟨0, Nat.zero_le _, rfl, B6, G5⟩
  case round =>
    clear G5 B6
    obtain ⟨k, hk, rfl, hB, G⟩ := hrel
    by_cases hlt : k < n'
    · obtain ⟨ab, ao, rfl, hab, hcs⟩ := hc (by omega)
      obtain ⟨c0, x0⟩ := hcs k hlt
      have c0 := (hB.cell (p := ⟨ab, ao + k, none⟩) hab).trans c0
      obtain ⟨y, hy⟩ : ∃ y, x k = y := ⟨_, rfl⟩
      rw [hy] at c0 x0
      have k0 : (0 : Int) ≤ (k : Int) := by omega
      have kl : (k : Int) < (n' : Int) := by omega
      have d3 : decide ((k : Int) < (n' : Int)) = true := by simp [hlt]
      clear hcs hc hy hab
      by_cases hin : 0 ≤ y ∧ y < n
      · obtain ⟨i, rfl⟩ : ∃ i : Nat, y = (i : Int) := ⟨y.toNat, by omega⟩
        have hi : i < n := by omega
        obtain ⟨rfl, hlb⟩ := HA.out (by omega)
        have i0 : (0 : Int) ≤ (i : Int) := by omega
        have il : (i : Int) < (n : Int) := by omega
        have d4 : decide ((i : Int) < 0) = false := by simp
        have d5 : decide ((n : Int) ≤ (i : Int)) = false := by simp; omega
        have hkey := keyOf_int_mk Try.underlying3 x0
        have hAt := going_at i wr G hi (by omega)
        clear hin
        go_wp2_with fail
        refine hAt.mono ?_
        rintro e w6 ⟨rfl, A6, O6⟩
        have B6 := hB.trans (O6.toBelow hB.size fun j hj => by omega)
        obtain ⟨f, m, q, D, U6, M6, e1, e2, e3, e4, e5⟩ := A6
        have l6 := U6.l
        clear hAt O6 hB G
        have z6 : wrap64 m = m := by unfold wrap64; omega
        have m0 : (-9223372036854775808 : Int) ≤ (m : Int) := by omega
        have m1 : (m : Int) ≤ 9223372036854775807 := by omega
        have hP := fun w7 => @asked_put w.heap.size lb lo n (.slice (some ⟨lb, lo, none⟩) n c) z f m q k i D w6 w7 U6 M6 e1 e2 e3 e4 e5
        have HP := Lib.hid hP
        have hql : q < maxLen := by unfold maxLen; omega
        clear hP e1 e2 e3 e5
        go_wp2_with (first
          | (at_mapUpdate; refine wpList_mapUpdate_own _ rfl _ _ _ 33 rfl 3 4 keyed3 Try.underlying33 _ (w.heap.size + 7 + 2 * n) q D rfl M6 hql _ _ _ rfl rfl hkey _ [] (plainElem_bool Try.underlying4 true) ?_; intro w7 M7 g7
             obtain ⟨U7, s7, G7⟩ := HP.out w7 M7 g7
             have B7 : Below w.heap.size w w7 := B6.trans (Only.toBelow (X := (· = w.heap.size + 7 + 2 * n)) ⟨g7.os, g7.tape, g7.output, g7.size, fun b hb hne => g7.block b hb (fun e => hne (by injection e))⟩ B6.size fun j hj => by omega)
             have l7 := U7.l
             have c7 := U7.calls
             have n7 := U7.cnt i hi
             rw [if_pos e4] at n7
             have z7 := U7.lz i hi
             have hM := tmade_some (w.heap.size + 4) m w7 U7.made m0 m1
             have hn7 := M7.len Try.underlying33 3
             rw [s7] at hn7
             clear U7 g7)
          | (go_at_call 19; refine hM.mono ?_; rintro e w8 ⟨rfl, rfl⟩))
        go_roundw
        case rel => exact ⟨k + 1, by omega, by go_num, B7, G7⟩
        case measure => simp [intOf]; omega
      · have hno : y < 0 ∨ (n : Int) ≤ y := by omega
        have hAt := at_none (w.heap.size + 4) (some ⟨w.heap.size + 6, 0, none⟩) n n y wr (by obtain ⟨f, m, q, D, U, _⟩ := G; exact U.rows) hno
        have l6 : wr.cell? ⟨w.heap.size, 0, none⟩ = some (.slice a n c) := by obtain ⟨f, m, q, D, U, _⟩ := G; exact U.l
        have G' := G.more
        clear hin G
        by_cases h0 : y < 0
        · have d4 : decide (y < 0) = true := by simp [h0]
          clear h0 hno
          go_wp2_with (go_at_call 18; refine hAt.mono ?_; rintro e w6 ⟨rfl, rfl⟩)
          go_roundw
          case rel => exact ⟨k + 1, by omega, by go_num, hB, G'⟩
          case measure => simp [intOf]; omega
        · have d4 : decide (y < 0) = false := by simp [h0]
          have d5 : decide ((n : Int) ≤ y) = true := by simp; omega
          clear h0 hno
          go_wp2_with (go_at_call 18; refine hAt.mono ?_; rintro e w6 ⟨rfl, rfl⟩)
          go_roundw
          case rel => exact ⟨k + 1, by omega, by go_num, hB, G'⟩
          case measure => simp [intOf]; omega
    · obtain rfl : k = n' := by omega
      have d3 : decide ((k : Int) < (k : Int)) = false := by simp
      obtain ⟨f, m, q, D, U, M, e1, e2, e3, e4⟩ := G
      have l6 := U.l
      have hbig : w.heap.size + 7 + 2 * n < wr.heap.size := by
        obtain ⟨es, clock, hb, _⟩ := M
        exact (Array.getElem?_eq_some_iff.1 hb).1
      have m0 : (-9223372036854775808 : Int) ≤ (m : Int) := by omega
      have m1 : (m : Int) ≤ 9223372036854775807 := by omega
      have hS : ∀ w1, Below wr.heap.size wr w1 → w1.cell? ⟨w.heap.size, 0, none⟩ = some (.slice a n c) ∧ (Builtin.len_ #[33] 3 #[.map (some (w.heap.size + 7 + 2 * n))]).run Try.prog w1 = .ok (.int .i64 (m : Int)) w1 ∧ Below wr.heap.size wr w1 := fun w1 B => by
        have h := (map_of_block M (B.block _ hbig)).len Try.underlying33 3
        rw [e1] at h
        exact ⟨(B.cell (p := ⟨w.heap.size, 0, none⟩) (by show w.heap.size < _; omega)).trans l6, h, B⟩
      have hM : ∀ w1, Below wr.heap.size wr w1 → Calls Try.prog 19 #[.pointer (some ⟨w.heap.size + 4, 0, none⟩)] w1 fun e w' => e = .returned (.int .i64 (m : Int)) ∧ w1 = w' := fun w1 B =>
        tmade_some (w.heap.size + 4) m w1 ((B.cell (p := ⟨w.heap.size + 4, 1, none⟩) (by show w.heap.size + 4 < _; omega)).trans U.made) m0 m1
      have hL : ∀ w1, Below wr.heap.size wr w1 → Calls Try.prog 20 #[.pointer (some ⟨w.heap.size + 4, 0, none⟩)] w1 fun e w' => e = .returned (.int .i64 (n : Int)) ∧ w1 = w' := fun w1 B =>
        len_some (w.heap.size + 4) _ n n w1 ((B.cell (p := ⟨w.heap.size + 4, 0, none⟩) (by show w.heap.size + 4 < _; omega)).trans U.rows)
      have hV : ∀ w1, Below wr.heap.size wr w1 → Calls Try.prog 11 #[] w1 fun e w' => e = .returned (.bool true) ∧
          (w'.cell? ⟨w.heap.size, 0, none⟩ = some (.slice a n c) ∧ (Builtin.len_ #[33] 3 #[.map (some (w.heap.size + 7 + 2 * n))]).run Try.prog w' = .ok (.int .i64 (m : Int)) w' ∧ Below wr.heap.size wr w') := fun w1 B =>
        (lives4 w1).mono (by rintro e w' ⟨rfl, hl4⟩; exact ⟨rfl, hS _ (B.trans (hl4.mono B.size))⟩)
      have h0 := hS wr.drew (Below.refl _ _).drew
      have HS := Lib.hid hS
      have HM := Lib.hid hM
      have HL := Lib.hid hL
      have HV := Lib.hid hV
      clear U hc hlt e2 e3 e4 hS hM hL hV l6 M
      go_wp2_with fail
      go_region_held3 (fun w' => w'.cell? ⟨w.heap.size, 0, none⟩ = some (.slice a n c) ∧ (Builtin.len_ #[33] 3 #[.map (some (w.heap.size + 7 + 2 * n))]).run Try.prog w' = .ok (.int .i64 (m : Int)) w' ∧ Below wr.heap.size wr w')
        (first | exact h0 | assumption)
        (first
          | (go_at_call 20; refine (HL.out _ (by simp [*])).mono ?_; rintro e w8 ⟨rfl, rfl⟩)
          | (go_at_call 19; refine (HM.out _ (by simp [*])).mono ?_; rintro e w8 ⟨rfl, rfl⟩)
          | (go_at_call 11; refine (HV.out _ (by simp [*])).mono ?_; rintro e w' ⟨rfl, hV'⟩))
      go_wp2_with fail
      go_ret
      exact ⟨rfl, hB.trans (hV'.2.2.mono hB.size)⟩
end Go.Proofs.Ytfakgemifbgafaa

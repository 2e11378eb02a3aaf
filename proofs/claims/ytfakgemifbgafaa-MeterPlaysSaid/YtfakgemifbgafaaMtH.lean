/- MeterSizes. -/
import Derived.Test.YtfakgemifbgafaaMtG
namespace Go.Proofs.Ytfakgemifbgafaa
open Go.RowKit

theorem below_only {B : Nat} {w w1 w2 : World} (h : Below B w w1) (o : Only (· = B) w1 w2) (hB : B ≤ w1.heap.size) : Below B w w2 := h.trans (o.toBelow hB fun k hk => by omega)

/-- The row of the two meters that are none. -/
structure Two (P : Nat) (w : World) : Prop where
  a : w.cell? ⟨P + 1, 0, none⟩ = some (.pointer none)
  b : w.cell? ⟨P + 1, 1, none⟩ = some (.pointer (some ⟨P, 0, none⟩))
  c : w.cell? ⟨P, 0, none⟩ = some (.int .i64 0)
theorem Two.kept {P : Nat} {w w' : World} (T : Two P w) (hb : Below w.heap.size w w') : Two P w' :=
  ⟨(hb.cell (p := ⟨P + 1, 0, none⟩) (cell_spot T.a).2).trans T.a, (hb.cell (p := ⟨P + 1, 1, none⟩) (cell_spot T.b).2).trans T.b, (hb.cell (p := ⟨P, 0, none⟩) (cell_spot T.c).2).trans T.c⟩
theorem below_tr {W w w' : World} (h : Below W.heap.size W w) (h' : Below w.heap.size w w') : Below W.heap.size W w' := h.trans (h'.mono h.size)

set_option maxRecDepth 100000 in
set_option maxHeartbeats 4000000 in
theorem ms_low (n i x : Int) (w : World) (h : n < 1) : Calls Try.prog 7 #[.int .i64 n, .int .i64 i, .int .u64 x] w fun e w' => e = .returned (.bool true) ∧ Below w.heap.size w w' := by
  have hN := new_none n w (.inl h)
  have d0 : decide (n < 1) = true := by simp [h]
  have d1 : decide (1 ≤ n) = false := by simp; omega
  have d2 : decide (n ≥ 1) = false := by simp; omega
  go_enter Try.func7, Try.ntmps7
  go_wp2_with (go_at_call 22; refine hN.mono ?_; rintro e w' ⟨rfl, rfl⟩)
  clear hN
  go_loopw [75] (fun i wr => ∃ k : Nat, k ≤ 2 ∧ i = .int .i64 k ∧ Below w.heap.size w wr ∧ Two w.heap.size wr) (fun i _ => 2 - (intOf i).toNat)
  case atStart => exact ⟨0, by omega, rfl, ((Below.refl _ _).alloc (Nat.le_refl _) _).alloc (by simp) _, by simp, by simp, by rw [World.cell?_alloc_past _ _ _ (by simp)]; simp⟩
  case round =>
    obtain ⟨k, hk, rfl, hB, T⟩ := hrel
    by_cases h0 : k = 0
    · subst h0
      have ta := T.a
      have N0 : Nob (.pointer none) wr := .inl rfl
      have d0 : decide ((0 : Int) < 2) = true := by decide
      go_wp2_with fail
      refine (add_nob _ _ _ _ N0).mono ?_
      rintro e x1 ⟨rfl, b1⟩
      have N1 := N0.kept b1
      have T1 := T.kept b1
      clear N0 T
      go_wp2_with fail
      refine (swap_nob _ _ _ _ N1).mono ?_
      rintro e x2 ⟨rfl, b2⟩
      have N2 := N1.kept b2
      have T2 := T1.kept b2
      clear N1 T1
      go_wp2_with fail
      refine (raise_nob _ _ _ _ N2).mono ?_
      rintro e x3 ⟨rfl, b3⟩
      have N3 := N2.kept b3
      have T3 := T2.kept b3
      have b := below_tr (below_tr (below_tr hB b1) b2) b3
      clear N2 T2 b1 b2 b3
      go_wp2_with (first
        | (go_at_call 30; refine (get_nob _ _ _ N3).mono ?_; rintro e w' ⟨rfl, rfl⟩)
        | (go_at_call 27; refine (once_nob _ _ _ N3).mono ?_; rintro e w' ⟨rfl, rfl⟩)
        | (go_at_call 24; refine (all_nob _ _ N3).mono ?_; rintro e w' ⟨rfl, rfl⟩)
        | (go_at_call 25; refine (sum_nob _ _ N3).mono ?_; rintro e w' ⟨rfl, rfl⟩)
        | (go_at_call 26; refine (len_nob _ _ N3).mono ?_; rintro e w' ⟨rfl, rfl⟩))
      go_roundw
      case rel => exact ⟨0 + 1, by omega, rfl, b, T3⟩
      case measure => simp [intOf]
    · by_cases h1 : k = 1
      · subst h1
        have tb := T.b
        have N0 : Nob (.pointer (some ⟨w.heap.size, 0, none⟩)) wr := .inr ⟨_, rfl, T.c⟩
        have d0 : decide ((1 : Int) < 2) = true := by decide
        go_wp2_with fail
        refine (add_nob _ _ _ _ N0).mono ?_
        rintro e x1 ⟨rfl, b1⟩
        have N1 := N0.kept b1
        have T1 := T.kept b1
        clear N0 T
        go_wp2_with fail
        refine (swap_nob _ _ _ _ N1).mono ?_
        rintro e x2 ⟨rfl, b2⟩
        have N2 := N1.kept b2
        have T2 := T1.kept b2
        clear N1 T1
        go_wp2_with fail
        refine (raise_nob _ _ _ _ N2).mono ?_
        rintro e x3 ⟨rfl, b3⟩
        have N3 := N2.kept b3
        have T3 := T2.kept b3
        have b := below_tr (below_tr (below_tr hB b1) b2) b3
        clear N2 T2 b1 b2 b3
        go_wp2_with (first
          | (go_at_call 30; refine (get_nob _ _ _ N3).mono ?_; rintro e w' ⟨rfl, rfl⟩)
          | (go_at_call 27; refine (once_nob _ _ _ N3).mono ?_; rintro e w' ⟨rfl, rfl⟩)
          | (go_at_call 24; refine (all_nob _ _ N3).mono ?_; rintro e w' ⟨rfl, rfl⟩)
          | (go_at_call 25; refine (sum_nob _ _ N3).mono ?_; rintro e w' ⟨rfl, rfl⟩)
          | (go_at_call 26; refine (len_nob _ _ N3).mono ?_; rintro e w' ⟨rfl, rfl⟩))
        go_roundw
        case rel => exact ⟨1 + 1, by omega, rfl, b, T3⟩
        case measure => simp [intOf]
      · obtain rfl : k = 2 := by omega
        go_wp2_with (go_at_call 21; refine (lives5 _).mono ?_; rintro e w' ⟨rfl, hl⟩)
        go_ret
        exact ⟨rfl, id (below_tr hB hl)⟩
set_option maxRecDepth 100000 in
set_option maxHeartbeats 4000000 in
theorem ms_high (n i x : Int) (w : World) (h : 16 < n) : Calls Try.prog 7 #[.int .i64 n, .int .i64 i, .int .u64 x] w fun e w' => e = .returned (.bool true) ∧ Below w.heap.size w w' := by
  have hN := new_none n w (.inr h)
  have d0 : decide (n < 1) = false := by simp; omega
  have d1 : decide (16 < n) = true := by simp [h]
  have d2 : decide (1 ≤ n) = true := by simp; omega
  have d3 : decide (n ≥ 1) = true := by simp; omega
  have d4 : decide (n ≤ 16) = false := by simp; omega
  go_enter Try.func7, Try.ntmps7
  go_wp2_with (go_at_call 22; refine hN.mono ?_; rintro e w' ⟨rfl, rfl⟩)
  clear hN
  go_loopw [75] (fun i wr => ∃ k : Nat, k ≤ 2 ∧ i = .int .i64 k ∧ Below w.heap.size w wr ∧ Two w.heap.size wr) (fun i _ => 2 - (intOf i).toNat)
  case atStart => exact ⟨0, by omega, rfl, ((Below.refl _ _).alloc (Nat.le_refl _) _).alloc (by simp) _, by simp, by simp, by rw [World.cell?_alloc_past _ _ _ (by simp)]; simp⟩
  case round =>
    obtain ⟨k, hk, rfl, hB, T⟩ := hrel
    by_cases h0 : k = 0
    · subst h0
      have ta := T.a
      have N0 : Nob (.pointer none) wr := .inl rfl
      have d0 : decide ((0 : Int) < 2) = true := by decide
      go_wp2_with fail
      refine (add_nob _ _ _ _ N0).mono ?_
      rintro e x1 ⟨rfl, b1⟩
      have N1 := N0.kept b1
      have T1 := T.kept b1
      clear N0 T
      go_wp2_with fail
      refine (swap_nob _ _ _ _ N1).mono ?_
      rintro e x2 ⟨rfl, b2⟩
      have N2 := N1.kept b2
      have T2 := T1.kept b2
      clear N1 T1
      go_wp2_with fail
      refine (raise_nob _ _ _ _ N2).mono ?_
      rintro e x3 ⟨rfl, b3⟩
      have N3 := N2.kept b3
      have T3 := T2.kept b3
      have b := below_tr (below_tr (below_tr hB b1) b2) b3
      clear N2 T2 b1 b2 b3
      go_wp2_with (first
        | (go_at_call 30; refine (get_nob _ _ _ N3).mono ?_; rintro e w' ⟨rfl, rfl⟩)
        | (go_at_call 27; refine (once_nob _ _ _ N3).mono ?_; rintro e w' ⟨rfl, rfl⟩)
        | (go_at_call 24; refine (all_nob _ _ N3).mono ?_; rintro e w' ⟨rfl, rfl⟩)
        | (go_at_call 25; refine (sum_nob _ _ N3).mono ?_; rintro e w' ⟨rfl, rfl⟩)
        | (go_at_call 26; refine (len_nob _ _ N3).mono ?_; rintro e w' ⟨rfl, rfl⟩))
      go_roundw
      case rel => exact ⟨0 + 1, by omega, rfl, b, T3⟩
      case measure => simp [intOf]
    · by_cases h1 : k = 1
      · subst h1
        have tb := T.b
        have N0 : Nob (.pointer (some ⟨w.heap.size, 0, none⟩)) wr := .inr ⟨_, rfl, T.c⟩
        have d0 : decide ((1 : Int) < 2) = true := by decide
        go_wp2_with fail
        refine (add_nob _ _ _ _ N0).mono ?_
        rintro e x1 ⟨rfl, b1⟩
        have N1 := N0.kept b1
        have T1 := T.kept b1
        clear N0 T
        go_wp2_with fail
        refine (swap_nob _ _ _ _ N1).mono ?_
        rintro e x2 ⟨rfl, b2⟩
        have N2 := N1.kept b2
        have T2 := T1.kept b2
        clear N1 T1
        go_wp2_with fail
        refine (raise_nob _ _ _ _ N2).mono ?_
        rintro e x3 ⟨rfl, b3⟩
        have N3 := N2.kept b3
        have T3 := T2.kept b3
        have b := below_tr (below_tr (below_tr hB b1) b2) b3
        clear N2 T2 b1 b2 b3
        go_wp2_with (first
          | (go_at_call 30; refine (get_nob _ _ _ N3).mono ?_; rintro e w' ⟨rfl, rfl⟩)
          | (go_at_call 27; refine (once_nob _ _ _ N3).mono ?_; rintro e w' ⟨rfl, rfl⟩)
          | (go_at_call 24; refine (all_nob _ _ N3).mono ?_; rintro e w' ⟨rfl, rfl⟩)
          | (go_at_call 25; refine (sum_nob _ _ N3).mono ?_; rintro e w' ⟨rfl, rfl⟩)
          | (go_at_call 26; refine (len_nob _ _ N3).mono ?_; rintro e w' ⟨rfl, rfl⟩))
        go_roundw
        case rel => exact ⟨1 + 1, by omega, rfl, b, T3⟩
        case measure => simp [intOf]
      · obtain rfl : k = 2 := by omega
        go_wp2_with (go_at_call 21; refine (lives5 _).mono ?_; rintro e w' ⟨rfl, hl⟩)
        go_ret
        exact ⟨rfl, id (below_tr hB hl)⟩
set_option maxRecDepth 100000 in
set_option maxHeartbeats 4000000 in
theorem ms_neg (n : Nat) (i x : Int) (w : World) (hn : 1 ≤ n) (hn' : n ≤ 16) (h : i < 0) : Calls Try.prog 7 #[.int .i64 (n : Int), .int .i64 i, .int .u64 x] w fun e w' => e = .returned (.bool true) ∧ Below w.heap.size w w' := by
  have d0 : decide ((n : Int) < 1) = false := by simp; omega
  have d1 : decide (16 < (n : Int)) = false := by simp; omega
  have d2 : decide (1 ≤ (n : Int)) = true := by simp; omega
  have d3 : decide ((n : Int) ≥ 1) = true := by simp; omega
  have d4 : decide ((n : Int) ≤ 16) = true := by simp; omega
  have c0 : decide (i < 0) = true := by simp [h]
  go_enter Try.func7, Try.ntmps7
  go_wp2_with fail
  refine (new_met n w hn hn').mono ?_
  rintro e w1 ⟨rfl, B1, M1, -⟩
  have l1 : 0 < (List.replicate n (0 : Int)).length := by simp; omega
  have l2 : i < 0 ∨ ((List.replicate n (0 : Int)).length : Int) ≤ i := by simp; omega
  go_wp2_with fail
  refine (add_out w.heap.size _ i x w1 M1 l1 l2).mono ?_
  rintro e w2 ⟨rfl, B2⟩
  have M2 := M1.kept B2
  clear M1
  go_wp2_with (first
    | (go_at_call 30; refine (get_out w.heap.size _ i w2 M2 l2).mono ?_; rintro e w' ⟨rfl, rfl⟩)
    | (go_at_call 27; refine (once_out w.heap.size _ i w2 M2 l1 l2).mono ?_; rintro e w' ⟨rfl, rfl⟩))
  refine (raise_out w.heap.size _ i x w2 M2 l1 l2).mono ?_
  rintro e w3 ⟨rfl, B3⟩
  have B := below_tr (below_tr B1 B2) B3
  clear B1 B2 B3 M2 l1 l2
  go_wp2_with fail
  go_loopw [75] (fun i wr => ∃ k : Nat, k ≤ 2 ∧ i = .int .i64 k ∧ Below w3.heap.size w3 wr ∧ Two w3.heap.size wr) (fun i _ => 2 - (intOf i).toNat)
  case atStart => exact ⟨0, by omega, rfl, ((Below.refl _ _).alloc (Nat.le_refl _) _).alloc (by simp) _, by simp, by simp, by rw [World.cell?_alloc_past _ _ _ (by simp)]; simp⟩
  case round =>
    obtain ⟨k, hk, rfl, hB, T⟩ := hrel
    by_cases h0 : k = 0
    · subst h0
      have ta := T.a
      have N0 : Nob (.pointer none) wr := .inl rfl
      have d0 : decide ((0 : Int) < 2) = true := by decide
      go_wp2_with fail
      refine (add_nob _ _ _ _ N0).mono ?_
      rintro e x1 ⟨rfl, b1⟩
      have N1 := N0.kept b1
      have T1 := T.kept b1
      clear N0 T
      go_wp2_with fail
      refine (swap_nob _ _ _ _ N1).mono ?_
      rintro e x2 ⟨rfl, b2⟩
      have N2 := N1.kept b2
      have T2 := T1.kept b2
      clear N1 T1
      go_wp2_with fail
      refine (raise_nob _ _ _ _ N2).mono ?_
      rintro e x3 ⟨rfl, b3⟩
      have N3 := N2.kept b3
      have T3 := T2.kept b3
      have b := below_tr (below_tr (below_tr hB b1) b2) b3
      clear N2 T2 b1 b2 b3
      go_wp2_with (first
        | (go_at_call 30; refine (get_nob _ _ _ N3).mono ?_; rintro e w' ⟨rfl, rfl⟩)
        | (go_at_call 27; refine (once_nob _ _ _ N3).mono ?_; rintro e w' ⟨rfl, rfl⟩)
        | (go_at_call 24; refine (all_nob _ _ N3).mono ?_; rintro e w' ⟨rfl, rfl⟩)
        | (go_at_call 25; refine (sum_nob _ _ N3).mono ?_; rintro e w' ⟨rfl, rfl⟩)
        | (go_at_call 26; refine (len_nob _ _ N3).mono ?_; rintro e w' ⟨rfl, rfl⟩))
      go_roundw
      case rel => exact ⟨0 + 1, by omega, rfl, b, T3⟩
      case measure => simp [intOf]
    · by_cases h1 : k = 1
      · subst h1
        have tb := T.b
        have N0 : Nob (.pointer (some ⟨w3.heap.size, 0, none⟩)) wr := .inr ⟨_, rfl, T.c⟩
        have d0 : decide ((1 : Int) < 2) = true := by decide
        go_wp2_with fail
        refine (add_nob _ _ _ _ N0).mono ?_
        rintro e x1 ⟨rfl, b1⟩
        have N1 := N0.kept b1
        have T1 := T.kept b1
        clear N0 T
        go_wp2_with fail
        refine (swap_nob _ _ _ _ N1).mono ?_
        rintro e x2 ⟨rfl, b2⟩
        have N2 := N1.kept b2
        have T2 := T1.kept b2
        clear N1 T1
        go_wp2_with fail
        refine (raise_nob _ _ _ _ N2).mono ?_
        rintro e x3 ⟨rfl, b3⟩
        have N3 := N2.kept b3
        have T3 := T2.kept b3
        have b := below_tr (below_tr (below_tr hB b1) b2) b3
        clear N2 T2 b1 b2 b3
        go_wp2_with (first
          | (go_at_call 30; refine (get_nob _ _ _ N3).mono ?_; rintro e w' ⟨rfl, rfl⟩)
          | (go_at_call 27; refine (once_nob _ _ _ N3).mono ?_; rintro e w' ⟨rfl, rfl⟩)
          | (go_at_call 24; refine (all_nob _ _ N3).mono ?_; rintro e w' ⟨rfl, rfl⟩)
          | (go_at_call 25; refine (sum_nob _ _ N3).mono ?_; rintro e w' ⟨rfl, rfl⟩)
          | (go_at_call 26; refine (len_nob _ _ N3).mono ?_; rintro e w' ⟨rfl, rfl⟩))
        go_roundw
        case rel => exact ⟨1 + 1, by omega, rfl, b, T3⟩
        case measure => simp [intOf]
      · obtain rfl : k = 2 := by omega
        go_wp2_with (go_at_call 21; refine (lives5 _).mono ?_; rintro e w' ⟨rfl, hl⟩)
        go_ret
        exact ⟨rfl, below_tr B (below_tr hB hl)⟩
set_option maxRecDepth 100000 in
set_option maxHeartbeats 4000000 in
theorem ms_past (n : Nat) (i x : Int) (w : World) (hn : 1 ≤ n) (hn' : n ≤ 16) (h : (n : Int) ≤ i) : Calls Try.prog 7 #[.int .i64 (n : Int), .int .i64 i, .int .u64 x] w fun e w' => e = .returned (.bool true) ∧ Below w.heap.size w w' := by
  have d0 : decide ((n : Int) < 1) = false := by simp; omega
  have d1 : decide (16 < (n : Int)) = false := by simp; omega
  have d2 : decide (1 ≤ (n : Int)) = true := by simp; omega
  have d3 : decide ((n : Int) ≥ 1) = true := by simp; omega
  have d4 : decide ((n : Int) ≤ 16) = true := by simp; omega
  have c0 : decide (i < 0) = false := by simp; omega
  have c1 : decide ((n : Int) ≤ i) = true := by simp [h]
  have c2 : decide (i ≥ (n : Int)) = true := by simp [h]
  go_enter Try.func7, Try.ntmps7
  go_wp2_with fail
  refine (new_met n w hn hn').mono ?_
  rintro e w1 ⟨rfl, B1, M1, -⟩
  have l1 : 0 < (List.replicate n (0 : Int)).length := by simp; omega
  have l2 : i < 0 ∨ ((List.replicate n (0 : Int)).length : Int) ≤ i := by simp; omega
  go_wp2_with fail
  refine (add_out w.heap.size _ i x w1 M1 l1 l2).mono ?_
  rintro e w2 ⟨rfl, B2⟩
  have M2 := M1.kept B2
  clear M1
  go_wp2_with (first
    | (go_at_call 30; refine (get_out w.heap.size _ i w2 M2 l2).mono ?_; rintro e w' ⟨rfl, rfl⟩)
    | (go_at_call 27; refine (once_out w.heap.size _ i w2 M2 l1 l2).mono ?_; rintro e w' ⟨rfl, rfl⟩))
  refine (raise_out w.heap.size _ i x w2 M2 l1 l2).mono ?_
  rintro e w3 ⟨rfl, B3⟩
  have B := below_tr (below_tr B1 B2) B3
  clear B1 B2 B3 M2 l1 l2
  go_wp2_with fail
  go_loopw [75] (fun i wr => ∃ k : Nat, k ≤ 2 ∧ i = .int .i64 k ∧ Below w3.heap.size w3 wr ∧ Two w3.heap.size wr) (fun i _ => 2 - (intOf i).toNat)
  case atStart => exact ⟨0, by omega, rfl, ((Below.refl _ _).alloc (Nat.le_refl _) _).alloc (by simp) _, by simp, by simp, by rw [World.cell?_alloc_past _ _ _ (by simp)]; simp⟩
  case round =>
    obtain ⟨k, hk, rfl, hB, T⟩ := hrel
    by_cases h0 : k = 0
    · subst h0
      have ta := T.a
      have N0 : Nob (.pointer none) wr := .inl rfl
      have d0 : decide ((0 : Int) < 2) = true := by decide
      go_wp2_with fail
      refine (add_nob _ _ _ _ N0).mono ?_
      rintro e x1 ⟨rfl, b1⟩
      have N1 := N0.kept b1
      have T1 := T.kept b1
      clear N0 T
      go_wp2_with fail
      refine (swap_nob _ _ _ _ N1).mono ?_
      rintro e x2 ⟨rfl, b2⟩
      have N2 := N1.kept b2
      have T2 := T1.kept b2
      clear N1 T1
      go_wp2_with fail
      refine (raise_nob _ _ _ _ N2).mono ?_
      rintro e x3 ⟨rfl, b3⟩
      have N3 := N2.kept b3
      have T3 := T2.kept b3
      have b := below_tr (below_tr (below_tr hB b1) b2) b3
      clear N2 T2 b1 b2 b3
      go_wp2_with (first
        | (go_at_call 30; refine (get_nob _ _ _ N3).mono ?_; rintro e w' ⟨rfl, rfl⟩)
        | (go_at_call 27; refine (once_nob _ _ _ N3).mono ?_; rintro e w' ⟨rfl, rfl⟩)
        | (go_at_call 24; refine (all_nob _ _ N3).mono ?_; rintro e w' ⟨rfl, rfl⟩)
        | (go_at_call 25; refine (sum_nob _ _ N3).mono ?_; rintro e w' ⟨rfl, rfl⟩)
        | (go_at_call 26; refine (len_nob _ _ N3).mono ?_; rintro e w' ⟨rfl, rfl⟩))
      go_roundw
      case rel => exact ⟨0 + 1, by omega, rfl, b, T3⟩
      case measure => simp [intOf]
    · by_cases h1 : k = 1
      · subst h1
        have tb := T.b
        have N0 : Nob (.pointer (some ⟨w3.heap.size, 0, none⟩)) wr := .inr ⟨_, rfl, T.c⟩
        have d0 : decide ((1 : Int) < 2) = true := by decide
        go_wp2_with fail
        refine (add_nob _ _ _ _ N0).mono ?_
        rintro e x1 ⟨rfl, b1⟩
        have N1 := N0.kept b1
        have T1 := T.kept b1
        clear N0 T
        go_wp2_with fail
        refine (swap_nob _ _ _ _ N1).mono ?_
        rintro e x2 ⟨rfl, b2⟩
        have N2 := N1.kept b2
        have T2 := T1.kept b2
        clear N1 T1
        go_wp2_with fail
        refine (raise_nob _ _ _ _ N2).mono ?_
        rintro e x3 ⟨rfl, b3⟩
        have N3 := N2.kept b3
        have T3 := T2.kept b3
        have b := below_tr (below_tr (below_tr hB b1) b2) b3
        clear N2 T2 b1 b2 b3
        go_wp2_with (first
          | (go_at_call 30; refine (get_nob _ _ _ N3).mono ?_; rintro e w' ⟨rfl, rfl⟩)
          | (go_at_call 27; refine (once_nob _ _ _ N3).mono ?_; rintro e w' ⟨rfl, rfl⟩)
          | (go_at_call 24; refine (all_nob _ _ N3).mono ?_; rintro e w' ⟨rfl, rfl⟩)
          | (go_at_call 25; refine (sum_nob _ _ N3).mono ?_; rintro e w' ⟨rfl, rfl⟩)
          | (go_at_call 26; refine (len_nob _ _ N3).mono ?_; rintro e w' ⟨rfl, rfl⟩))
        go_roundw
        case rel => exact ⟨1 + 1, by omega, rfl, b, T3⟩
        case measure => simp [intOf]
      · obtain rfl : k = 2 := by omega
        go_wp2_with (go_at_call 21; refine (lives5 _).mono ?_; rintro e w' ⟨rfl, hl⟩)
        go_ret
        exact ⟨rfl, below_tr B (below_tr hB hl)⟩
set_option maxRecDepth 100000 in
set_option maxHeartbeats 4000000 in
theorem ms_ok (n i : Nat) (x : Int) (w : World) (hn : 1 ≤ n) (hn' : n ≤ 16) (hi : i < n) (h0 : 0 ≤ x) (h : x ≤ TOP) : Calls Try.prog 7 #[.int .i64 (n : Int), .int .i64 (i : Int), .int .u64 x] w fun e w' => e = .returned (.bool true) ∧ Below w.heap.size w w' := by
  have d0 : decide ((n : Int) < 1) = false := by simp; omega
  have d1 : decide (16 < (n : Int)) = false := by simp; omega
  have d2 : decide (1 ≤ (n : Int)) = true := by simp; omega
  have d3 : decide ((n : Int) ≥ 1) = true := by simp; omega
  have d4 : decide ((n : Int) ≤ 16) = true := by simp; omega
  have c0 : decide ((i : Int) < 0) = false := by simp
  have c1 : decide ((n : Int) ≤ (i : Int)) = false := by simp; omega
  have c2 : decide ((i : Int) ≥ (n : Int)) = false := by simp; omega
  have c3 : decide (n ≤ i) = false := by simp; omega
  go_enter Try.func7, Try.ntmps7
  go_wp2_with fail
  refine (new_met n w hn hn').mono ?_
  rintro e w1 ⟨rfl, B1, M1, -⟩
  have l1 : i < (List.replicate n (0 : Int)).length := by simp [hi]
  have l2 : (List.replicate n (0 : Int)).getD i 0 = 0 := by simp [hi]
  have hA := add_ok w.heap.size _ i x 0 w1 M1 l1 l2 h0 (by omega)
  clear l1 l2 h h0
  go_wp2_with fail
  refine hA.mono ?_
  rintro e w2 ⟨rfl, O2, -⟩
  have B := below_only B1 O2 B1.size
  clear hA M1
  go_wp2_with fail
  go_loopw [75] (fun i wr => ∃ k : Nat, k ≤ 2 ∧ i = .int .i64 k ∧ Below w2.heap.size w2 wr ∧ Two w2.heap.size wr) (fun i _ => 2 - (intOf i).toNat)
  case atStart => exact ⟨0, by omega, rfl, ((Below.refl _ _).alloc (Nat.le_refl _) _).alloc (by simp) _, by simp, by simp, by rw [World.cell?_alloc_past _ _ _ (by simp)]; simp⟩
  case round =>
    obtain ⟨k, hk, rfl, hB, T⟩ := hrel
    by_cases h0 : k = 0
    · subst h0
      have ta := T.a
      have N0 : Nob (.pointer none) wr := .inl rfl
      have d0 : decide ((0 : Int) < 2) = true := by decide
      go_wp2_with fail
      refine (add_nob _ _ _ _ N0).mono ?_
      rintro e x1 ⟨rfl, b1⟩
      have N1 := N0.kept b1
      have T1 := T.kept b1
      clear N0 T
      go_wp2_with fail
      refine (swap_nob _ _ _ _ N1).mono ?_
      rintro e x2 ⟨rfl, b2⟩
      have N2 := N1.kept b2
      have T2 := T1.kept b2
      clear N1 T1
      go_wp2_with fail
      refine (raise_nob _ _ _ _ N2).mono ?_
      rintro e x3 ⟨rfl, b3⟩
      have N3 := N2.kept b3
      have T3 := T2.kept b3
      have b := below_tr (below_tr (below_tr hB b1) b2) b3
      clear N2 T2 b1 b2 b3
      go_wp2_with (first
        | (go_at_call 30; refine (get_nob _ _ _ N3).mono ?_; rintro e w' ⟨rfl, rfl⟩)
        | (go_at_call 27; refine (once_nob _ _ _ N3).mono ?_; rintro e w' ⟨rfl, rfl⟩)
        | (go_at_call 24; refine (all_nob _ _ N3).mono ?_; rintro e w' ⟨rfl, rfl⟩)
        | (go_at_call 25; refine (sum_nob _ _ N3).mono ?_; rintro e w' ⟨rfl, rfl⟩)
        | (go_at_call 26; refine (len_nob _ _ N3).mono ?_; rintro e w' ⟨rfl, rfl⟩))
      go_roundw
      case rel => exact ⟨0 + 1, by omega, rfl, b, T3⟩
      case measure => simp [intOf]
    · by_cases h1 : k = 1
      · subst h1
        have tb := T.b
        have N0 : Nob (.pointer (some ⟨w2.heap.size, 0, none⟩)) wr := .inr ⟨_, rfl, T.c⟩
        have d0 : decide ((1 : Int) < 2) = true := by decide
        go_wp2_with fail
        refine (add_nob _ _ _ _ N0).mono ?_
        rintro e x1 ⟨rfl, b1⟩
        have N1 := N0.kept b1
        have T1 := T.kept b1
        clear N0 T
        go_wp2_with fail
        refine (swap_nob _ _ _ _ N1).mono ?_
        rintro e x2 ⟨rfl, b2⟩
        have N2 := N1.kept b2
        have T2 := T1.kept b2
        clear N1 T1
        go_wp2_with fail
        refine (raise_nob _ _ _ _ N2).mono ?_
        rintro e x3 ⟨rfl, b3⟩
        have N3 := N2.kept b3
        have T3 := T2.kept b3
        have b := below_tr (below_tr (below_tr hB b1) b2) b3
        clear N2 T2 b1 b2 b3
        go_wp2_with (first
          | (go_at_call 30; refine (get_nob _ _ _ N3).mono ?_; rintro e w' ⟨rfl, rfl⟩)
          | (go_at_call 27; refine (once_nob _ _ _ N3).mono ?_; rintro e w' ⟨rfl, rfl⟩)
          | (go_at_call 24; refine (all_nob _ _ N3).mono ?_; rintro e w' ⟨rfl, rfl⟩)
          | (go_at_call 25; refine (sum_nob _ _ N3).mono ?_; rintro e w' ⟨rfl, rfl⟩)
          | (go_at_call 26; refine (len_nob _ _ N3).mono ?_; rintro e w' ⟨rfl, rfl⟩))
        go_roundw
        case rel => exact ⟨1 + 1, by omega, rfl, b, T3⟩
        case measure => simp [intOf]
      · obtain rfl : k = 2 := by omega
        go_wp2_with (go_at_call 21; refine (lives5 _).mono ?_; rintro e w' ⟨rfl, hl⟩)
        go_ret
        exact ⟨rfl, below_tr B (below_tr hB hl)⟩
set_option maxRecDepth 100000 in
set_option maxHeartbeats 4000000 in
theorem ms_big (n i : Nat) (x : Int) (w : World) (hn : 1 ≤ n) (hn' : n ≤ 16) (hi : i < n) (h0 : 0 ≤ x) (h : TOP < x) : Calls Try.prog 7 #[.int .i64 (n : Int), .int .i64 (i : Int), .int .u64 x] w fun e w' => e = .returned (.bool true) ∧ Below w.heap.size w w' := by
  have d0 : decide ((n : Int) < 1) = false := by simp; omega
  have d1 : decide (16 < (n : Int)) = false := by simp; omega
  have d2 : decide (1 ≤ (n : Int)) = true := by simp; omega
  have d3 : decide ((n : Int) ≥ 1) = true := by simp; omega
  have d4 : decide ((n : Int) ≤ 16) = true := by simp; omega
  have c0 : decide ((i : Int) < 0) = false := by simp
  have c1 : decide ((n : Int) ≤ (i : Int)) = false := by simp; omega
  have c2 : decide ((i : Int) ≥ (n : Int)) = false := by simp; omega
  have c3 : decide (n ≤ i) = false := by simp; omega
  go_enter Try.func7, Try.ntmps7
  go_wp2_with fail
  refine (new_met n w hn hn').mono ?_
  rintro e w1 ⟨rfl, B1, M1, -⟩
  have l1 : i < (List.replicate n (0 : Int)).length := by simp [hi]
  have l2 : (List.replicate n (0 : Int)).getD i 0 = 0 := by simp [hi]
  have hA := add_big w.heap.size _ i x 0 w1 M1 l1 l2 h0 (by omega)
  clear l1 l2 h h0
  go_wp2_with fail
  refine hA.mono ?_
  rintro e w2 ⟨rfl, B2⟩
  have B := below_tr B1 B2
  clear hA M1
  go_wp2_with fail
  go_loopw [75] (fun i wr => ∃ k : Nat, k ≤ 2 ∧ i = .int .i64 k ∧ Below w2.heap.size w2 wr ∧ Two w2.heap.size wr) (fun i _ => 2 - (intOf i).toNat)
  case atStart => exact ⟨0, by omega, rfl, ((Below.refl _ _).alloc (Nat.le_refl _) _).alloc (by simp) _, by simp, by simp, by rw [World.cell?_alloc_past _ _ _ (by simp)]; simp⟩
  case round =>
    obtain ⟨k, hk, rfl, hB, T⟩ := hrel
    by_cases h0 : k = 0
    · subst h0
      have ta := T.a
      have N0 : Nob (.pointer none) wr := .inl rfl
      have d0 : decide ((0 : Int) < 2) = true := by decide
      go_wp2_with fail
      refine (add_nob _ _ _ _ N0).mono ?_
      rintro e x1 ⟨rfl, b1⟩
      have N1 := N0.kept b1
      have T1 := T.kept b1
      clear N0 T
      go_wp2_with fail
      refine (swap_nob _ _ _ _ N1).mono ?_
      rintro e x2 ⟨rfl, b2⟩
      have N2 := N1.kept b2
      have T2 := T1.kept b2
      clear N1 T1
      go_wp2_with fail
      refine (raise_nob _ _ _ _ N2).mono ?_
      rintro e x3 ⟨rfl, b3⟩
      have N3 := N2.kept b3
      have T3 := T2.kept b3
      have b := below_tr (below_tr (below_tr hB b1) b2) b3
      clear N2 T2 b1 b2 b3
      go_wp2_with (first
        | (go_at_call 30; refine (get_nob _ _ _ N3).mono ?_; rintro e w' ⟨rfl, rfl⟩)
        | (go_at_call 27; refine (once_nob _ _ _ N3).mono ?_; rintro e w' ⟨rfl, rfl⟩)
        | (go_at_call 24; refine (all_nob _ _ N3).mono ?_; rintro e w' ⟨rfl, rfl⟩)
        | (go_at_call 25; refine (sum_nob _ _ N3).mono ?_; rintro e w' ⟨rfl, rfl⟩)
        | (go_at_call 26; refine (len_nob _ _ N3).mono ?_; rintro e w' ⟨rfl, rfl⟩))
      go_roundw
      case rel => exact ⟨0 + 1, by omega, rfl, b, T3⟩
      case measure => simp [intOf]
    · by_cases h1 : k = 1
      · subst h1
        have tb := T.b
        have N0 : Nob (.pointer (some ⟨w2.heap.size, 0, none⟩)) wr := .inr ⟨_, rfl, T.c⟩
        have d0 : decide ((1 : Int) < 2) = true := by decide
        go_wp2_with fail
        refine (add_nob _ _ _ _ N0).mono ?_
        rintro e x1 ⟨rfl, b1⟩
        have N1 := N0.kept b1
        have T1 := T.kept b1
        clear N0 T
        go_wp2_with fail
        refine (swap_nob _ _ _ _ N1).mono ?_
        rintro e x2 ⟨rfl, b2⟩
        have N2 := N1.kept b2
        have T2 := T1.kept b2
        clear N1 T1
        go_wp2_with fail
        refine (raise_nob _ _ _ _ N2).mono ?_
        rintro e x3 ⟨rfl, b3⟩
        have N3 := N2.kept b3
        have T3 := T2.kept b3
        have b := below_tr (below_tr (below_tr hB b1) b2) b3
        clear N2 T2 b1 b2 b3
        go_wp2_with (first
          | (go_at_call 30; refine (get_nob _ _ _ N3).mono ?_; rintro e w' ⟨rfl, rfl⟩)
          | (go_at_call 27; refine (once_nob _ _ _ N3).mono ?_; rintro e w' ⟨rfl, rfl⟩)
          | (go_at_call 24; refine (all_nob _ _ N3).mono ?_; rintro e w' ⟨rfl, rfl⟩)
          | (go_at_call 25; refine (sum_nob _ _ N3).mono ?_; rintro e w' ⟨rfl, rfl⟩)
          | (go_at_call 26; refine (len_nob _ _ N3).mono ?_; rintro e w' ⟨rfl, rfl⟩))
        go_roundw
        case rel => exact ⟨1 + 1, by omega, rfl, b, T3⟩
        case measure => simp [intOf]
      · obtain rfl : k = 2 := by omega
        go_wp2_with (go_at_call 21; refine (lives5 _).mono ?_; rintro e w' ⟨rfl, hl⟩)
        go_ret
        exact ⟨rfl, below_tr B (below_tr hB hl)⟩
theorem msizes_any (n i x : Int) (w : World) (h0 : 0 ≤ x) : Calls Try.prog 7 #[.int .i64 n, .int .i64 i, .int .u64 x] w fun e w' => e = .returned (.bool true) ∧ Below w.heap.size w w' := by
  by_cases h1 : n < 1
  · exact ms_low n i x w h1
  · by_cases h2 : 16 < n
    · exact ms_high n i x w h2
    · obtain ⟨m, rfl⟩ := nat_of (i := n) (by omega)
      by_cases h3 : i < 0
      · exact ms_neg m i x w (by omega) (by omega) h3
      · by_cases h4 : (m : Int) ≤ i
        · exact ms_past m i x w (by omega) (by omega) h4
        · obtain ⟨j, rfl⟩ := nat_of (i := i) (by omega)
          by_cases h5 : x ≤ TOP
          · exact ms_ok m j x w (by omega) (by omega) (by omega) h0 h5
          · exact ms_big m j x w (by omega) (by omega) (by omega) h0 (by omega)
end Go.Proofs.Ytfakgemifbgafaa

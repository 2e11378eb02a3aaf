/- MeterOnce. -/
import Derived.Test.YtfakgemifbgafaaMtH
import Derived.Deep.OwnRows
namespace Go.Proofs.Ytfakgemifbgafaa
open Go.RowKit

/-- 1 of what is met, 0 of what isn't. -/
def once01 (ms : List Bool) : List Int := ms.map fun b => if b then 1 else 0
theorem once01_length (ms : List Bool) : (once01 ms).length = ms.length := by simp [once01]
theorem once01_set (ms : List Bool) (j : Nat) : (once01 ms).set j 1 = once01 (ms.set j true) := by simp [once01, List.map_set]
theorem once01_at (ms : List Bool) (j : Nat) (h : j < ms.length) (b : Bool) (hb : ms.getD j false = b) : (once01 ms).getD j 0 = if b then 1 else 0 := by
  subst hb
  simp [once01, h]

theorem getD_set_same (l : List Int) (q : Nat) (x : Int) (h : q < l.length) : (l.set q x).getD q 0 = x := by simp [h]

/-- A meter and the row of what was met. -/
structure Ons (N Q n : Nat) (ms : List Bool) (w : World) : Prop where
  len : ms.length = n
  met : Met N (once01 ms) w
  row : ∀ i, i < n → w.cell? ⟨Q, i, none⟩ = some (.bool (ms.getD i false))
  free : ∀ i, w.frozen? ⟨Q, i, none⟩ = false
theorem Ons.kept {N Q n : Nat} {ms : List Bool} {w w' : World} (T : Ons N Q n ms w) (hQ : Q < w.heap.size) (hne : ¬ Q = N) (O : Only (· = N) w w') (M : Met N (once01 ms) w') : Ons N Q n ms w' :=
  ⟨T.len, M, fun i hi => (O.cell (p := ⟨Q, i, none⟩) hQ hne).trans (T.row i hi), fun i => (World.frozen?_of_block (a := ⟨Q, i, none⟩) (O.block Q hQ hne)).trans (T.free i)⟩
theorem Ons.set {N Q n : Nat} {ms : List Bool} {w w' : World} (T : Ons N Q n ms w) (hQ : Q < w.heap.size) (hne : ¬ Q = N) (O : Only (· = N) w w') (j : Nat) (hj : j < n) (M : Met N ((once01 ms).set j 1) w') :
    Ons N Q n (ms.set j true) (w'.setCell ⟨Q, j, none⟩ (.bool true)) := by
  have r : ∀ i, i < n → w'.cell? ⟨Q, i, none⟩ = some (.bool (ms.getD i false)) := fun i hi => (O.cell (p := ⟨Q, i, none⟩) hQ hne).trans (T.row i hi)
  refine ⟨by simpa using T.len, ?_, fun i hi => ?_, fun i => ?_⟩
  · rw [← once01_set]
    exact M.of_block (Below.heap_setCell _ _ _ _ (fun e => hne (by first | exact e | exact e.symm)))
  · by_cases h : i = j
    · subst h
      rw [World.cell?_setCell_same _ _ _ (r i hi)]
      have := T.len
      simp [this, hi]
    · refine (World.cell?_setCell_other _ ⟨Q, j, none⟩ ⟨Q, i, none⟩ _ (fun e => by injection e with e1 e2; omega)).trans ?_
      rw [r i hi]
      simp [List.getElem?_set, Ne.symm h]
  · have := (World.frozen?_of_block (a := ⟨Q, i, none⟩) (O.block Q hQ hne)).trans (T.free i)
    simpa using this
theorem bools_info : (Try.prog.info? 4).map (fun i => (i.zero, i.size, i.bytes)) = some (some (.bool false), 1, 1) := by kernel_rfl
theorem made_at (v : Value) (n i : Nat) (hi : i < n) : (madeCells #[v] n)[i]? = some v := by simp [madeCells, hi, Nat.mod_one]
theorem replicate01 (n : Nat) : once01 (List.replicate n false) = List.replicate n 0 := by simp [once01]
theorem ons_new (N n : Nat) (w1 : World) (hQ : w1.heap.size = N + 1) (M : Met N (List.replicate n 0) w1) :
    Ons N (N + 1) n (List.replicate n false) (w1.alloc (.cells (madeCells #[.bool false] n) 4)) := by
  refine ⟨by simp, ?_, fun i hi => ?_, fun i => ?_⟩
  · rw [replicate01]; exact M.kept (alloc_b _ _)
  · rw [World.cell?_alloc_at _ _ _ _ hQ.symm, made_at _ _ _ hi]
    simp [hi]
  · rw [frozen?_alloc_cells]
    have : w1.heap[N + 1]? = none := by simp [hQ]
    simp [World.frozen?, this]

set_option maxRecDepth 100000 in
set_option maxHeartbeats 1600000 in
theorem monce_big (n : Int) (a : Option Addr) (len cap : Nat) (w : World) (hm : len ≤ 9223372036854775807) (h : n < 1 ∨ 16 < n ∨ 200 < len) :
    Calls Try.prog 6 #[.int .i64 n, .slice a len cap] w fun e w' => e = .returned (.bool true) ∧ Below w.heap.size w w' := by
  by_cases h1 : n < 1
  · have d1 : decide (n < 1) = true := by simp [h1]
    go_enter Try.func6, Try.ntmps6
    go_wp2_with (go_at_call 21; refine (lives5 _).mono ?_; rintro e w' ⟨rfl, hl⟩)
    go_ret
    exact ⟨rfl, hl⟩
  · have d1 : decide (n < 1) = false := by simp; omega
    by_cases h2 : 16 < n
    · have d2 : decide (16 < n) = true := by simp [h2]
      go_enter Try.func6, Try.ntmps6
      go_wp2_with (go_at_call 21; refine (lives5 _).mono ?_; rintro e w' ⟨rfl, hl⟩)
      go_ret
      exact ⟨rfl, hl⟩
    · have d2 : decide (16 < n) = false := by simp; omega
      have d3 : decide (200 < (len : Int)) = true := by simp; omega
      go_enter Try.func6, Try.ntmps6
      go_wp2_with (go_at_call 21; refine (lives5 _).mono ?_; rintro e w' ⟨rfl, hl⟩)
      go_ret
      exact ⟨rfl, hl⟩

set_option maxRecDepth 100000 in
set_option maxHeartbeats 4000000 in
theorem monce_ok (n : Nat) (a : Option Addr) (len cap : Nat) (z : Nat → Int) (w : World) (hn : 1 ≤ n) (hn' : n ≤ 16) (hl : len ≤ 200)
    (hc : 0 < len → ∃ ab ao, a = some ⟨ab, ao, none⟩ ∧ ab < w.heap.size ∧ ∀ k, k < len → w.cell? ⟨ab, ao + k, none⟩ = some (.int .i64 (z k))) :
    Calls Try.prog 6 #[.int .i64 (n : Int), .slice a len cap] w fun e w' => e = .returned (.bool true) ∧ Below w.heap.size w w' := by
  have d1 : decide ((n : Int) < 1) = false := by simp; omega
  have d2 : decide (16 < (n : Int)) = false := by simp; omega
  have d3 : decide (200 < (len : Int)) = false := by simp; omega
  have hmb := run_make_row' (P := Try.prog) 50 4 (.bool false) 1 Try.underlying50 bools_info rfl .i64 .i64 n (by omega) (by omega)
  go_enter Try.func6, Try.ntmps6
  go_wp2_with fail
  refine (new_met n w hn hn').mono ?_
  rintro e w1 ⟨rfl, B1, M1, S1⟩
  have T1 := ons_new w.heap.size n w1 S1 M1
  have B2 : Below w.heap.size w (w1.alloc (.cells (madeCells #[.bool false] n) 4)) := B1.alloc B1.size _
  have Q2 : w.heap.size + 1 < (w1.alloc (.cells (madeCells #[.bool false] n) 4)).heap.size := by simp [S1]
  clear M1
  go_wp2_with fail
  have HS := Lib.hid S1
  clear S1 B1
  go_loopw [29] (fun i wr => ∃ k : Nat, k ≤ len ∧ i = .int .i64 k ∧ Below w.heap.size w wr ∧ w.heap.size + 1 < wr.heap.size ∧ ∃ ms, Ons w.heap.size (w.heap.size + 1) n ms wr) (fun i _ => len - (intOf i).toNat)
  case atStart => exact ⟨0, Nat.zero_le _, rfl, B2, Q2, _, T1⟩
  case round =>
    clear T1 B2 Q2
    obtain ⟨k, hk, rfl, hB, hQ, ms, T⟩ := hrel
    by_cases hlt : k < len
    · obtain ⟨ab, ao, rfl, hab, hcs⟩ := hc (by omega)
      have hx := (hB.cell (p := ⟨ab, ao + k, none⟩) hab).trans (hcs k hlt)
      obtain ⟨x, hxe⟩ : ∃ x, z k = x := ⟨_, rfl⟩
      rw [hxe] at hx
      have k0 : (0 : Int) ≤ (k : Int) := by omega
      have kl : (k : Int) < (len : Int) := by omega
      have d4 : decide ((k : Int) < (len : Int)) = true := by simp [hlt]
      have l0 : 0 < (once01 ms).length := by rw [once01_length, T.len]; omega
      clear hcs hc hxe hab
      by_cases hin : 0 ≤ x ∧ x < (n : Int)
      · obtain ⟨j, rfl⟩ := nat_of hin.1
        have hj : j < n := by omega
        have c1 : decide ((j : Int) ≥ 0) = true := by simp
        have c2 : decide (0 ≤ (j : Int)) = true := by simp
        have c3 : decide ((j : Int) < (n : Int)) = true := by simp [hj]
        have j0 : (0 : Int) ≤ (j : Int) := by omega
        have jn : (j : Int) < (n : Int) := by omega
        have hr := T.row j hj
        obtain ⟨b, hb⟩ : ∃ b, ms.getD j false = b := ⟨_, rfl⟩
        have ha := once01_at ms j (by rw [T.len]; exact hj) b hb
        have hjl : j < (once01 ms).length := by rw [once01_length, T.len]; exact hj
        rw [hb] at hr
        clear hin hb
        cases b
        · have hO := once_yes w.heap.size (once01 ms) j 0 wr T.met hjl ha rfl
          have hz := T.free j
          clear ha hjl
          go_wp2_with fail
          refine hO.mono ?_
          rintro e w2 ⟨rfl, O2, M2, S2⟩
          have T2 := T.set hQ (by omega) O2 j hj M2
          have hr2 := (O2.cell (p := ⟨w.heap.size + 1, j, none⟩) hQ (by simp)).trans hr
          have hz2 := (World.frozen?_of_block (a := ⟨w.heap.size + 1, j, none⟩) (O2.block (w.heap.size + 1) hQ (by omega))).trans hz
          have B2 : Below w.heap.size w (w2.setCell ⟨w.heap.size + 1, j, none⟩ (.bool true)) := (below_only hB O2 hB.size).setCell (by simp) _
          have Q2 : w.heap.size + 1 < (w2.setCell ⟨w.heap.size + 1, j, none⟩ (.bool true)).heap.size := by simp [S2, hQ]
          clear hO hr hz O2 M2 S2 T hB hQ l0
          go_wp2_with fail
          go_roundw
          case rel => exact ⟨k + 1, by omega, by go_num, B2, Q2, _, T2⟩
          case measure => simp [intOf]; omega
        · have hO := once_no w.heap.size (once01 ms) j 1 wr T.met hjl ha (by decide)
          clear ha hjl
          go_wp2_with fail
          refine hO.mono ?_
          rintro e w2 ⟨rfl, O2, M2, S2⟩
          have T2 := T.kept hQ (by omega) O2 M2
          have B2 := below_only hB O2 hB.size
          have Q2 : w.heap.size + 1 < w2.heap.size := by rw [S2]; exact hQ
          clear hO hr O2 M2 S2 T hB hQ l0
          go_wp2_with fail
          go_roundw
          case rel => exact ⟨k + 1, by omega, by go_num, B2, Q2, _, T2⟩
          case measure => simp [intOf]; omega
      · have hO := once_out w.heap.size (once01 ms) x wr T.met l0 (by rw [once01_length, T.len]; omega)
        clear l0
        by_cases hneg : x < 0
        · have c1 : decide (x ≥ 0) = false := by simp; omega
          have c2 : decide (0 ≤ x) = false := by simp; omega
          go_wp2_with (go_at_call 27; refine hO.mono ?_; rintro e w' ⟨rfl, rfl⟩)
          go_roundw
          case rel => exact ⟨k + 1, by omega, by go_num, hB, hQ, _, T⟩
          case measure => simp [intOf]; omega
        · have c1 : decide (x ≥ 0) = true := by simp; omega
          have c2 : decide (0 ≤ x) = true := by simp; omega
          have c3 : decide (x < (n : Int)) = false := by simp; omega
          go_wp2_with (go_at_call 27; refine hO.mono ?_; rintro e w' ⟨rfl, rfl⟩)
          go_roundw
          case rel => exact ⟨k + 1, by omega, by go_num, hB, hQ, _, T⟩
          case measure => simp [intOf]; omega
    · obtain rfl : k = len := by omega
      have T0 := T.met
      have L0 : (once01 ms).length = n := by rw [once01_length, T.len]
      clear T hQ hc hlt
      obtain ⟨wo, rfl⟩ : ∃ wo : World, wo = wr := ⟨_, rfl⟩
      go_wp2_with fail
      go_loopw [10, 58] (fun _ i wr => ∃ q : Nat, q ≤ n ∧ i = .int .i64 q ∧ Below w.heap.size w wr ∧ ∃ vs, vs.length = n ∧ Met w.heap.size vs wr) (fun _ i _ => n - (intOf i).toNat)
      case atStart => exact ⟨0, Nat.zero_le _, rfl, hB, _, L0, T0⟩
      case round =>
        clear T0 L0 hB
        obtain ⟨q, hq, rfl, hB, vs, hv, M⟩ := hrel
        by_cases hlt : q < n
        · have d4 : decide ((q : Int) < (n : Int)) = true := by simp [hlt]
          have hO1 := swap_ok w.heap.size vs q 0 _ wr M (by omega) rfl (by decide) (by unfold TOP; decide)
          go_wp2_with fail
          refine hO1.mono ?_
          rintro e w2 ⟨rfl, O2, M2, -⟩
          have B2 := below_only hB O2 hB.size
          clear hO1 O2 hB M
          go_wp2_with fail
          refine (once_yes w.heap.size (vs.set q 0) q 0 w2 M2 (by simp; omega) (getD_set_same _ _ _ (by omega)) rfl).mono ?_
          rintro e w3 ⟨rfl, O3, M3, -⟩
          have B3 := below_only B2 O3 B2.size
          clear O3 B2 M2
          go_wp2_with fail
          refine (once_no w.heap.size ((vs.set q 0).set q 1) q 1 w3 M3 (by simp; omega) (getD_set_same _ _ _ (by simp; omega)) (by decide)).mono ?_
          rintro e w4 ⟨rfl, O4, M4, -⟩
          have B4 := below_only B3 O4 B3.size
          clear O4 B3 M3
          go_wp2_with fail
          go_roundw
          case rel => exact ⟨q + 1, by omega, by go_num, B4, _, by simpa using hv, M4⟩
          case measure => simp [intOf]; omega
        · obtain rfl : q = n := by omega
          go_wp2_with (go_at_call 21; refine (lives5 _).mono ?_; rintro e w' ⟨rfl, hl⟩)
          go_ret
          exact ⟨rfl, below_tr hB hl⟩
end Go.Proofs.Ytfakgemifbgafaa

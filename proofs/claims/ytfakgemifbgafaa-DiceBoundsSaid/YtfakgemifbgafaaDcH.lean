/- The walk of DiceBounds. -/
import Derived.Test.YtfakgemifbgafaaDcG
namespace Go.Proofs.Ytfakgemifbgafaa
open Go.RowKit

theorem nat_of' {i : Int} (h : 0 ≤ i) : ∃ k : Nat, i = (k : Int) := ⟨i.toNat, by omega⟩

set_option maxRecDepth 100000 in
set_option maxHeartbeats 4000000 in
theorem dbounds_00 (a : Option Addr) (len cap n many : Nat) (low high : Int) (bs : List Nat) (w : World) (hb : RB w (.slice a len cap) bs) (hlen : len ≤ 3000) (hn : n < 18446744073709551616) (hmany : many < 256)
    (l0 : -9223372036854775808 ≤ low) (h1 : high ≤ 9223372036854775807) (hz : n = 0) (hh : low ≤ high) :
    Calls Try.prog 9 #[.slice a len cap, .int .u64 (n : Int), .int .i64 low, .int .i64 high, .int .u8 (many : Int)] w fun e w' => e = .returned (.bool true) ∧ Below w.heap.size w w' := by
  have d1 : decide (3000 < (len : Int)) = false := by simp; omega
  have hmb := run_make_row' (P := Try.prog) 50 4 (.bool false) 1 Try.underlying50 bools_info' rfl .i64 .i64 many (by omega) (by omega)
  have hmb' := run_make_row' (P := Try.prog) 50 4 (.bool false) 1 Try.underlying50 bools_info' rfl .u8 .u8 many (by omega) (by omega)
  have m0 : (0 : Int) ≤ (many : Int) := by omega
  have m1 : (many : Int) ≤ 255 := by omega
  subst hz
  have e1 : decide (low ≤ high) = true := by simp [hh]
  have e2 : decide (high ≥ low) = true := by simp [hh]
  have e3 : decide (high < low) = false := by simp; omega
  go_enter Try.func9, Try.ntmps9
  go_wp2_with fail
  refine (lives6 w).mono ?_
  rintro e w1 ⟨rfl, B1⟩
  have hb1 := hb.kept B1
  go_wp2_with fail
  refine (new_dice _ bs w1 hb1).mono ?_
  rintro e w2 ⟨b, v, rfl, hb0, hbl, B2, c0, c1, r, ho, f⟩
  have D : Dic (· = b) b bs w2 := fresh_dic (· = b) rfl (fun k _ h => by omega) hbl c0 c1 r ho f
  have BB : Below w.heap.size w w2 := B1.trans (B2.mono B1.size)
  have hbw : w.heap.size ≤ b := Nat.le_trans B1.size hb0
  clear B1 B2 hb1 c0 c1 r ho f hb0 hbl hb
  have hB := below_any b 0 bs w2 D (by omega)
  have hx0 := below_lt 0 bs
  have hx00 : (below 0 bs).1 = 0 := rfl
  obtain ⟨x, hx⟩ : ∃ x, (below 0 bs).1 = x := ⟨_, rfl⟩
  obtain ⟨cs, hcs⟩ : ∃ cs, (below 0 bs).2 = cs := ⟨_, rfl⟩
  rw [hx] at hx0
  rw [hx00] at hx
  subst hx
  rw [hx00, hcs] at hB
  clear hcs hx0 hx00 D
  go_wp2_with fail
  refine hB.mono ?_
  rintro e w3 ⟨rfl, D3, O3⟩
  have hT := between_any b low high cs w3 D3 l0 h1
  have hyb := between_in low high cs hh l0 h1
  obtain ⟨y, hy⟩ : ∃ y, (between low high cs).1 = y := ⟨_, rfl⟩
  rw [hy] at hT hyb
  have y1 : decide (y < low) = false := by simp; omega
  have y2 : decide (high < y) = false := by simp; omega
  have y3 : decide (y > high) = false := by simp; omega
  obtain ⟨ds, hds⟩ : ∃ ds, (between low high cs).2 = ds := ⟨_, rfl⟩
  rw [hds] at hT
  clear hds hy hB D3
  go_wp2_with fail
  refine hT.mono ?_
  rintro e w4 ⟨rfl, D4, O4⟩
  have hO := order_all b (many : Int) ds w4 D4
  have E := ordI_each many ds (by omega)
  obtain ⟨l, hl⟩ : ∃ l, (ordI (many : Int) ds).1 = l := ⟨_, rfl⟩
  rw [hl] at hO E
  clear hl hT D4
  go_wp2_with fail
  refine hO.mono ?_
  rintro e w5 ⟨vl, rfl, ⟨al, cl, el, hal⟩, -, O5⟩
  rw [E.len] at el hal
  subst el
  have hall : 0 < many → ∃ g, al = some ⟨g, 0, none⟩ ∧ g < w5.heap.size ∧ ∀ i, i < many → w5.cell? ⟨g, i, none⟩ = some (.int .i64 (l.getD i 0)) := fun h => by
    obtain ⟨g, e, _, hg⟩ := hal h
    exact ⟨g, e, (cell_spot (hg 0 h)).2, hg⟩
  have B5 : Below w.heap.size w w5 := BB.trans (((O3.trans O4).trans O5).toBelow BB.size fun k hk => by omega)
  have S0 := seen_new many w5
  have B6 : Below w.heap.size w (w5.alloc (.cells (madeCells #[.bool false] many) 4)) := B5.alloc B5.size _
  have A6 : 0 < many → ∃ g, al = some ⟨g, 0, none⟩ ∧ g < w5.heap.size ∧ ∀ i, i < many → (w5.alloc (.cells (madeCells #[.bool false] many) 4)).cell? ⟨g, i, none⟩ = some (.int .i64 (l.getD i 0)) := fun h => by
    obtain ⟨g, e, hlt, hg⟩ := hall h
    exact ⟨g, e, hlt, fun i hi => (World.cell?_alloc_past _ _ _ hlt).trans (hg i hi)⟩
  have Q6 : w5.heap.size < (w5.alloc (.cells (madeCells #[.bool false] many) 4)).heap.size := by simp
  have HE := Lib.hid E
  have Hw5 : w.heap.size ≤ w5.heap.size := B5.size
  clear hO E O3 O4 O5 BB B5 hal hall
  go_wp2_with fail
  go_loopw [17, 83] (fun _ i wr => ∃ k : Nat, k ≤ many ∧ i = .int .i64 k ∧ Below w.heap.size w wr ∧ w5.heap.size < wr.heap.size ∧ (0 < many → ∃ g, al = some ⟨g, 0, none⟩ ∧ g < w5.heap.size ∧ ∀ i, i < many → wr.cell? ⟨g, i, none⟩ = some (.int .i64 (l.getD i 0))) ∧
    ∃ f, Seen w5.heap.size many f wr ∧ ∀ j, f j = true → ∃ q, q < k ∧ l.getD q 0 = (j : Int)) (fun _ i _ => many - (intOf i).toNat)
  case atStart => exact ⟨0, Nat.zero_le _, rfl, B6, Q6, A6, _, S0, fun j h => by simp at h⟩
  case round =>
    clear S0 B6 A6 Q6
    obtain ⟨k, hk, rfl, hB, hQ, hA, f, S, hf⟩ := hrel
    by_cases hlt : k < many
    · obtain ⟨g, rfl, hg, hc⟩ := hA (by omega)
      have hck := hc k hlt
      have hbd := HE.out.bnd k hlt
      have hff : ∀ j : Nat, l.getD k 0 = (j : Int) → f j = false := fun j hj => by
        cases hfj : f j
        · rfl
        · obtain ⟨q, hq, hqe⟩ := hf j hfj
          have := HE.out.inj q k (by omega) hlt (by rw [hqe, hj])
          omega
      obtain ⟨j, hj⟩ := nat_of' hbd.1
      have hfj := hff j hj
      rw [hj] at hck hbd
      have hjm : j < many := by omega
      have hs := S.c j hjm
      rw [hfj] at hs
      have hz0 := S.free j
      have S2 := S.set j hjm
      have B2 : Below w.heap.size w (wr.setCell ⟨w5.heap.size, j, none⟩ (.bool true)) := hB.setCell Hw5 _
      have A2 : Hid (0 < many → ∃ g', (some ⟨g, 0, none⟩ : Option Addr) = some ⟨g', 0, none⟩ ∧ g' < w5.heap.size ∧ ∀ i, i < many → (wr.setCell ⟨w5.heap.size, j, none⟩ (.bool true)).cell? ⟨g', i, none⟩ = some (.int .i64 (l.getD i 0))) := Lib.hid fun _ =>
        ⟨g, rfl, hg, fun i hi => (World.cell?_setCell_other _ ⟨w5.heap.size, j, none⟩ ⟨g, i, none⟩ _ (fun e => by injection e with e1 e2; omega)).trans (hc i hi)⟩
      have F2 : Hid (∀ i, (if i = j then true else f i) = true → ∃ q, q < k + 1 ∧ l.getD q 0 = (i : Int)) := Lib.hid fun i hi => by
        by_cases e : i = j
        · subst e; exact ⟨k, by omega, hj⟩
        · rw [if_neg e] at hi
          obtain ⟨q, hq, hqe⟩ := hf i hi
          exact ⟨q, by omega, hqe⟩
      have k0 : (0 : Int) ≤ (k : Int) := by omega
      have km : (k : Int) < (many : Int) := by omega
      have d4 : decide ((k : Int) < (many : Int)) = true := by simp [hlt]
      have j0 : (0 : Int) ≤ (j : Int) := by omega
      have jm : (j : Int) < (many : Int) := by omega
      have j1 : decide ((j : Int) < 0) = false := by simp
      have j2 : decide ((many : Int) ≤ (j : Int)) = false := by simp; omega
      have j3 : decide ((j : Int) ≥ (many : Int)) = false := by simp; omega
      have j4 : decide (many ≤ j) = false := by simp; omega
      clear hc hbd hff hj hfj S hA hf hB
      go_wp2_with fail
      go_roundw
      case rel => exact ⟨k + 1, by omega, by go_num, B2, by simpa using hQ, A2.out, _, S2, F2.out⟩
      case measure => simp [intOf]; omega
    · obtain rfl : k = many := by omega
      have d4 : decide (((k : Nat) : Int) < (k : Int)) = false := by simp
      clear hA hf S
      go_wp2_with fail
      go_ret
      exact ⟨rfl, hB⟩

set_option maxRecDepth 100000 in
set_option maxHeartbeats 4000000 in
theorem dbounds_01 (a : Option Addr) (len cap n many : Nat) (low high : Int) (bs : List Nat) (w : World) (hb : RB w (.slice a len cap) bs) (hlen : len ≤ 3000) (hn : n < 18446744073709551616) (hmany : many < 256)
    (l0 : -9223372036854775808 ≤ low) (h1 : high ≤ 9223372036854775807) (hz : n = 0) (hh : high < low) :
    Calls Try.prog 9 #[.slice a len cap, .int .u64 (n : Int), .int .i64 low, .int .i64 high, .int .u8 (many : Int)] w fun e w' => e = .returned (.bool true) ∧ Below w.heap.size w w' := by
  have d1 : decide (3000 < (len : Int)) = false := by simp; omega
  have hmb := run_make_row' (P := Try.prog) 50 4 (.bool false) 1 Try.underlying50 bools_info' rfl .i64 .i64 many (by omega) (by omega)
  have hmb' := run_make_row' (P := Try.prog) 50 4 (.bool false) 1 Try.underlying50 bools_info' rfl .u8 .u8 many (by omega) (by omega)
  have m0 : (0 : Int) ≤ (many : Int) := by omega
  have m1 : (many : Int) ≤ 255 := by omega
  subst hz
  have e1 : decide (low ≤ high) = false := by simp; omega
  have e2 : decide (high ≥ low) = false := by simp; omega
  have e3 : decide (high < low) = true := by simp [hh]
  go_enter Try.func9, Try.ntmps9
  go_wp2_with fail
  refine (lives6 w).mono ?_
  rintro e w1 ⟨rfl, B1⟩
  have hb1 := hb.kept B1
  go_wp2_with fail
  refine (new_dice _ bs w1 hb1).mono ?_
  rintro e w2 ⟨b, v, rfl, hb0, hbl, B2, c0, c1, r, ho, f⟩
  have D : Dic (· = b) b bs w2 := fresh_dic (· = b) rfl (fun k _ h => by omega) hbl c0 c1 r ho f
  have BB : Below w.heap.size w w2 := B1.trans (B2.mono B1.size)
  have hbw : w.heap.size ≤ b := Nat.le_trans B1.size hb0
  clear B1 B2 hb1 c0 c1 r ho f hb0 hbl hb
  have hB := below_any b 0 bs w2 D (by omega)
  have hx0 := below_lt 0 bs
  have hx00 : (below 0 bs).1 = 0 := rfl
  obtain ⟨x, hx⟩ : ∃ x, (below 0 bs).1 = x := ⟨_, rfl⟩
  obtain ⟨cs, hcs⟩ : ∃ cs, (below 0 bs).2 = cs := ⟨_, rfl⟩
  rw [hx] at hx0
  rw [hx00] at hx
  subst hx
  rw [hx00, hcs] at hB
  clear hcs hx0 hx00 D
  go_wp2_with fail
  refine hB.mono ?_
  rintro e w3 ⟨rfl, D3, O3⟩
  have hT := between_any b low high cs w3 D3 l0 h1
  have hy := between_out low high cs hh
  rw [hy] at hT
  obtain ⟨ds, hds⟩ : ∃ ds, (between low high cs).2 = ds := ⟨_, rfl⟩
  rw [hds] at hT
  clear hds hy hB D3
  go_wp2_with fail
  refine hT.mono ?_
  rintro e w4 ⟨rfl, D4, O4⟩
  have hO := order_all b (many : Int) ds w4 D4
  have E := ordI_each many ds (by omega)
  obtain ⟨l, hl⟩ : ∃ l, (ordI (many : Int) ds).1 = l := ⟨_, rfl⟩
  rw [hl] at hO E
  clear hl hT D4
  go_wp2_with fail
  refine hO.mono ?_
  rintro e w5 ⟨vl, rfl, ⟨al, cl, el, hal⟩, -, O5⟩
  rw [E.len] at el hal
  subst el
  have hall : 0 < many → ∃ g, al = some ⟨g, 0, none⟩ ∧ g < w5.heap.size ∧ ∀ i, i < many → w5.cell? ⟨g, i, none⟩ = some (.int .i64 (l.getD i 0)) := fun h => by
    obtain ⟨g, e, _, hg⟩ := hal h
    exact ⟨g, e, (cell_spot (hg 0 h)).2, hg⟩
  have B5 : Below w.heap.size w w5 := BB.trans (((O3.trans O4).trans O5).toBelow BB.size fun k hk => by omega)
  have S0 := seen_new many w5
  have B6 : Below w.heap.size w (w5.alloc (.cells (madeCells #[.bool false] many) 4)) := B5.alloc B5.size _
  have A6 : 0 < many → ∃ g, al = some ⟨g, 0, none⟩ ∧ g < w5.heap.size ∧ ∀ i, i < many → (w5.alloc (.cells (madeCells #[.bool false] many) 4)).cell? ⟨g, i, none⟩ = some (.int .i64 (l.getD i 0)) := fun h => by
    obtain ⟨g, e, hlt, hg⟩ := hall h
    exact ⟨g, e, hlt, fun i hi => (World.cell?_alloc_past _ _ _ hlt).trans (hg i hi)⟩
  have Q6 : w5.heap.size < (w5.alloc (.cells (madeCells #[.bool false] many) 4)).heap.size := by simp
  have HE := Lib.hid E
  have Hw5 : w.heap.size ≤ w5.heap.size := B5.size
  clear hO E O3 O4 O5 BB B5 hal hall
  go_wp2_with fail
  go_loopw [17, 83] (fun _ i wr => ∃ k : Nat, k ≤ many ∧ i = .int .i64 k ∧ Below w.heap.size w wr ∧ w5.heap.size < wr.heap.size ∧ (0 < many → ∃ g, al = some ⟨g, 0, none⟩ ∧ g < w5.heap.size ∧ ∀ i, i < many → wr.cell? ⟨g, i, none⟩ = some (.int .i64 (l.getD i 0))) ∧
    ∃ f, Seen w5.heap.size many f wr ∧ ∀ j, f j = true → ∃ q, q < k ∧ l.getD q 0 = (j : Int)) (fun _ i _ => many - (intOf i).toNat)
  case atStart => exact ⟨0, Nat.zero_le _, rfl, B6, Q6, A6, _, S0, fun j h => by simp at h⟩
  case round =>
    clear S0 B6 A6 Q6
    obtain ⟨k, hk, rfl, hB, hQ, hA, f, S, hf⟩ := hrel
    by_cases hlt : k < many
    · obtain ⟨g, rfl, hg, hc⟩ := hA (by omega)
      have hck := hc k hlt
      have hbd := HE.out.bnd k hlt
      have hff : ∀ j : Nat, l.getD k 0 = (j : Int) → f j = false := fun j hj => by
        cases hfj : f j
        · rfl
        · obtain ⟨q, hq, hqe⟩ := hf j hfj
          have := HE.out.inj q k (by omega) hlt (by rw [hqe, hj])
          omega
      obtain ⟨j, hj⟩ := nat_of' hbd.1
      have hfj := hff j hj
      rw [hj] at hck hbd
      have hjm : j < many := by omega
      have hs := S.c j hjm
      rw [hfj] at hs
      have hz0 := S.free j
      have S2 := S.set j hjm
      have B2 : Below w.heap.size w (wr.setCell ⟨w5.heap.size, j, none⟩ (.bool true)) := hB.setCell Hw5 _
      have A2 : Hid (0 < many → ∃ g', (some ⟨g, 0, none⟩ : Option Addr) = some ⟨g', 0, none⟩ ∧ g' < w5.heap.size ∧ ∀ i, i < many → (wr.setCell ⟨w5.heap.size, j, none⟩ (.bool true)).cell? ⟨g', i, none⟩ = some (.int .i64 (l.getD i 0))) := Lib.hid fun _ =>
        ⟨g, rfl, hg, fun i hi => (World.cell?_setCell_other _ ⟨w5.heap.size, j, none⟩ ⟨g, i, none⟩ _ (fun e => by injection e with e1 e2; omega)).trans (hc i hi)⟩
      have F2 : Hid (∀ i, (if i = j then true else f i) = true → ∃ q, q < k + 1 ∧ l.getD q 0 = (i : Int)) := Lib.hid fun i hi => by
        by_cases e : i = j
        · subst e; exact ⟨k, by omega, hj⟩
        · rw [if_neg e] at hi
          obtain ⟨q, hq, hqe⟩ := hf i hi
          exact ⟨q, by omega, hqe⟩
      have k0 : (0 : Int) ≤ (k : Int) := by omega
      have km : (k : Int) < (many : Int) := by omega
      have d4 : decide ((k : Int) < (many : Int)) = true := by simp [hlt]
      have j0 : (0 : Int) ≤ (j : Int) := by omega
      have jm : (j : Int) < (many : Int) := by omega
      have j1 : decide ((j : Int) < 0) = false := by simp
      have j2 : decide ((many : Int) ≤ (j : Int)) = false := by simp; omega
      have j3 : decide ((j : Int) ≥ (many : Int)) = false := by simp; omega
      have j4 : decide (many ≤ j) = false := by simp; omega
      clear hc hbd hff hj hfj S hA hf hB
      go_wp2_with fail
      go_roundw
      case rel => exact ⟨k + 1, by omega, by go_num, B2, by simpa using hQ, A2.out, _, S2, F2.out⟩
      case measure => simp [intOf]; omega
    · obtain rfl : k = many := by omega
      have d4 : decide (((k : Nat) : Int) < (k : Int)) = false := by simp
      clear hA hf S
      go_wp2_with fail
      go_ret
      exact ⟨rfl, hB⟩

set_option maxRecDepth 100000 in
set_option maxHeartbeats 4000000 in
theorem dbounds_10 (a : Option Addr) (len cap n many : Nat) (low high : Int) (bs : List Nat) (w : World) (hb : RB w (.slice a len cap) bs) (hlen : len ≤ 3000) (hn : n < 18446744073709551616) (hmany : many < 256)
    (l0 : -9223372036854775808 ≤ low) (h1 : high ≤ 9223372036854775807) (hz : 0 < n) (hh : low ≤ high) :
    Calls Try.prog 9 #[.slice a len cap, .int .u64 (n : Int), .int .i64 low, .int .i64 high, .int .u8 (many : Int)] w fun e w' => e = .returned (.bool true) ∧ Below w.heap.size w w' := by
  have d1 : decide (3000 < (len : Int)) = false := by simp; omega
  have hmb := run_make_row' (P := Try.prog) 50 4 (.bool false) 1 Try.underlying50 bools_info' rfl .i64 .i64 many (by omega) (by omega)
  have hmb' := run_make_row' (P := Try.prog) 50 4 (.bool false) 1 Try.underlying50 bools_info' rfl .u8 .u8 many (by omega) (by omega)
  have m0 : (0 : Int) ≤ (many : Int) := by omega
  have m1 : (many : Int) ≤ 255 := by omega
  have z1 : decide (0 < (n : Int)) = true := by simp [hz]
  have z2 : decide (0 < n) = true := by simp [hz]
  have z3 : ((n : Int) == 0) = false := by rw [beq_eq_false_iff_ne]; omega
  have z4 : decide ((n : Int) = 0) = false := decide_eq_false (by omega)
  have e1 : decide (low ≤ high) = true := by simp [hh]
  have e2 : decide (high ≥ low) = true := by simp [hh]
  have e3 : decide (high < low) = false := by simp; omega
  go_enter Try.func9, Try.ntmps9
  go_wp2_with fail
  refine (lives6 w).mono ?_
  rintro e w1 ⟨rfl, B1⟩
  have hb1 := hb.kept B1
  go_wp2_with fail
  refine (new_dice _ bs w1 hb1).mono ?_
  rintro e w2 ⟨b, v, rfl, hb0, hbl, B2, c0, c1, r, ho, f⟩
  have D : Dic (· = b) b bs w2 := fresh_dic (· = b) rfl (fun k _ h => by omega) hbl c0 c1 r ho f
  have BB : Below w.heap.size w w2 := B1.trans (B2.mono B1.size)
  have hbw : w.heap.size ≤ b := Nat.le_trans B1.size hb0
  clear B1 B2 hb1 c0 c1 r ho f hb0 hbl hb
  have hB := below_any b n bs w2 D (by omega)
  have hx0 := below_lt n bs
  have hx00 : (below 0 bs).1 = 0 := rfl
  obtain ⟨x, hx⟩ : ∃ x, (below n bs).1 = x := ⟨_, rfl⟩
  obtain ⟨cs, hcs⟩ : ∃ cs, (below n bs).2 = cs := ⟨_, rfl⟩
  rw [hx] at hx0
  rw [hx, hcs] at hB
  have x1 : decide ((n : Int) ≤ (x : Int)) = false := by have := hx0 hz; simp; omega
  have x2 : decide (n ≤ x) = false := by have := hx0 hz; simp; omega
  have x3 : decide ((x : Int) ≥ (n : Int)) = false := by have := hx0 hz; simp; omega
  clear hx
  clear hcs hx0 hx00 D
  go_wp2_with fail
  refine hB.mono ?_
  rintro e w3 ⟨rfl, D3, O3⟩
  have hT := between_any b low high cs w3 D3 l0 h1
  have hyb := between_in low high cs hh l0 h1
  obtain ⟨y, hy⟩ : ∃ y, (between low high cs).1 = y := ⟨_, rfl⟩
  rw [hy] at hT hyb
  have y1 : decide (y < low) = false := by simp; omega
  have y2 : decide (high < y) = false := by simp; omega
  have y3 : decide (y > high) = false := by simp; omega
  obtain ⟨ds, hds⟩ : ∃ ds, (between low high cs).2 = ds := ⟨_, rfl⟩
  rw [hds] at hT
  clear hds hy hB D3
  go_wp2_with fail
  refine hT.mono ?_
  rintro e w4 ⟨rfl, D4, O4⟩
  have hO := order_all b (many : Int) ds w4 D4
  have E := ordI_each many ds (by omega)
  obtain ⟨l, hl⟩ : ∃ l, (ordI (many : Int) ds).1 = l := ⟨_, rfl⟩
  rw [hl] at hO E
  clear hl hT D4
  go_wp2_with fail
  refine hO.mono ?_
  rintro e w5 ⟨vl, rfl, ⟨al, cl, el, hal⟩, -, O5⟩
  rw [E.len] at el hal
  subst el
  have hall : 0 < many → ∃ g, al = some ⟨g, 0, none⟩ ∧ g < w5.heap.size ∧ ∀ i, i < many → w5.cell? ⟨g, i, none⟩ = some (.int .i64 (l.getD i 0)) := fun h => by
    obtain ⟨g, e, _, hg⟩ := hal h
    exact ⟨g, e, (cell_spot (hg 0 h)).2, hg⟩
  have B5 : Below w.heap.size w w5 := BB.trans (((O3.trans O4).trans O5).toBelow BB.size fun k hk => by omega)
  have S0 := seen_new many w5
  have B6 : Below w.heap.size w (w5.alloc (.cells (madeCells #[.bool false] many) 4)) := B5.alloc B5.size _
  have A6 : 0 < many → ∃ g, al = some ⟨g, 0, none⟩ ∧ g < w5.heap.size ∧ ∀ i, i < many → (w5.alloc (.cells (madeCells #[.bool false] many) 4)).cell? ⟨g, i, none⟩ = some (.int .i64 (l.getD i 0)) := fun h => by
    obtain ⟨g, e, hlt, hg⟩ := hall h
    exact ⟨g, e, hlt, fun i hi => (World.cell?_alloc_past _ _ _ hlt).trans (hg i hi)⟩
  have Q6 : w5.heap.size < (w5.alloc (.cells (madeCells #[.bool false] many) 4)).heap.size := by simp
  have HE := Lib.hid E
  have Hw5 : w.heap.size ≤ w5.heap.size := B5.size
  clear hO E O3 O4 O5 BB B5 hal hall
  go_wp2_with fail
  go_loopw [17, 83] (fun _ i wr => ∃ k : Nat, k ≤ many ∧ i = .int .i64 k ∧ Below w.heap.size w wr ∧ w5.heap.size < wr.heap.size ∧ (0 < many → ∃ g, al = some ⟨g, 0, none⟩ ∧ g < w5.heap.size ∧ ∀ i, i < many → wr.cell? ⟨g, i, none⟩ = some (.int .i64 (l.getD i 0))) ∧
    ∃ f, Seen w5.heap.size many f wr ∧ ∀ j, f j = true → ∃ q, q < k ∧ l.getD q 0 = (j : Int)) (fun _ i _ => many - (intOf i).toNat)
  case atStart => exact ⟨0, Nat.zero_le _, rfl, B6, Q6, A6, _, S0, fun j h => by simp at h⟩
  case round =>
    clear S0 B6 A6 Q6
    obtain ⟨k, hk, rfl, hB, hQ, hA, f, S, hf⟩ := hrel
    by_cases hlt : k < many
    · obtain ⟨g, rfl, hg, hc⟩ := hA (by omega)
      have hck := hc k hlt
      have hbd := HE.out.bnd k hlt
      have hff : ∀ j : Nat, l.getD k 0 = (j : Int) → f j = false := fun j hj => by
        cases hfj : f j
        · rfl
        · obtain ⟨q, hq, hqe⟩ := hf j hfj
          have := HE.out.inj q k (by omega) hlt (by rw [hqe, hj])
          omega
      obtain ⟨j, hj⟩ := nat_of' hbd.1
      have hfj := hff j hj
      rw [hj] at hck hbd
      have hjm : j < many := by omega
      have hs := S.c j hjm
      rw [hfj] at hs
      have hz0 := S.free j
      have S2 := S.set j hjm
      have B2 : Below w.heap.size w (wr.setCell ⟨w5.heap.size, j, none⟩ (.bool true)) := hB.setCell Hw5 _
      have A2 : Hid (0 < many → ∃ g', (some ⟨g, 0, none⟩ : Option Addr) = some ⟨g', 0, none⟩ ∧ g' < w5.heap.size ∧ ∀ i, i < many → (wr.setCell ⟨w5.heap.size, j, none⟩ (.bool true)).cell? ⟨g', i, none⟩ = some (.int .i64 (l.getD i 0))) := Lib.hid fun _ =>
        ⟨g, rfl, hg, fun i hi => (World.cell?_setCell_other _ ⟨w5.heap.size, j, none⟩ ⟨g, i, none⟩ _ (fun e => by injection e with e1 e2; omega)).trans (hc i hi)⟩
      have F2 : Hid (∀ i, (if i = j then true else f i) = true → ∃ q, q < k + 1 ∧ l.getD q 0 = (i : Int)) := Lib.hid fun i hi => by
        by_cases e : i = j
        · subst e; exact ⟨k, by omega, hj⟩
        · rw [if_neg e] at hi
          obtain ⟨q, hq, hqe⟩ := hf i hi
          exact ⟨q, by omega, hqe⟩
      have k0 : (0 : Int) ≤ (k : Int) := by omega
      have km : (k : Int) < (many : Int) := by omega
      have d4 : decide ((k : Int) < (many : Int)) = true := by simp [hlt]
      have j0 : (0 : Int) ≤ (j : Int) := by omega
      have jm : (j : Int) < (many : Int) := by omega
      have j1 : decide ((j : Int) < 0) = false := by simp
      have j2 : decide ((many : Int) ≤ (j : Int)) = false := by simp; omega
      have j3 : decide ((j : Int) ≥ (many : Int)) = false := by simp; omega
      have j4 : decide (many ≤ j) = false := by simp; omega
      clear hc hbd hff hj hfj S hA hf hB
      go_wp2_with fail
      go_roundw
      case rel => exact ⟨k + 1, by omega, by go_num, B2, by simpa using hQ, A2.out, _, S2, F2.out⟩
      case measure => simp [intOf]; omega
    · obtain rfl : k = many := by omega
      have d4 : decide (((k : Nat) : Int) < (k : Int)) = false := by simp
      clear hA hf S
      go_wp2_with fail
      go_ret
      exact ⟨rfl, hB⟩

set_option maxRecDepth 100000 in
set_option maxHeartbeats 4000000 in
theorem dbounds_11 (a : Option Addr) (len cap n many : Nat) (low high : Int) (bs : List Nat) (w : World) (hb : RB w (.slice a len cap) bs) (hlen : len ≤ 3000) (hn : n < 18446744073709551616) (hmany : many < 256)
    (l0 : -9223372036854775808 ≤ low) (h1 : high ≤ 9223372036854775807) (hz : 0 < n) (hh : high < low) :
    Calls Try.prog 9 #[.slice a len cap, .int .u64 (n : Int), .int .i64 low, .int .i64 high, .int .u8 (many : Int)] w fun e w' => e = .returned (.bool true) ∧ Below w.heap.size w w' := by
  have d1 : decide (3000 < (len : Int)) = false := by simp; omega
  have hmb := run_make_row' (P := Try.prog) 50 4 (.bool false) 1 Try.underlying50 bools_info' rfl .i64 .i64 many (by omega) (by omega)
  have hmb' := run_make_row' (P := Try.prog) 50 4 (.bool false) 1 Try.underlying50 bools_info' rfl .u8 .u8 many (by omega) (by omega)
  have m0 : (0 : Int) ≤ (many : Int) := by omega
  have m1 : (many : Int) ≤ 255 := by omega
  have z1 : decide (0 < (n : Int)) = true := by simp [hz]
  have z2 : decide (0 < n) = true := by simp [hz]
  have z3 : ((n : Int) == 0) = false := by rw [beq_eq_false_iff_ne]; omega
  have z4 : decide ((n : Int) = 0) = false := decide_eq_false (by omega)
  have e1 : decide (low ≤ high) = false := by simp; omega
  have e2 : decide (high ≥ low) = false := by simp; omega
  have e3 : decide (high < low) = true := by simp [hh]
  go_enter Try.func9, Try.ntmps9
  go_wp2_with fail
  refine (lives6 w).mono ?_
  rintro e w1 ⟨rfl, B1⟩
  have hb1 := hb.kept B1
  go_wp2_with fail
  refine (new_dice _ bs w1 hb1).mono ?_
  rintro e w2 ⟨b, v, rfl, hb0, hbl, B2, c0, c1, r, ho, f⟩
  have D : Dic (· = b) b bs w2 := fresh_dic (· = b) rfl (fun k _ h => by omega) hbl c0 c1 r ho f
  have BB : Below w.heap.size w w2 := B1.trans (B2.mono B1.size)
  have hbw : w.heap.size ≤ b := Nat.le_trans B1.size hb0
  clear B1 B2 hb1 c0 c1 r ho f hb0 hbl hb
  have hB := below_any b n bs w2 D (by omega)
  have hx0 := below_lt n bs
  have hx00 : (below 0 bs).1 = 0 := rfl
  obtain ⟨x, hx⟩ : ∃ x, (below n bs).1 = x := ⟨_, rfl⟩
  obtain ⟨cs, hcs⟩ : ∃ cs, (below n bs).2 = cs := ⟨_, rfl⟩
  rw [hx] at hx0
  rw [hx, hcs] at hB
  have x1 : decide ((n : Int) ≤ (x : Int)) = false := by have := hx0 hz; simp; omega
  have x2 : decide (n ≤ x) = false := by have := hx0 hz; simp; omega
  have x3 : decide ((x : Int) ≥ (n : Int)) = false := by have := hx0 hz; simp; omega
  clear hx
  clear hcs hx0 hx00 D
  go_wp2_with fail
  refine hB.mono ?_
  rintro e w3 ⟨rfl, D3, O3⟩
  have hT := between_any b low high cs w3 D3 l0 h1
  have hy := between_out low high cs hh
  rw [hy] at hT
  obtain ⟨ds, hds⟩ : ∃ ds, (between low high cs).2 = ds := ⟨_, rfl⟩
  rw [hds] at hT
  clear hds hy hB D3
  go_wp2_with fail
  refine hT.mono ?_
  rintro e w4 ⟨rfl, D4, O4⟩
  have hO := order_all b (many : Int) ds w4 D4
  have E := ordI_each many ds (by omega)
  obtain ⟨l, hl⟩ : ∃ l, (ordI (many : Int) ds).1 = l := ⟨_, rfl⟩
  rw [hl] at hO E
  clear hl hT D4
  go_wp2_with fail
  refine hO.mono ?_
  rintro e w5 ⟨vl, rfl, ⟨al, cl, el, hal⟩, -, O5⟩
  rw [E.len] at el hal
  subst el
  have hall : 0 < many → ∃ g, al = some ⟨g, 0, none⟩ ∧ g < w5.heap.size ∧ ∀ i, i < many → w5.cell? ⟨g, i, none⟩ = some (.int .i64 (l.getD i 0)) := fun h => by
    obtain ⟨g, e, _, hg⟩ := hal h
    exact ⟨g, e, (cell_spot (hg 0 h)).2, hg⟩
  have B5 : Below w.heap.size w w5 := BB.trans (((O3.trans O4).trans O5).toBelow BB.size fun k hk => by omega)
  have S0 := seen_new many w5
  have B6 : Below w.heap.size w (w5.alloc (.cells (madeCells #[.bool false] many) 4)) := B5.alloc B5.size _
  have A6 : 0 < many → ∃ g, al = some ⟨g, 0, none⟩ ∧ g < w5.heap.size ∧ ∀ i, i < many → (w5.alloc (.cells (madeCells #[.bool false] many) 4)).cell? ⟨g, i, none⟩ = some (.int .i64 (l.getD i 0)) := fun h => by
    obtain ⟨g, e, hlt, hg⟩ := hall h
    exact ⟨g, e, hlt, fun i hi => (World.cell?_alloc_past _ _ _ hlt).trans (hg i hi)⟩
  have Q6 : w5.heap.size < (w5.alloc (.cells (madeCells #[.bool false] many) 4)).heap.size := by simp
  have HE := Lib.hid E
  have Hw5 : w.heap.size ≤ w5.heap.size := B5.size
  clear hO E O3 O4 O5 BB B5 hal hall
  go_wp2_with fail
  go_loopw [17, 83] (fun _ i wr => ∃ k : Nat, k ≤ many ∧ i = .int .i64 k ∧ Below w.heap.size w wr ∧ w5.heap.size < wr.heap.size ∧ (0 < many → ∃ g, al = some ⟨g, 0, none⟩ ∧ g < w5.heap.size ∧ ∀ i, i < many → wr.cell? ⟨g, i, none⟩ = some (.int .i64 (l.getD i 0))) ∧
    ∃ f, Seen w5.heap.size many f wr ∧ ∀ j, f j = true → ∃ q, q < k ∧ l.getD q 0 = (j : Int)) (fun _ i _ => many - (intOf i).toNat)
  case atStart => exact ⟨0, Nat.zero_le _, rfl, B6, Q6, A6, _, S0, fun j h => by simp at h⟩
  case round =>
    clear S0 B6 A6 Q6
    obtain ⟨k, hk, rfl, hB, hQ, hA, f, S, hf⟩ := hrel
    by_cases hlt : k < many
    · obtain ⟨g, rfl, hg, hc⟩ := hA (by omega)
      have hck := hc k hlt
      have hbd := HE.out.bnd k hlt
      have hff : ∀ j : Nat, l.getD k 0 = (j : Int) → f j = false := fun j hj => by
        cases hfj : f j
        · rfl
        · obtain ⟨q, hq, hqe⟩ := hf j hfj
          have := HE.out.inj q k (by omega) hlt (by rw [hqe, hj])
          omega
      obtain ⟨j, hj⟩ := nat_of' hbd.1
      have hfj := hff j hj
      rw [hj] at hck hbd
      have hjm : j < many := by omega
      have hs := S.c j hjm
      rw [hfj] at hs
      have hz0 := S.free j
      have S2 := S.set j hjm
      have B2 : Below w.heap.size w (wr.setCell ⟨w5.heap.size, j, none⟩ (.bool true)) := hB.setCell Hw5 _
      have A2 : Hid (0 < many → ∃ g', (some ⟨g, 0, none⟩ : Option Addr) = some ⟨g', 0, none⟩ ∧ g' < w5.heap.size ∧ ∀ i, i < many → (wr.setCell ⟨w5.heap.size, j, none⟩ (.bool true)).cell? ⟨g', i, none⟩ = some (.int .i64 (l.getD i 0))) := Lib.hid fun _ =>
        ⟨g, rfl, hg, fun i hi => (World.cell?_setCell_other _ ⟨w5.heap.size, j, none⟩ ⟨g, i, none⟩ _ (fun e => by injection e with e1 e2; omega)).trans (hc i hi)⟩
      have F2 : Hid (∀ i, (if i = j then true else f i) = true → ∃ q, q < k + 1 ∧ l.getD q 0 = (i : Int)) := Lib.hid fun i hi => by
        by_cases e : i = j
        · subst e; exact ⟨k, by omega, hj⟩
        · rw [if_neg e] at hi
          obtain ⟨q, hq, hqe⟩ := hf i hi
          exact ⟨q, by omega, hqe⟩
      have k0 : (0 : Int) ≤ (k : Int) := by omega
      have km : (k : Int) < (many : Int) := by omega
      have d4 : decide ((k : Int) < (many : Int)) = true := by simp [hlt]
      have j0 : (0 : Int) ≤ (j : Int) := by omega
      have jm : (j : Int) < (many : Int) := by omega
      have j1 : decide ((j : Int) < 0) = false := by simp
      have j2 : decide ((many : Int) ≤ (j : Int)) = false := by simp; omega
      have j3 : decide ((j : Int) ≥ (many : Int)) = false := by simp; omega
      have j4 : decide (many ≤ j) = false := by simp; omega
      clear hc hbd hff hj hfj S hA hf hB
      go_wp2_with fail
      go_roundw
      case rel => exact ⟨k + 1, by omega, by go_num, B2, by simpa using hQ, A2.out, _, S2, F2.out⟩
      case measure => simp [intOf]; omega
    · obtain rfl : k = many := by omega
      have d4 : decide (((k : Nat) : Int) < (k : Int)) = false := by simp
      clear hA hf S
      go_wp2_with fail
      go_ret
      exact ⟨rfl, hB⟩
end Go.Proofs.Ytfakgemifbgafaa

/- The walk of LazyChain. -/
import Derived.Test.YtfakgemifbgafaaLzO
namespace Go.Proofs.Ytfakgemifbgafaa
open Go.RowKit

/-- The exclusive or of the first j numbers, from 0 on. -/
def preXor (z : Nat → Int) : Nat → Int
  | 0 => 0
  | j + 1 => bits .xor .i64 (preXor z j) (z j)
theorem xor_zero (x : Int) (h : -9223372036854775808 ≤ x) (h' : x < 9223372036854775808) : bits .xor .i64 0 x = x := by
  show IntKind.i64.wrap (((BitVec.ofInt 64 0) ^^^ (BitVec.ofInt 64 x)).toNat : Int) = x
  rw [show BitVec.ofInt 64 0 = 0#64 from rfl, BitVec.zero_xor, BitVec.toNat_ofInt, IntKind.wrap_i64]
  omega
theorem pre_up (z : Nat → Int) (h : -9223372036854775808 ≤ z 0) (h' : z 0 < 9223372036854775808) : ∀ i, preXor z (i + 1) = upXor z i
  | 0 => by simp only [preXor, upXor]; exact xor_zero _ h h'
  | i + 1 => by
    rw [preXor, upXor, pre_up z h h' i]
    exact xor_comm _ _

set_option maxRecDepth 100000 in
set_option maxHeartbeats 4000000 in
theorem lchain_ok (lb lo n c : Nat) (z : Nat → Int) (f : Nat) (w : World) (hn : 0 < n) (hn' : n ≤ 100) (hf : f < 256) (hz0 : -9223372036854775808 ≤ z 0) (hz1 : z 0 < 9223372036854775808) (hlb : lb < w.heap.size) (hz : ∀ i, i < n → w.cell? ⟨lb, lo + i, none⟩ = some (.int .i64 (z i))) :
    Calls Try.prog 3 #[.slice (some ⟨lb, lo, none⟩) n c, .int .u8 f] w fun e w' => e = .returned (.bool true) ∧ Below w.heap.size w w' := by
  have h1 : decide ((n : Int) = 0) = false := by simp; omega
  have h2 : ((n : Int) == 0) = false := by simp; omega
  have h3 : decide (100 < (n : Int)) = false := by simp; omega
  have hmk := run_make_row' (P := Try.prog) 25 26 (.pointer none) 8 Try.underlying25 cells_info rfl .i64 .i64 n (by omega) (by omega)
  have hmi := run_make_row' (P := Try.prog) 24 3 (.int .i64 0) 8 Try.underlying24 ints_info rfl .i64 .i64 n (by omega) (by omega)
  have hmf : ∀ (fn : Fn) (first cap : Array Value) (w : World), (Instr.makeFunc fn first cap).run Try.prog w = .ok (.func fn first cap) w := fun _ _ _ _ => rfl
  go_enter Try.func3, Try.ntmps3
  go_wp2_with fail
  have T0 := begun_lc lb lo n c z w hlb hz
  have B0 := begun_below lb lo n c w
  have hfa : ∀ (w : World) (c : Array Value) (t : TypeId) (a : Addr), (w.alloc (.cells c t)).frozen? a = w.frozen? a := frozen?_alloc_cells
  go_loopw [30] (fun i wr => ∃ k : Nat, k ≤ n ∧ i = .int .i64 k ∧ Below w.heap.size w wr ∧ Lc w.heap.size lb lo n c z k wr) (fun i _ => n - (intOf i).toNat)
  case atStart => exact ⟨0, Nat.zero_le _, rfl, B0, T0⟩
  case round =>
    clear T0 B0
    obtain ⟨k, hk, rfl, hB, T⟩ := hrel
    by_cases hlt : k < n
    · have hl : decide ((k : Int) < (n : Int)) = true := by simp; omega
      have hs := T.size
      have hfz : wr.frozen? ⟨w.heap.size + 5 + 2 * k, 0, none⟩ = false := T.free _ (by simp <;> omega)
      go_wp2_with fail
      have t1 : (wr.alloc (.cells #[.int .i64 k] 3)).cell? ⟨w.heap.size + 4, 0, none⟩ = some (.slice (some ⟨w.heap.size + 3, 0, none⟩) n n) := (World.cell?_alloc_past _ _ _ (by omega)).trans T.cells
      have i1 : (wr.alloc (.cells #[.int .i64 k] 3)).cell? ⟨w.heap.size + 5 + 2 * k, 0, none⟩ = some (.int .i64 k) := by
        rw [World.cell?_alloc_at _ _ _ _ hs.symm]
        rfl
      have z1 : (wr.alloc (.cells #[.int .i64 k] 3)).frozen? ⟨w.heap.size + 3, k, none⟩ = false := (hfa _ _ _ _).trans (T.free _ (by simp <;> omega))
      have n1 := T.next hlb hlt
      obtain ⟨x, hx⟩ := T.hole k hlt
      have x1 : ∀ (cs : Array Value) (T : TypeId), ((wr.alloc (.cells #[.int .i64 k] 3)).alloc (.cells cs T)).cell? ⟨w.heap.size + 3, k, none⟩ = some x := fun cs T => by
        rw [World.cell?_alloc_past _ _ _ (by simp <;> omega), World.cell?_alloc_past _ _ _ (by omega)]
        exact hx
      have hsz : (wr.alloc (.cells #[.int .i64 k] 3)).heap.size = w.heap.size + 6 + 2 * k := by simp [hs] <;> omega
      obtain ⟨wa, hwa⟩ : ∃ wa, wr.alloc (.cells #[.int .i64 k] 3) = wa := ⟨_, rfl⟩
      rw [hwa] at t1 i1 z1 x1 hsz ⊢
      have hk0 : (0 : Int) ≤ (k : Int) := by omega
      have hkn : (k : Int) < (n : Int) := by omega
      have hn1 : ¬ w.heap.size + 3 = w.heap.size + 5 + 2 * k := by omega
      have hn2 : (⟨w.heap.size + 3, k, none⟩ : Addr) ≠ ⟨w.heap.size + 5 + 2 * k, 0, none⟩ := fun e => by injection e with e1; omega
      clear T
      go_region_held3 (fun w' => w'.cell? ⟨w.heap.size + 4, 0, none⟩ = some (.slice (some ⟨w.heap.size + 3, 0, none⟩) n n) ∧ w'.cell? ⟨w.heap.size + 5 + 2 * k, 0, none⟩ = some (.int .i64 k) ∧ w'.frozen? ⟨w.heap.size + 3, k, none⟩ = false) (first | exact ⟨t1, i1, z1⟩ | go_keep)
        (first | (go_at_call 12; refine (new_fn _ _ _ _).mono ?_; rintro e w' ⟨rfl, rfl⟩))
      rename_i hHeld
      clear hHeld t1 i1 z1 x1
      subst hwa
      change Exit.inBlock 1 _ Exit.normal _ (longer w.heap.size k wr)
      have hB' : Below w.heap.size w (longer w.heap.size k wr) := hB.trans ((longer_only w.heap.size k wr).toBelow hB.size fun j hj => by omega)
      generalize longer w.heap.size k wr = w2 at n1 hB' ⊢
      go_wp2_with fail
      go_roundw
      case rel => exact ⟨k + 1, by omega, by go_num, hB', n1⟩
      case measure => simp [intOf]; omega
    · obtain rfl : k = n := by omega
      have hl := T.l
      have f1 : (0 : Int) ≤ (f : Int) := by omega
      have f2 : (f : Int) ≤ 255 := by omega
      have f3 : (1 : Int) ≤ (k : Int) := by omega
      go_wp2_with fail
      obtain ⟨q, hq, hqk⟩ : ∃ q : Nat, (f : Int) % (k : Int) = (q : Int) ∧ q < k := ⟨f % k, by simp, Nat.mod_lt _ hn⟩
      rw [hq]
      have HQ := Lib.hid hq
      clear hq f1 f2 f3
      go_loop [9, 10] (fun s i => ∃ j : Nat, j ≤ q + 1 ∧ i = .int .i64 j ∧ s = .int .i64 (preXor z j)) (fun _ i => q + 1 - (intOf i).toNat)
      case atStart => exact ⟨0, by omega, rfl, rfl⟩
      case round =>
        obtain ⟨j, hj, rfl, rfl⟩ := hrel
        by_cases hjq : j ≤ q
        · have d1 : decide ((j : Int) ≤ (q : Int)) = true := by simp; omega
          have hc := T.lz j (by omega)
          have j0 : (0 : Int) ≤ (j : Int) := by omega
          have jk : (j : Int) < (k : Int) := by omega
          go_wp2_with fail
          go_round
          case rel => exact ⟨j + 1, by omega, by go_num, rfl⟩
          case measure => simp [intOf]; omega
        · obtain rfl : j = q + 1 := by omega
          have d1 : decide (((q + 1 : Nat) : Int) ≤ (q : Int)) = false := by simp; omega
          rw [pre_up z hz0 hz1 q]
          have A := Lc.apart w.heap.size lb hlb
          have C := T.chn
          have hcs := T.cells
          have hsq := T.slot q hqk
          have q0 : (0 : Int) ≤ (q : Int) := by omega
          have qk : (q : Int) < (k : Int) := by omega
          have G1 := chain_get A hn' q wr hqk C fun j hj => ⟨T.cel j (by omega), T.cnt j (by omega)⟩
          go_wp2_with fail
          refine G1.mono ?_
          rintro e w1 ⟨rfl, O1, fz1, J1, S1⟩
          have C1 : Chn (w.heap.size + 2) w.heap.size (w.heap.size + 4) lb lo (w.heap.size + 1) (w.heap.size + 3) k c k k z (fun j => w.heap.size + 5 + 2 * j) (fun j => w.heap.size + 6 + 2 * j) w1 :=
            C.kept A (fun b o x ha hb hx => (O1.cell (lt_of_cell hx) (fun h => h.elim ha (fun ⟨j, _, e⟩ => hb j e))).trans hx) (fun i => (fz1 i).trans (C.free i).symm)
          have G2 := get_again (w.heap.size + 6 + 2 * q) _ _ _ _ 2 w1 (by simp [wrap64]) (J1 q (Nat.le_refl _)).1
          have hcs1 := C1.cells
          have hsq1 := C1.slot q hqk
          clear hcs hsq hl
          go_wp2_with fail
          refine G2.mono ?_
          rintro e w2 ⟨rfl, D2, O2, _⟩
          have lt1 : w.heap.size + 1 < w1.heap.size := lt_of_cell (J1 q (Nat.le_refl _)).2
          have C2 : Chn (w.heap.size + 2) w.heap.size (w.heap.size + 4) lb lo (w.heap.size + 1) (w.heap.size + 3) k c k k z (fun j => w.heap.size + 5 + 2 * j) (fun j => w.heap.size + 6 + 2 * j) w2 :=
            C1.kept A (fun b o x ha hb hx => (O2.cell (lt_of_cell hx) (hb q)).trans hx) (fun i => (World.frozen?_of_block (a := ⟨w.heap.size + 1, i, none⟩) (O2.block (w.heap.size + 1) lt1 (by omega))))
          have B2 : Below w.heap.size w w2 := hB.trans ((O1.trans (O2.more fun j hj => .inr ⟨q, Nat.le_refl _, hj⟩)).toBelow hB.size fun j hj => by rcases hj with e | ⟨i, _, e⟩ <;> omega)
          have cnt2 : ∀ i, i < k → w2.cell? ⟨w.heap.size + 1, i, none⟩ = some (.int .i64 (if i ≤ q then 1 else 0)) := by
            intro i hi
            refine (World.cell?_of_block (a := ⟨w.heap.size + 1, i, none⟩) (O2.block (w.heap.size + 1) lt1 (by omega))).trans ?_
            by_cases h : i ≤ q
            · rw [if_pos h]; exact (J1 i h).2
            · rw [if_neg h]; exact (S1 i (by omega)).trans (T.cnt i hi)
          have mk2 : ∀ i, i < k → w2.cell? ⟨w.heap.size + 6 + 2 * i, 5, none⟩ = some (.int .u32 (if i ≤ q then 1 else 0)) := by
            intro i hi
            by_cases h : i = q
            · subst h; rw [if_pos (Nat.le_refl _)]; exact D2.made
            · by_cases h' : i ≤ q
              · rw [if_pos h']
                exact (World.cell?_of_block (a := ⟨w.heap.size + 6 + 2 * i, 5, none⟩) (O2.block (w.heap.size + 6 + 2 * i) (lt_of_cell (J1 i h').1.made) (by omega))).trans (J1 i h').1.made
              · rw [if_neg h']
                have m0 := (T.cel i hi).made
                have l0 := lt_of_cell m0
                have m1 := (World.cell?_of_block (a := ⟨w.heap.size + 6 + 2 * i, 5, none⟩) (O1.block (w.heap.size + 6 + 2 * i) l0 (fun e => by rcases e with e | ⟨j, hj, e⟩ <;> omega))).trans m0
                exact (World.cell?_of_block (a := ⟨w.heap.size + 6 + 2 * i, 5, none⟩) (O2.block (w.heap.size + 6 + 2 * i) (lt_of_cell m1) (by omega))).trans m1
          have hl2 := C2.l
          clear hcs1 hsq1 G1 G2 C1 C J1 S1 D2 O2 O1 fz1 T hB A
          go_wp2_with fail
          go_loop [11, 12, 73] (fun _ _ i => ∃ j : Nat, j ≤ k ∧ i = .int .i64 j) (fun _ _ i => k - (intOf i).toNat)
          case atStart => exact ⟨0, by omega, rfl⟩
          case round =>
            obtain ⟨j, hj, rfl⟩ := hrel
            by_cases hlt : j < k
            · have d2 : decide ((j : Int) < (k : Int)) = true := by simp; omega
              have hcs := C2.cells
              have hsj := C2.slot j hlt
              have hcl := C2.calls
              have hcn := cnt2 j hlt
              have hmk := mk2 j hlt
              have j0 : (0 : Int) ≤ (j : Int) := by omega
              have jk : (j : Int) < (k : Int) := by omega
              clear C2 cnt2 mk2
              by_cases hjq : j ≤ q
              · rw [if_pos hjq] at hcn hmk
                have d3 : decide ((j : Int) ≤ (q : Int)) = true := by simp; omega
                go_wp2_with (go_at_call 15; refine (made_any _ _ _ hmk).mono ?_; rintro e w' ⟨rfl, rfl⟩)
                go_round
                case rel => exact ⟨j + 1, by omega, by go_num⟩
                case measure => simp [intOf]; omega
              · rw [if_neg hjq] at hcn hmk
                have d3 : decide ((j : Int) ≤ (q : Int)) = false := by simp; omega
                go_wp2_with (go_at_call 15; refine (made_any _ _ _ hmk).mono ?_; rintro e w' ⟨rfl, rfl⟩)
                go_round
                case rel => exact ⟨j + 1, by omega, by go_num⟩
                case measure => simp [intOf]; omega
            · obtain rfl : j = k := by omega
              clear C2 cnt2 mk2
              go_wp2_with (go_at_call 11; refine (lives4 _).mono ?_; rintro e w' ⟨rfl, hbl⟩)
              go_ret
              exact ⟨rfl, B2.trans (hbl.mono B2.size)⟩
end Go.Proofs.Ytfakgemifbgafaa

/- Dice: Split and Order. -/
import Derived.Test.YtfakgemifbgafaaDcD
import Derived.Deep.OwnRows
import Derived.RegionCalls
namespace Go.Proofs.Ytfakgemifbgafaa
open Go.RowKit

theorem split_any {X : Nat → Prop} (b : Nat) (n : Int) (ds : List Nat) (w : World) (D : Dic X b ds w) : Calls Try.prog 41 #[.pointer (some ⟨b, 0, none⟩), .int .i64 n] w fun e w' =>
    ∃ w1, Dic X b (ds.drop (clip n ds.length)) w1 ∧ Only (· = b) w w1 ∧ Fresh w1 (ds.take (clip n ds.length)) e w' := by
  have hC := created_yes b ds w D
  have hT := take_any b n ds w D
  clear D
  go_enter Try.func41, Try.ntmps41
  go_wp2_with fail
  refine hC.mono ?_
  rintro e w' ⟨rfl, rfl⟩
  go_wp2_with fail
  refine hT.mono ?_
  rintro e w1 ⟨v, rfl, hR, -, D1, O1⟩
  go_wp2_with fail
  refine (new_dice v _ w1 hR).mono ?_
  rintro e w2 ⟨b', v', rfl, hF⟩
  go_wp2_with fail
  go_ret
  exact ⟨w1, D1, O1, b', v', rfl, hF⟩
theorem split_nil (n : Int) (w : World) : Calls Try.prog 41 #[.pointer none, .int .i64 n] w fun e w' => e = .returned (.pointer none) ∧ w = w' := by
  go_enter Try.func41, Try.ntmps41
  go_wp2_with (go_at_call 71; refine (created_nil _).mono ?_; rintro e w' ⟨rfl, rfl⟩)
  go_ret
  exact ⟨rfl, rfl⟩

/-- The row that Order fills: its block N, its variable behind it. -/
structure Ord (N : Nat) (l : List Int) (w : World) : Prop where
  v : w.cell? ⟨N + 1, 0, none⟩ = some (.slice (some ⟨N, 0, none⟩) l.length l.length)
  c : ∀ i, i < l.length → w.cell? ⟨N, i, none⟩ = some (.int .i64 (l.getD i 0))
  free : ∀ i, w.frozen? ⟨N, i, none⟩ = false
theorem Ord.only {Y : Nat → Prop} {N : Nat} {l : List Int} {w w' : World} (T : Ord N l w) (h0 : ¬ Y N) (h1 : ¬ Y (N + 1)) (hN : N < w.heap.size) (o : Only Y w w') : Ord N l w' :=
  ⟨(o.cell (p := ⟨N + 1, 0, none⟩) (cell_spot T.v).2 h1).trans T.v, fun i hi => (o.cell (p := ⟨N, i, none⟩) hN h0).trans (T.c i hi), fun i => (World.frozen?_of_block (a := ⟨N, i, none⟩) (o.block N hN h0)).trans (T.free i)⟩
theorem Ord.drew {N : Nat} {l : List Int} {w : World} (T : Ord N l w) : Ord N l w.drew := ⟨T.v, T.c, T.free⟩
theorem Ord.set {N : Nat} {l : List Int} {w : World} (T : Ord N l w) (i : Nat) (x : Int) (hi : i < l.length) : Ord N (l.set i x) (w.setCell ⟨N, i, none⟩ (.int .i64 x)) := by
  refine ⟨?_, fun j hj => ?_, fun j => by simpa using T.free j⟩
  · rw [List.length_set]
    exact (World.cell?_setCell_other _ ⟨N, i, none⟩ ⟨N + 1, 0, none⟩ _ (fun e => by injection e with e1 e2; omega)).trans T.v
  · rw [List.length_set] at hj
    by_cases h : j = i
    · subst h
      rw [World.cell?_setCell_same _ _ _ (T.c j hj)]
      simp [hj]
    · refine (World.cell?_setCell_other _ ⟨N, i, none⟩ ⟨N, j, none⟩ _ (fun e => by injection e with e1 e2; omega)).trans ?_
      rw [T.c j hj]
      simp [List.getElem?_set, Ne.symm h]

set_option maxRecDepth 100000 in
set_option maxHeartbeats 4000000 in
/-- Two places exchanged. -/
theorem exchange_any (N i j : Nat) (l : List Int) (w : World) (T : Ord N l w) (hi : i < l.length) (hj : j < l.length) (hl : l.length ≤ 65536) :
    Calls Try.prog 72 #[.int .i64 (i : Int), .int .i64 (j : Int), .pointer (some ⟨N + 1, 0, none⟩)] w fun e w' => e = .returned (.tuple #[]) ∧ Ord N (swap l i j) w' ∧ Only (· = N) w w' ∧ w'.heap.size = w.heap.size := by
  have fin : Ord N (swap l i j) ((w.setCell ⟨N, i, none⟩ (.int .i64 (l.getD j 0))).setCell ⟨N, j, none⟩ (.int .i64 (l.getD i 0))).drew ∧ Only (· = N) w ((w.setCell ⟨N, i, none⟩ (.int .i64 (l.getD j 0))).setCell ⟨N, j, none⟩ (.int .i64 (l.getD i 0))).drew :=
    ⟨((T.set i _ hi).set j _ (by simpa using hj)).drew, (((Only.refl (fun k => k = N) w).setCell ⟨N, i, none⟩ _ rfl).setCell ⟨N, j, none⟩ _ rfl).drew⟩
  have hv := T.v
  have ci := T.c i hi
  have cj := T.c j hj
  have zi := T.free i
  have zj := T.free j
  obtain ⟨x, hx⟩ : ∃ x, l.getD i 0 = x := ⟨_, rfl⟩
  obtain ⟨y, hy⟩ : ∃ y, l.getD j 0 = y := ⟨_, rfl⟩
  obtain ⟨n, hn⟩ : ∃ n, l.length = n := ⟨_, rfl⟩
  rw [hx, hy] at fin
  rw [hx] at ci
  rw [hy] at cj
  rw [hn] at hv hi hj hl
  have FIN := Lib.hid fin
  clear fin T hx hy hn
  have i0 : (0 : Int) ≤ (i : Int) := by omega
  have i1 : (i : Int) < (n : Int) := by omega
  have j0 : (0 : Int) ≤ (j : Int) := by omega
  have j1 : (j : Int) < (n : Int) := by omega
  by_cases hij : i = j
  · subst hij
    obtain rfl : x = y := by rw [ci] at cj; injection cj with e; injection e
    go_enter Try.func72, Try.ntmps72
    go_wp2
    go_region
    all_goals (go_end0; exact ⟨rfl, FIN.out.1, FIN.out.2, by simp⟩)
  · have hne : (⟨N, i, none⟩ : Addr) ≠ ⟨N, j, none⟩ := fun e => by injection e with e1 e2; omega
    go_enter Try.func72, Try.ntmps72
    go_wp2
    go_region
    all_goals (go_end0; exact ⟨rfl, FIN.out.1, FIN.out.2, by simp⟩)
/-- A row of numbers that can be read, from block B on. -/
def RowI (B : Nat) (v : Value) (l : List Int) (w : World) : Prop := ∃ g c, v = .slice (some ⟨g, 0, none⟩) l.length c ∧ B ≤ g ∧ ∀ i, i < l.length → w.cell? ⟨g, i, none⟩ = some (.int .i64 (l.getD i 0))
theorem asc_at (n i : Nat) (hi : i < n) : (asc n).getD i 0 = (i : Int) := by simp [asc, hi]
theorem asc_of (n : Nat) (l : List Int) (hl : l.length = n) (h : ∀ i, i < n → l.getD i 0 = (i : Int)) : l = asc n := by
  apply List.ext_getElem (by rw [hl, asc_length])
  intro i h1 h2
  have e := h i (by omega)
  have e2 := asc_at n i (by omega)
  rw [List.getD_eq_getElem?_getD, List.getElem?_eq_getElem h1, Option.getD_some] at e
  rw [List.getD_eq_getElem?_getD, List.getElem?_eq_getElem h2, Option.getD_some] at e2
  rw [e, e2]
theorem ints_info' : (Try.prog.info? 3).map (fun i => (i.zero, i.size, i.bytes)) = some (some (.int .i64 0), 1, 8) := by kernel_rfl

theorem order_none (v : Value) (n : Int) (w : World) (h : n < 1 ∨ 65536 < n) : Calls Try.prog 39 #[v, .int .i64 n] w fun e w' => e = .returned (.slice none 0 0) ∧ w = w' := by
  by_cases h1 : n < 1
  · have d1 : decide (n < 1) = true := by simp [h1]
    go_enter Try.func39, Try.ntmps39
    go_wp2_with fail
    go_ret
    exact ⟨rfl, rfl⟩
  · have d1 : decide (n < 1) = false := by simp; omega
    have d2 : decide (65536 < n) = true := by simp; omega
    go_enter Try.func39, Try.ntmps39
    go_wp2_with fail
    go_ret
    exact ⟨rfl, rfl⟩

theorem made_at0 (v : Value) (n i : Nat) (hi : i < n) : (madeCells #[v] n)[i]? = some v := by simp [madeCells, hi, Nat.mod_one]
theorem ord_new (n : Nat) (w : World) : Ord w.heap.size (List.replicate n 0) ((w.alloc (.cells (madeCells #[.int .i64 0] n) 3)).alloc (.cells #[.slice (some ⟨w.heap.size, 0, none⟩) n n] 24)) := by
  refine ⟨?_, fun i hi => ?_, fun i => ?_⟩
  · rw [List.length_replicate, World.cell?_alloc_at _ _ _ _ (by simp)]; rfl
  · rw [List.length_replicate] at hi
    rw [World.cell?_alloc_past _ _ _ (by simp), World.cell?_alloc_at _ _ _ _ rfl, made_at0 _ _ _ hi]
    simp [hi]
  · rw [frozen?_alloc_cells, frozen?_alloc_cells]
    have : w.heap[w.heap.size]? = none := by simp
    simp [World.frozen?, this]

set_option maxRecDepth 100000 in
set_option maxHeartbeats 4000000 in
theorem order_dic {X : Nat → Prop} (b n : Nat) (ds : List Nat) (w : World) (D : Dic X b ds w) (h1 : 1 ≤ n) (h2 : n ≤ 65536) :
    Calls Try.prog 39 #[.pointer (some ⟨b, 0, none⟩), .int .i64 (n : Int)] w fun e w' => ∃ v, e = .returned v ∧ RowI w.heap.size v (ord (n - 1) (asc n) ds).1 w' ∧ Dic X b (ord (n - 1) (asc n) ds).2 w' ∧ Only (· = b) w w' := by
  have d1 : decide ((n : Int) < 1) = false := by simp; omega
  have d2 : decide (65536 < (n : Int)) = false := by simp; omega
  have hmi := run_make_row' (P := Try.prog) 24 3 (.int .i64 0) 8 Try.underlying24 ints_info' rfl .i64 .i64 n (by omega) (by omega)
  have hmf : ∀ (fn : Fn) (first cap : Array Value) (w : World), (Instr.makeFunc fn first cap).run Try.prog w = .ok (.func fn first cap) w := fun _ _ _ _ => rfl
  have T0 := ord_new n w
  have B0 : Below w.heap.size w ((w.alloc (.cells (madeCells #[.int .i64 0] n) 3)).alloc (.cells #[.slice (some ⟨w.heap.size, 0, none⟩) n n] 24)) := ((Below.refl _ _).alloc (Nat.le_refl _) _).alloc (by simp) _
  have S0 : w.heap.size + 1 < ((w.alloc (.cells (madeCells #[.int .i64 0] n) 3)).alloc (.cells #[.slice (some ⟨w.heap.size, 0, none⟩) n n] 24)).heap.size := by simp
  have hbl := D.lt
  have HD := Lib.hid D
  clear D
  go_enter Try.func39, Try.ntmps39
  go_wp2_with fail
  go_loopw [6, 19] (fun _ i wr => ∃ k : Nat, k ≤ n ∧ i = .int .i64 k ∧ Below w.heap.size w wr ∧ w.heap.size + 1 < wr.heap.size ∧ ∃ l, l.length = n ∧ Ord w.heap.size l wr ∧ ∀ j, j < k → l.getD j 0 = (j : Int)) (fun _ i _ => n - (intOf i).toNat)
  case atStart => exact ⟨0, Nat.zero_le _, rfl, B0, S0, _, by simp, T0, fun j hj => by omega⟩
  case round =>
    clear T0 B0 S0
    obtain ⟨k, hk, rfl, hB, hS, l, hl, T, hq⟩ := hrel
    by_cases hlt : k < n
    · have hv := T.v
      have hck := T.c k (by omega)
      have hz := T.free k
      have T2 := T.set k (k : Int) (by omega)
      have B2 : Below w.heap.size w (wr.setCell ⟨w.heap.size, k, none⟩ (.int .i64 (k : Int))) := hB.setCell (Nat.le_refl _) _
      rw [hl] at hv
      have HQ : Hid (∀ j, j < k + 1 → (l.set k (k : Int)).getD j 0 = (j : Int)) := Lib.hid fun j hj => by
        by_cases e : j = k
        · subst e; simp [hl, hlt]
        · have := hq j (by omega)
          simp only [List.getD_eq_getElem?_getD, List.getElem?_set] at this ⊢
          rw [if_neg (by omega)]; exact this
      have HL := Lib.hid hl
      have k0 : (0 : Int) ≤ (k : Int) := by omega
      have kn : (k : Int) < (n : Int) := by omega
      have d3 : decide ((k : Int) < (n : Int)) = true := by simp [hlt]
      clear hq hl T hB
      go_wp2_with fail
      go_roundw
      case rel => exact ⟨k + 1, by omega, by go_num, B2, by simpa using hS, _, by simpa using HL.out, T2, HQ.out⟩
      case measure => simp [intOf]; omega
    · obtain rfl : k = n := by omega
      obtain rfl := asc_of k l hl hq
      have D1 : Dic (fun j => X j ∨ w.heap.size ≤ j) b ds wr := ((HD.out).more w.heap.size (Nat.le_refl _)).kept hB
      have hC := created_yes b ds wr D1
      have O1 : Only (fun j => j = b ∨ w.heap.size ≤ j) w wr := Only.below hB
      have HD1 := Lib.hid D1
      clear hq hl D1 hB
      obtain ⟨wo, rfl⟩ : ∃ wo : World, wo = wr := ⟨_, rfl⟩
      have k1 : (1 : Int) ≤ (k : Int) := by omega
      have k2 : (k : Int) ≤ 65536 := by omega
      go_wp2_with (go_at_call 71; refine hC.mono ?_; rintro e w' ⟨rfl, rfl⟩)
      go_loopw [8, 9, 34] (fun _ _ i wr => ∃ q : Nat, q + 1 ≤ k ∧ i = .int .i64 q ∧ Only (fun j => j = b ∨ w.heap.size ≤ j) w wr ∧ w.heap.size + 1 < wr.heap.size ∧
        ∃ l bs, l.length = k ∧ Ord w.heap.size l wr ∧ Dic (fun j => X j ∨ w.heap.size ≤ j) b bs wr ∧ ord (k - 1 - q) l bs = ord (k - 1) (asc k) ds) (fun _ _ i _ => k - 1 - (intOf i).toNat)
      case atStart => exact ⟨0, by omega, rfl, O1, hS, _, _, asc_length k, T, HD1.out, rfl⟩
      case round =>
        clear T O1 hS HD1 hC
        obtain ⟨q, hqk, rfl, hO, hS, l, bs, hl, T, D, hord⟩ := hrel
        by_cases hlt2 : q + 1 < k
        · obtain ⟨m, hm⟩ : ∃ m, k = m + q + 2 := ⟨k - 2 - q, by omega⟩
          have he : (k : Int) - 1 - (q : Int) = (m : Int) + 1 := by omega
          have hB := below_any b (m + 2) bs wr D (by omega)
          have hlt3 := below_lt (m + 2) bs (by omega)
          have hor : ord (m + 1) l bs = ord m (swap l (m + 1) (below (m + 2) bs).1) (below (m + 2) bs).2 := rfl
          have ec : ((m + 2 : Nat) : Int) = (m : Int) + 1 + 1 := by omega
          have ec' : ((m + 1 : Nat) : Int) = (m : Int) + 1 := by omega
          rw [ec] at hB
          have d5 : decide ((q : Int) < (k : Int) - 1) = true := by simp; omega
          have q0 : (0 : Int) ≤ (q : Int) := by omega
          have m0 : (0 : Int) ≤ (m : Int) := by omega
          have m1 : (m : Int) ≤ 65534 := by omega
          have hk1 : k - 1 - q = m + 1 := by omega
          rw [hk1, hor] at hord
          obtain ⟨r, hr⟩ : ∃ r, below (m + 2) bs = r := ⟨_, rfl⟩
          rw [hr] at hB hlt3 hord
          have r0 : (0 : Int) ≤ (r.1 : Int) := by omega
          have r1 : (r.1 : Int) ≤ 65536 := by omega
          have hX := fun (w2 : World) (T2 : Ord w.heap.size l w2) => exchange_any w.heap.size (m + 1) r.1 l w2 T2 (by omega) (by omega) (by omega)
          rw [ec'] at hX
          have HORD := Lib.hid hord
          have HL := Lib.hid hl
          have HM := Lib.hid hm
          have HK1 := Lib.hid hk1
          clear hord hl hm hk1 D hor hr ec ec'
          go_wp2_with fail
          refine hB.mono ?_
          rintro e w2 ⟨rfl, D2, O2⟩
          have T2 := T.only (Y := (· = b)) (by omega) (by omega) (by omega) O2
          have hX2 := hX w2 T2
          clear hB hX T T2
          go_wp2_with fail
          refine hX2.mono ?_
          rintro e w3 ⟨rfl, T3, O3, S3⟩
          have D3 : Dic (fun j => X j ∨ w.heap.size ≤ j) b r.2 w3 := D2.only (fun j hj => .inr (by omega)) (by omega) O3
          have O4 : Only (fun j => j = b ∨ w.heap.size ≤ j) w w3 := (hO.trans (O2.more fun j hj => .inl hj)).trans (O3.more fun j hj => .inr (by omega))
          have S4 : w.heap.size + 1 < w3.heap.size := by have := O2.size; omega
          clear hX2 O2 O3 S3 D2 hO hS
          go_wp2_with fail
          go_roundw
          case rel => exact ⟨q + 1, by have := HM.out; omega, by go_num, O4, S4, _, r.2, by rw [swap_length]; exact HL.out, T3, D3, by rw [show k - 1 - (q + 1) = m by have := HM.out; omega]; exact HORD.out⟩
          case measure => have := HM.out; simp [intOf]; omega
        · obtain rfl : k = q + 1 := by omega
          have hv := T.v
          have d5 : decide ((q : Int) < ((q + 1 : Nat) : Int) - 1) = false := decide_eq_false (by omega)
          rw [show q + 1 - 1 - q = 0 from by omega] at hord
          have hord' : ord (q + 1 - 1) (asc (q + 1)) ds = (l, bs) := hord.symm
          have fin : RowI w.heap.size (.slice (some ⟨w.heap.size, 0, none⟩) (q + 1) (q + 1)) l wr := ⟨w.heap.size, q + 1, by rw [hl], Nat.le_refl _, T.c⟩
          have D4 : Dic X b bs wr := D.less (fun k hk => .inl hk) (HD.out).x
          have O4 : Only (· = b) w wr := ⟨hO.os, hO.tape, hO.output, hO.size, fun j hj hjb => hO.block j hj (by omega)⟩
          have HF : Hid (RowI w.heap.size (.slice (some ⟨w.heap.size, 0, none⟩) (q + 1) (q + 1)) (ord (q + 1 - 1) (asc (q + 1)) ds).1 wr ∧ Dic X b (ord (q + 1 - 1) (asc (q + 1)) ds).2 wr ∧ Only (· = b) w wr) := Lib.hid (by rw [hord']; exact ⟨fin, D4, O4⟩)
          clear hord hord' fin D4 O4 D T hO
          go_wp2_with fail
          go_ret
          exact ⟨_, rfl, HF.out⟩
end Go.Proofs.Ytfakgemifbgafaa

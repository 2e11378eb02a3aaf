/- The reference's dice: many, take, Below, Between, Chance. -/
import Derived.Test.YtfakgemifbgafaaDcG
namespace Go.Proofs.Ytfakgemifbgafaa
open Go.RowKit

/-- The reference's dice in block r with the bytes bs left, which lie in no block of X. -/
structure Rdc (X : Nat → Prop) (r : Nat) (bs : List Nat) (w : World) : Prop where
  x : X r
  rest : ∃ v, w.cell? ⟨r, 0, none⟩ = some v ∧ RB w v bs ∧ Out X v ∧ Lies w v
  free : ∀ j, w.frozen? ⟨r, j, none⟩ = false
theorem Rdc.only {X Y : Nat → Prop} {r : Nat} {bs : List Nat} {w w' : World} (D : Rdc X r bs w) (hY : ∀ k, Y k → X k) (hb : ¬ Y r) (o : Only Y w w') : Rdc X r bs w' := by
  obtain ⟨v, h1, h2, h3, h4⟩ := D.rest
  have hlt := (cell_spot h1).2
  exact ⟨D.x, ⟨v, (o.cell (p := ⟨r, 0, none⟩) hlt hb).trans h1, rb_only h2 h3 hY o, h3, fun k hk => Nat.lt_of_lt_of_le (h4 k hk) o.size⟩, fun j => (World.frozen?_of_block (a := ⟨r, j, none⟩) (o.block r hlt hb)).trans (D.free j)⟩
theorem Rdc.kept {X : Nat → Prop} {r : Nat} {bs : List Nat} {w w' : World} (D : Rdc X r bs w) (h : Below w.heap.size w w') : Rdc X r bs w' := D.only (Y := fun _ => False) (fun _ h => h.elim) id (Only.below h)
theorem Rdc.lt {X : Nat → Prop} {r : Nat} {bs : List Nat} {w : World} (D : Rdc X r bs w) : r < w.heap.size := by
  obtain ⟨v, h1, _⟩ := D.rest
  exact (cell_spot h1).2
theorem Rdc.set {X : Nat → Prop} {r : Nat} {bs cs : List Nat} {w : World} {v' : Value} (D : Rdc X r bs w) (h : RB w v' cs) (ho : Out X v') (hl : Lies w v') : Rdc X r cs (w.setCell ⟨r, 0, none⟩ v') := by
  obtain ⟨v, h1, h2, h3, h4⟩ := D.rest
  have o : Only (· = r) w (w.setCell ⟨r, 0, none⟩ v') := (Only.refl (fun k => k = r) w).setCell ⟨r, 0, none⟩ _ rfl
  exact ⟨D.x, ⟨v', World.cell?_setCell_same _ _ _ h1, rb_only h ho (fun k hk => by subst hk; exact D.x) o, ho, fun k hk => by simpa using hl k hk⟩, fun j => by simpa using D.free j⟩
theorem Rdc.more {X : Nat → Prop} {r : Nat} {bs : List Nat} {w : World} (D : Rdc X r bs w) (B : Nat) (hB : w.heap.size ≤ B) : Rdc (fun k => X k ∨ B ≤ k) r bs w := by
  obtain ⟨v, h1, h2, h3, h4⟩ := D.rest
  exact ⟨.inl D.x, ⟨v, h1, h2, fun k hk hx => hx.elim (h3 k hk) (fun h => by have := h4 k hk; omega), h4⟩, D.free⟩
theorem Rdc.less {X Y : Nat → Prop} {r : Nat} {bs : List Nat} {w : World} (D : Rdc Y r bs w) (hX : ∀ k, X k → Y k) (hb : X r) : Rdc X r bs w := by
  obtain ⟨v, h1, h2, h3, h4⟩ := D.rest
  exact ⟨hb, ⟨v, h1, h2, fun k hk hx => h3 k hk (hX k hx), h4⟩, D.free⟩

theorem many_any (n : Nat) (w : World) (h1 : 1 ≤ n) (hn : n < 18446744073709551616) : Calls Try.prog 75 #[.int .u64 (n : Int)] w fun e w' => e = .returned (.int .i64 ((sz (n - 1) : Nat) : Int)) ∧ w = w' := by
  obtain ⟨m, rfl⟩ : ∃ m, n = m + 1 := ⟨n - 1, by omega⟩
  rw [Nat.add_sub_cancel]
  have e1 : IntKind.u64.wrap (((m + 1 : Nat) : Int) - 1) = (m : Int) := by rw [IntKind.wrap_u64]; omega
  have h8 := sz_le m (by omega)
  go_enter Try.func75, Try.ntmps75
  go_wp2_with fail
  go_loop [3, 4] (fun k t => ∃ (i x : Nat), k = .int .i64 (i : Int) ∧ t = .int .u64 (x : Int) ∧ x < 18446744073709551616 ∧ i + sz x = sz m) (fun _ t => (intOf t).toNat)
  case atStart => exact ⟨0, m, rfl, rfl, by omega, by omega⟩
  case round =>
    obtain ⟨i, x, rfl, rfl, hx, hs⟩ := hrel
    by_cases h0 : 0 < x
    · have hst := sz_step x h0
      have d1 : decide (0 < (x : Int)) = true := by simp [h0]
      have d2 : decide (0 < x) = true := by simp [h0]
      have i0 : (0 : Int) ≤ (i : Int) := by omega
      have i8 : (i : Int) ≤ 8 := by omega
      have HS := Lib.hid hs
      have HT := Lib.hid hst
      have x0 : (0 : Int) ≤ (x : Int) := by omega
      have x1 : (x : Int) < 18446744073709551616 := by omega
      clear hs hst
      go_wp2_with fail
      go_round
      case rel => exact ⟨i + 1, x / 256, by go_num, by go_num, by omega, by have := HS.out; have := HT.out; omega⟩
      case measure => simp [intOf]; omega
    · obtain rfl : x = 0 := by omega
      have d1 : decide ((0 : Int) < ((0 : Nat) : Int)) = false := by decide
      rw [sz_zero] at hs
      obtain rfl : i = sz m := by omega
      go_wp2_with fail
      go_ret
      exact ⟨rfl, rfl⟩

/-- The scale of byte i, modulo 2^64. -/
def scl (i : Nat) : Nat := 2 ^ (8 * i) % 18446744073709551616
theorem scl_small (i : Nat) (h : i ≤ 7) : scl i = 2 ^ (8 * i) := by
  have := pow_small i h
  exact Nat.mod_eq_of_lt (by omega)
theorem scl_step (i : Nat) (h : i ≤ 7) : IntKind.u64.wrap (((scl i : Nat) : Int) * 256) = ((scl (i + 1) : Nat) : Int) := by
  rw [IntKind.wrap_u64, scl_small i h]
  unfold scl
  rw [show 8 * (i + 1) = 8 * i + 8 from by omega, Nat.pow_add]
  omega

/-- A number out of the reference's dice. -/
def Rdrawn (X : Nat → Prop) (r : Nat) (n : Int) (es : List Nat) (w : World) (e : Ending) (w' : World) : Prop := e = .returned (.int .u64 n) ∧ Rdc X r es w' ∧ Only (· = r) w w'
theorem drop_cons (l : List Nat) (i : Nat) (h : i < l.length) : l.drop i = l.getD i 0 :: l.drop (i + 1) := by
  rw [List.drop_eq_getElem_cons h]; simp [h]

set_option maxRecDepth 100000 in
set_option maxHeartbeats 4000000 in
theorem rtake_any {X : Nat → Prop} (r k : Nat) (bs : List Nat) (w : World) (D : Rdc X r bs w) (hk : k ≤ 8) : Calls Try.prog 70 #[.pointer (some ⟨r, 0, none⟩), .int .i64 (k : Int)] w (Rdrawn X r (lo (bs.take k) : Nat) (bs.drop k) w) := by
  have hlt256 : ∀ c ∈ bs, c < 256 := by obtain ⟨v, _, h2, _⟩ := D.rest; exact h2.1
  have H256 := Lib.hid hlt256
  have HD := Lib.hid D
  clear hlt256 D
  go_enter Try.func70, Try.ntmps70
  go_wp2_with fail
  go_loopw [5, 6, 7] (fun s c i wr => ∃ j : Nat, j ≤ k ∧ i = .int .i64 (j : Int) ∧ s = .int .u64 ((lo (bs.take j) : Nat) : Int) ∧ c = .int .u64 ((scl j : Nat) : Int) ∧ Rdc X r (bs.drop j) wr ∧ Only (· = r) w wr) (fun _ _ i _ => k - (intOf i).toNat)
  case atStart => exact ⟨0, Nat.zero_le _, rfl, rfl, rfl, HD.out, Only.refl _ _⟩
  case round =>
    obtain ⟨j, hj, rfl, rfl, rfl, D, O⟩ := hrel
    by_cases hlt : j < k
    · have hsc := scl_step j (by omega)
      have j0 : (0 : Int) ≤ (j : Int) := by omega
      have j1 : (j : Int) ≤ 7 := by omega
      have d1 : decide ((j : Int) < (k : Int)) = true := by simp [hlt]
      obtain ⟨v, h1, h2, h3, h4⟩ := D.rest
      have hz := D.free 0
      by_cases hlen : j < bs.length
      · have hst := lo_step bs j hlen
        have hsm := lo_small bs H256.out j
        have hc := H256.out (bs.getD j 0) (by simp [hlen])
        have hcons := drop_cons bs j hlen
        rw [← scl_small j (by omega)] at hst hsm
        have hp := pow_small j (by omega)
        rw [← scl_small j (by omega)] at hp
        obtain ⟨c, hcc⟩ : ∃ c, bs.getD j 0 = c := ⟨_, rfl⟩
        obtain ⟨x, hx⟩ : ∃ x, lo (bs.take j) = x := ⟨_, rfl⟩
        obtain ⟨s, hs⟩ : ∃ s, scl j = s := ⟨_, rfl⟩
        obtain ⟨s1, hs1⟩ : ∃ s, scl (j + 1) = s := ⟨_, rfl⟩
        obtain ⟨y, hy⟩ : ∃ y, lo (bs.take (j + 1)) = y := ⟨_, rfl⟩
        rw [hcc] at hst hc hcons
        rw [hx, hs, hy] at hst
        rw [hx, hs] at hsm
        rw [hs] at hp
        rw [hs, hs1] at hsc
        rw [hx, hs]
        have hcs : c * s ≤ 255 * s := Nat.mul_le_mul_right _ (by omega)
        obtain ⟨p, hp2⟩ : ∃ p, c * s = p := ⟨_, rfl⟩
        rw [hp2] at hst hcs
        have hmul : IntKind.u64.wrap ((c : Int) * (s : Int)) = (p : Int) := by
          rw [show (c : Int) * (s : Int) = (p : Int) by rw [← hp2]; push_cast; rfl, IntKind.wrap_u64]; omega
        have hadd : IntKind.u64.wrap ((x : Int) + (p : Int)) = (y : Int) := by rw [IntKind.wrap_u64]; omega
        have HY := Lib.hid hy
        have HS1 := Lib.hid hs1
        clear hst hsm hx hs hs1 hy hp2 hcs hp hcc
        rw [hcons] at h2 D
        rcases h2.2.2 with ⟨hv, hd0⟩ | ⟨xa, cap, hv, hcl, hcm, hcell⟩
        · simp at hd0
        · have h0 := hcell 0 (by simp)
          obtain ⟨xb, xo, xs⟩ := xa
          obtain rfl : xs = none := by
            have := (cell_spot h0).1
            simp [Addr.add] at this
            exact this
          rw [add_at, Nat.add_zero] at h0
          simp only [List.getD_cons_zero] at h0
          obtain ⟨L, hL⟩ : ∃ L, (c :: bs.drop (j + 1)).length = L := ⟨_, rfl⟩
          have hL2 := h2.2.1
          rw [hL] at hv hcl hL2
          have HK : Hid (∀ (y : Addr) (n c' : Nat), (y = (⟨xb, xo, none⟩ : Addr).add 1 ∨ 1 = L) → (y = ⟨xb, xo, none⟩ ∨ ∃ q, y = (⟨xb, xo, none⟩ : Addr).add q) → n = L - 1 → n ≤ c' → c' ≤ maxLen → Rdc X r (bs.drop (j + 1)) (wr.setCell ⟨r, 0, none⟩ (.slice (some y) n c')) ∧ Only (· = r) w (wr.setCell ⟨r, 0, none⟩ (.slice (some y) n c'))) :=
            Lib.hid fun y n c' e1 e1' e2 e3 e4 => by
              subst hv
              have hdr := rb_drop h2 1 (by simp) (by rw [hL]; exact e1) (by rw [hL]; exact e2) e3 e4
              simp only [List.drop_succ_cons, List.drop_zero] at hdr
              exact ⟨D.set hdr (out_addr h3 e1') (lies_addr h4 e1'), O.setCell _ _ rfl⟩
          have HM := Lib.hid hcm
          have HLL : Hid (1 ≤ L) := Lib.hid (by rw [← hL]; simp)
          subst hv
          have l0 : (0 : Int) < (L : Int) := by have := HLL.out; omega
          have l00 : decide ((0 : Int) < (L : Int)) = true := by simp; have := HLL.out; omega
          have l01 : decide (0 < L) = true := by simp; have := HLL.out; omega
          have l1 : (1 : Int) ≤ (L : Int) := by omega
          have l2 : (L : Int) ≤ 140737488351232 := by omega
          clear hcell hL hcm h2 h3 h4 D O hcons
          by_cases hcn : cap = 1
          · subst hcn
            obtain rfl : L = 1 := by have := HLL.out; omega
            go_wp2_with fail
            go_roundw
            case rel =>
              have K := HK.out ⟨xb, xo, none⟩ 0 0 (.inr rfl) (.inl rfl) rfl (by omega) (by simp)
              exact ⟨j + 1, by omega, by go_num, by rw [HY.out], by rw [HS1.out], K.1, K.2⟩
            case measure => simp [intOf]; omega
          · go_wp2_with fail
            go_roundw
            case rel =>
              have K := HK.out ⟨xb, xo + 1, none⟩ (L - 1) (cap - 1) (.inl (add_at _ _ _).symm) (.inr ⟨1, (add_at _ _ _).symm⟩) rfl (by omega) (by have := HM.out; omega)
              exact ⟨j + 1, by omega, by go_num, by rw [HY.out], by rw [HS1.out], K.1, K.2⟩
            case measure => simp [intOf]; omega
      · have e1 : bs.drop j = [] := List.drop_of_length_le (by omega)
        have e2 : bs.drop (j + 1) = [] := List.drop_of_length_le (by omega)
        have e3 : bs.take (j + 1) = bs.take j := by rw [List.take_of_length_le (by omega), List.take_of_length_le (by omega)]
        obtain ⟨s, hs⟩ : ∃ s, scl j = s := ⟨_, rfl⟩
        obtain ⟨s1, hs1⟩ : ∃ s, scl (j + 1) = s := ⟨_, rfl⟩
        obtain ⟨x, hx⟩ : ∃ x, lo (bs.take j) = x := ⟨_, rfl⟩
        rw [hs, hs1] at hsc
        rw [hx, hs]
        rw [e1] at h2 D
        have F : Hid (lo (bs.take (j + 1)) = x ∧ scl (j + 1) = s1 ∧ Rdc X r (bs.drop (j + 1)) wr ∧ Only (· = r) w wr) := Lib.hid ⟨by rw [e3, hx], hs1, by rw [e2]; exact D, O⟩
        obtain ⟨a, cap, hv, _, _⟩ := h2.shape
        subst hv
        clear e1 e2 e3 hs hs1 hx h2 h3 h4 D O
        go_wp2_with fail
        go_roundw
        case rel => exact ⟨j + 1, by omega, by go_num, by rw [F.out.1], by rw [F.out.2.1], F.out.2.2.1, F.out.2.2.2⟩
        case measure => simp [intOf]; omega
    · obtain rfl : j = k := by omega
      have d1 : decide (((j : Nat) : Int) < (j : Int)) = false := by simp
      obtain ⟨x, hx⟩ : ∃ x, lo (bs.take j) = x := ⟨_, rfl⟩
      have HX := Lib.hid hx
      rw [hx]
      clear hx
      go_wp2_with fail
      go_ret
      exact ⟨by rw [HX.out]; rfl, D, O⟩

theorem rbelow_any {X : Nat → Prop} (r n : Nat) (bs : List Nat) (w : World) (D : Rdc X r bs w) (hn : n < 18446744073709551616) : Calls Try.prog 45 #[.pointer (some ⟨r, 0, none⟩), .int .u64 (n : Int)] w (Rdrawn X r ((below n bs).1 : Nat) (below n bs).2 w) := by
  unfold below
  by_cases h : n < 2
  · rw [if_pos h]
    have d1 : decide ((n : Int) < 2) = true := by simp; omega
    have d2 : decide (n < 2) = true := by simp [h]
    have fin : Rdrawn X r ((0 : Nat) : Int) bs w (.returned (.int .u64 0)) w := ⟨rfl, D, Only.refl _ _⟩
    clear D
    go_enter Try.func45, Try.ntmps45
    go_wp2_with fail
    go_ret
    exact fin
  · rw [if_neg h]
    have d1 : decide ((n : Int) < 2) = false := by simp; omega
    have d2 : decide (n < 2) = false := by simp; omega
    have hM := many_any n w (by omega) hn
    have h8 := sz_le (n - 1) (by omega)
    have hT := rtake_any r (sz (n - 1)) bs w D h8
    obtain ⟨s, hs⟩ : ∃ s, sz (n - 1) = s := ⟨_, rfl⟩
    rw [hs] at hM hT ⊢
    obtain ⟨v, hv⟩ : ∃ v, lo (bs.take s) = v := ⟨_, rfl⟩
    rw [hv] at hT ⊢
    have n0 : (2 : Int) ≤ (n : Int) := by omega
    clear hs hv D h8
    go_enter Try.func45, Try.ntmps45
    go_wp2_with fail
    refine hM.mono ?_
    rintro e w' ⟨rfl, rfl⟩
    go_wp2_with fail
    refine hT.mono ?_
    rintro e w2 ⟨rfl, D2, O2⟩
    go_wp2_with fail
    go_ret
    exact ⟨rfl, D2, O2⟩
theorem rchance_any {X : Nat → Prop} (r n : Nat) (k : Int) (bs : List Nat) (w : World) (D : Rdc X r bs w) (hn : n < 18446744073709551616) : Calls Try.prog 37 #[.pointer (some ⟨r, 0, none⟩), .int .u64 k, .int .u64 (n : Int)] w fun e w' => e = .returned (.bool (decide (((below n bs).1 : Int) < k))) ∧ Rdc X r (below n bs).2 w' ∧ Only (· = r) w w' := by
  have hB := rbelow_any r n bs w D hn
  obtain ⟨q, hq⟩ : ∃ q, below n bs = q := ⟨_, rfl⟩
  rw [hq] at hB ⊢
  clear hq D
  go_enter Try.func37, Try.ntmps37
  go_wp2_with fail
  refine hB.mono ?_
  rintro e w2 ⟨rfl, D2, O2⟩
  go_wp2_with fail
  go_ret
  exact ⟨rfl, D2, O2⟩

/-- A number from low to high, the reference's. -/
def Rdrawn64 (X : Nat → Prop) (r : Nat) (n : Int) (es : List Nat) (w : World) (e : Ending) (w' : World) : Prop := e = .returned (.int .i64 n) ∧ Rdc X r es w' ∧ Only (· = r) w w'
theorem two_wraps (a b : Int) : wrap64 (IntKind.u64.wrap (IntKind.u64.wrap a + b)) = wrap64 (a + b) := by
  simp only [IntKind.wrap_u64, wrap64]; omega
theorem rbetween_any {X : Nat → Prop} (r : Nat) (low high : Int) (bs : List Nat) (w : World) (D : Rdc X r bs w) (l0 : -9223372036854775808 ≤ low) (h1 : high ≤ 9223372036854775807) : Calls Try.prog 35 #[.pointer (some ⟨r, 0, none⟩), .int .i64 low, .int .i64 high] w (Rdrawn64 X r (between low high bs).1 (between low high bs).2 w) := by
  unfold between
  by_cases h : high < low
  · rw [if_pos h]
    have d1 : decide (high < low) = true := by simp [h]
    have fin : Rdrawn64 X r low bs w (.returned (.int .i64 low)) w := ⟨rfl, D, Only.refl _ _⟩
    clear D
    go_enter Try.func35, Try.ntmps35
    go_wp2_with fail
    go_ret
    exact fin
  · rw [if_neg h]
    have d1 : decide (high < low) = false := by simp; omega
    obtain ⟨a, ha⟩ : ∃ a, IntKind.u64.wrap high = a := ⟨_, rfl⟩
    obtain ⟨c, hc⟩ : ∃ c, IntKind.u64.wrap low = c := ⟨_, rfl⟩
    by_cases h' : high - low = 18446744073709551615
    · rw [if_pos h']
      have he : IntKind.u64.wrap (a - c) = 18446744073709551615 := by rw [← ha, ← hc]; simp only [IntKind.wrap_u64]; omega
      have hT := rtake_any r 8 bs w D (by omega)
      obtain ⟨v, hv⟩ : ∃ v, lo (bs.take 8) = v := ⟨_, rfl⟩
      rw [hv] at hT ⊢
      have HF : Hid (wrap64 (IntKind.u64.wrap (c + (v : Int))) = wrap64 (low + (v : Int))) := Lib.hid (by rw [← hc]; exact two_wraps _ _)
      clear hv D h h' l0 h1
      go_enter Try.func35, Try.ntmps35
      go_wp2_with fail
      refine hT.mono ?_
      rintro e w2 ⟨rfl, D2, O2⟩
      go_wp2_with fail
      go_ret
      exact ⟨ret_int HF.out, D2, O2⟩
    · rw [if_neg h']
      obtain ⟨N, hN⟩ : ∃ N : Nat, high - low = (N : Int) := ⟨(high - low).toNat, by omega⟩
      rw [show (high - low).toNat + 1 = N + 1 by omega]
      have hd : IntKind.u64.wrap (a - c) = (N : Int) := by rw [← ha, ← hc]; simp only [IntKind.wrap_u64]; omega
      have he : IntKind.u64.wrap ((N : Int) + 1) = ((N + 1 : Nat) : Int) := by simp only [IntKind.wrap_u64]; omega
      have hz : ((N : Int) == 18446744073709551615) = false := by rw [beq_eq_false_iff_ne]; omega
      have hz' : decide ((N : Int) = 18446744073709551615) = false := decide_eq_false (by omega)
      have hB := rbelow_any r (N + 1) bs w D (by omega)
      obtain ⟨q, hq⟩ : ∃ q, below (N + 1) bs = q := ⟨_, rfl⟩
      rw [hq] at hB ⊢
      have HF : Hid (wrap64 (IntKind.u64.wrap (c + (q.1 : Int))) = wrap64 (low + (q.1 : Int))) := Lib.hid (by rw [← hc]; exact two_wraps _ _)
      clear hq D h h' l0 h1 hN
      go_enter Try.func35, Try.ntmps35
      go_wp2_with fail
      refine hB.mono ?_
      rintro e w2 ⟨rfl, D2, O2⟩
      go_wp2_with fail
      go_ret
      exact ⟨ret_int HF.out, D2, O2⟩
end Go.Proofs.Ytfakgemifbgafaa

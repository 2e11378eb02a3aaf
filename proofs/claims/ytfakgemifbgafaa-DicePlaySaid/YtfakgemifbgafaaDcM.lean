/- The walk of DicePlay. -/
import Derived.Test.YtfakgemifbgafaaDcL
import Derived.Deep.RegionHeld3
namespace Go.Proofs.Ytfakgemifbgafaa
open Go.RowKit

/-- The dice and the reference's, with the same bytes. -/
structure Pair (N b r : Nat) (bs : List Nat) (w : World) : Prop where
  hb : N ≤ b
  hr : N ≤ r
  ne : ¬ b = r
  d : Dic (fun k => k = b ∨ k = r) b bs w
  e : Rdc (fun k => k = b ∨ k = r) r bs w
theorem Pair.kept {N b r : Nat} {bs : List Nat} {w w' : World} (P : Pair N b r bs w) (h : Below w.heap.size w w') : Pair N b r bs w' := ⟨P.hb, P.hr, P.ne, P.d.kept h, P.e.kept h⟩
/-- Between the two calls. -/
def Half (N b r : Nat) (bs cs : List Nat) (W w : World) : Prop := Dic (fun k => k = b ∨ k = r) b cs w ∧ Rdc (fun k => k = b ∨ k = r) r bs w ∧ Only (fun k => k = b ∨ k = r) W w
/-- Behind both. -/
def Done (N b r : Nat) (cs : List Nat) (W w : World) : Prop := Pair N b r cs w ∧ Only (fun k => k = b ∨ k = r) W w
theorem half_of {N b r : Nat} {bs cs : List Nat} {W w w' : World} (P : Pair N b r bs w) (hW : Only (fun k => k = b ∨ k = r) W w) (D : Dic (fun k => k = b ∨ k = r) b cs w') (o : Only (· = b) w w') : Half N b r bs cs W w' :=
  ⟨D, P.e.only (fun k hk => .inl hk) (fun h => P.ne h.symm) o, hW.trans (o.more fun k hk => .inl hk)⟩
theorem done_of {N b r : Nat} {bs cs : List Nat} {W w w' : World} (hb : N ≤ b) (hr : N ≤ r) (hne : ¬ b = r) (P : Half N b r bs cs W w) (E : Rdc (fun k => k = b ∨ k = r) r cs w') (o : Only (· = r) w w') : Done N b r cs W w' :=
  ⟨⟨hb, hr, hne, P.1.only (fun k hk => .inr hk) hne o, E⟩, P.2.2.trans (o.more fun k hk => .inr hk)⟩
theorem Pair.drew {N b r : Nat} {bs : List Nat} {w : World} (P : Pair N b r bs w) : Pair N b r bs w.drew := P.kept ((Below.refl _ _).drew)
theorem Pair.lt {N b r : Nat} {bs : List Nat} {w : World} (P : Pair N b r bs w) : b < w.heap.size ∧ r < w.heap.size := ⟨P.d.lt, P.e.lt⟩
theorem below_dr {B : Nat} {a w : World} (h : Below B a w) (n : Nat) : Below B a (w.drewN n) := h.trans ⟨rfl, rfl, rfl, Nat.le_refl _, fun _ _ => rfl⟩
/-- Left, however often was drawn. -/
theorem left_drawn {N b r : Nat} {bs : List Nat} {w : World} (P : Pair N b r bs w) (q : Nat) : Calls Try.prog 43 #[.pointer (some ⟨b, 0, none⟩)] (w.drewN q) fun e w' => e = .returned (.int .i64 (bs.length : Int)) ∧ w' = w.drewN q :=
  (left_dic b bs (w.drewN q) (P.d.kept ⟨rfl, rfl, rfl, Nat.le_refl _, fun _ _ => rfl⟩)).mono fun e w' h => ⟨h.1, h.2.symm⟩

section pair
variable {N b r q : Nat} {bs : List Nat} {w : World}
theorem keep_b (hqb : ¬ q = b) {w0 w' : World} (o : Only (· = b) w0 w') (j : Nat) {x : Value} (h : w0.cell? ⟨q, j, none⟩ = some x) : w'.cell? ⟨q, j, none⟩ = some x := (o.cell (p := ⟨q, j, none⟩) (cell_spot h).2 hqb).trans h

theorem p_below (P : Pair N b r bs w) (hqb : ¬ q = b) (n : Nat) (hn : n < 18446744073709551616) {x : Value} (j : Nat) (hs : w.cell? ⟨q, j, none⟩ = some x) :
    Calls Try.prog 44 #[.pointer (some ⟨b, 0, none⟩), .int .u64 (n : Int)] w.drew fun e w' => e = .returned (.int .u64 ((below n bs).1 : Nat)) ∧ w'.cell? ⟨q, j, none⟩ = some x ∧ Half N b r bs (below n bs).2 w w' :=
  (below_any b n bs w.drew P.d.drew hn).mono fun e w' ⟨h1, h2, h3⟩ => ⟨h1, keep_b (w0 := w.drew) hqb h3 j hs, half_of P.drew (Only.refl _ _).drew h2 h3⟩
theorem r_below (P : Pair N b r bs w) (hqr : ¬ q = r) (n : Nat) (hn : n < 18446744073709551616) {x : Value} (j : Nat) (w1 : World) (hs : w1.cell? ⟨q, j, none⟩ = some x) (hH : Half N b r bs (below n bs).2 w w1) :
    Calls Try.prog 45 #[.pointer (some ⟨r, 0, none⟩), .int .u64 (n : Int)] w1 fun e w' => e = .returned (.int .u64 ((below n bs).1 : Nat)) ∧ w'.cell? ⟨q, j, none⟩ = some x ∧ Done N b r (below n bs).2 w w' :=
  (rbelow_any r n bs w1 hH.2.1 hn).mono fun e w' ⟨h1, h2, h3⟩ => ⟨h1, keep_b hqr h3 j hs, done_of P.hb P.hr P.ne hH h2 h3⟩
theorem p_between (P : Pair N b r bs w) (hqb : ¬ q = b) (low high : Int) (l0 : -9223372036854775808 ≤ low) (h1 : high ≤ 9223372036854775807) {x y : Value} (j k : Nat) (hs : w.cell? ⟨q, j, none⟩ = some x) (ht : w.cell? ⟨q, k, none⟩ = some y) :
    Calls Try.prog 34 #[.pointer (some ⟨b, 0, none⟩), .int .i64 low, .int .i64 high] w.drew fun e w' => e = .returned (.int .i64 (between low high bs).1) ∧ (w'.cell? ⟨q, j, none⟩ = some x ∧ w'.cell? ⟨q, k, none⟩ = some y) ∧ Half N b r bs (between low high bs).2 w w' :=
  (between_any b low high bs w.drew P.d.drew l0 h1).mono fun e w' ⟨h1, h2, h3⟩ => ⟨h1, ⟨keep_b (w0 := w.drew) hqb h3 j hs, keep_b (w0 := w.drew) hqb h3 k ht⟩, half_of P.drew (Only.refl _ _).drew h2 h3⟩
theorem r_between (P : Pair N b r bs w) (hqr : ¬ q = r) (low high : Int) (l0 : -9223372036854775808 ≤ low) (h1 : high ≤ 9223372036854775807) {x y : Value} (j k : Nat) (w1 : World) (hs : w1.cell? ⟨q, j, none⟩ = some x ∧ w1.cell? ⟨q, k, none⟩ = some y) (hH : Half N b r bs (between low high bs).2 w w1) :
    Calls Try.prog 35 #[.pointer (some ⟨r, 0, none⟩), .int .i64 low, .int .i64 high] w1 fun e w' => e = .returned (.int .i64 (between low high bs).1) ∧ (w'.cell? ⟨q, j, none⟩ = some x ∧ w'.cell? ⟨q, k, none⟩ = some y) ∧ Done N b r (between low high bs).2 w w' :=
  (rbetween_any r low high bs w1 hH.2.1 l0 h1).mono fun e w' ⟨h1, h2, h3⟩ => ⟨h1, ⟨keep_b hqr h3 j hs.1, keep_b hqr h3 k hs.2⟩, done_of P.hb P.hr P.ne hH h2 h3⟩
theorem p_chance (P : Pair N b r bs w) (hqb : ¬ q = b) (n : Nat) (c : Int) (hn : n < 18446744073709551616) {x y : Value} (j k : Nat) (hs : w.cell? ⟨q, j, none⟩ = some x) (ht : w.cell? ⟨q, k, none⟩ = some y) :
    Calls Try.prog 36 #[.pointer (some ⟨b, 0, none⟩), .int .u64 c, .int .u64 (n : Int)] w.drew fun e w' => e = .returned (.bool (decide (((below n bs).1 : Int) < c))) ∧ (w'.cell? ⟨q, j, none⟩ = some x ∧ w'.cell? ⟨q, k, none⟩ = some y) ∧ Half N b r bs (below n bs).2 w w' :=
  (chance_any b n c bs w.drew P.d.drew hn).mono fun e w' ⟨h1, h2, h3⟩ => ⟨h1, ⟨keep_b (w0 := w.drew) hqb h3 j hs, keep_b (w0 := w.drew) hqb h3 k ht⟩, half_of P.drew (Only.refl _ _).drew h2 h3⟩
theorem r_chance (P : Pair N b r bs w) (hqr : ¬ q = r) (n : Nat) (c : Int) (hn : n < 18446744073709551616) {x y : Value} (j k : Nat) (w1 : World) (hs : w1.cell? ⟨q, j, none⟩ = some x ∧ w1.cell? ⟨q, k, none⟩ = some y) (hH : Half N b r bs (below n bs).2 w w1) :
    Calls Try.prog 37 #[.pointer (some ⟨r, 0, none⟩), .int .u64 c, .int .u64 (n : Int)] w1 fun e w' => e = .returned (.bool (decide (((below n bs).1 : Int) < c))) ∧ (w'.cell? ⟨q, j, none⟩ = some x ∧ w'.cell? ⟨q, k, none⟩ = some y) ∧ Done N b r (below n bs).2 w w' :=
  (rchance_any r n c bs w1 hH.2.1 hn).mono fun e w' ⟨h1, h2, h3⟩ => ⟨h1, ⟨keep_b hqr h3 j hs.1, keep_b hqr h3 k hs.2⟩, done_of P.hb P.hr P.ne hH h2 h3⟩
theorem p_order (P : Pair N b r bs w) (hqb : ¬ q = b) (n : Int) {x : Value} (j : Nat) (hs : w.cell? ⟨q, j, none⟩ = some x) :
    Calls Try.prog 39 #[.pointer (some ⟨b, 0, none⟩), .int .i64 n] w.drew fun e w' => ∃ v, e = .returned v ∧ w'.cell? ⟨q, j, none⟩ = some x ∧ (Half N b r bs (ordI n bs).2 w w' ∧ Rdn w.heap.size v (ordI n bs).1 w') :=
  (order_all b n bs w.drew P.d.drew).mono fun e w' ⟨v, h1, h2, h3, h4⟩ => ⟨v, h1, keep_b (w0 := w.drew) hqb h4 j hs, half_of P.drew (Only.refl _ _).drew h3 h4, h2⟩
theorem r_order (P : Pair N b r bs w) (hqr : ¬ q = r) (n : Int) {x : Value} (j : Nat) (v1 : Value) (w1 : World) (hs : w1.cell? ⟨q, j, none⟩ = some x) (hH : Half N b r bs (ordI n bs).2 w w1 ∧ Rdn w.heap.size v1 (ordI n bs).1 w1) :
    Calls Try.prog 40 #[.pointer (some ⟨r, 0, none⟩), .int .i64 n] w1 fun e w' => ∃ v, e = .returned v ∧ w'.cell? ⟨q, j, none⟩ = some x ∧ (Done N b r (ordI n bs).2 w w' ∧ Rdi v1 (ordI n bs).1 w' ∧ Rdi v (ordI n bs).1 w') :=
  (rorder_all r n bs w1 hH.1.2.1).mono fun e w' ⟨v, h1, h2, h3, h4⟩ => ⟨v, h1, keep_b hqr h4 j hs, done_of P.hb P.hr P.ne hH.1 h3 h4, (hH.2.only (Y := (· = r)) (fun k h1 _ h3 => by have := P.e.lt; omega) h4).rdi, h2.rdi⟩
theorem ordI_len (n : Int) (bs : List Nat) (h : n ≤ 300) : (ordI n bs).1.length ≤ 65536 := by
  unfold ordI
  by_cases h0 : n < 1 ∨ 65536 < n
  · rw [if_pos h0]; simp
  · rw [if_neg h0, ord_length, asc_length]; omega
theorem s_order (n : Int) (h : n ≤ 300) {x : Value} (j : Nat) (v1 v2 : Value) (w2 : World) (hs : w2.cell? ⟨q, j, none⟩ = some x) (hD : Done N b r (ordI n bs).2 w w2 ∧ Rdi v1 (ordI n bs).1 w2 ∧ Rdi v2 (ordI n bs).1 w2) :
    Calls Try.prog 38 #[v1, v2] w2 fun e w' => e = .returned (.bool true) ∧ w'.cell? ⟨q, j, none⟩ = some x ∧ Done N b r (ordI n bs).2 w w' :=
  (same_yes v1 v2 _ w2 hD.2.1 hD.2.2 (ordI_len n bs h)).mono fun e w' ⟨h1, m, h2⟩ => by
    subst h2
    exact ⟨h1, hs, hD.1.1.kept ⟨rfl, rfl, rfl, Nat.le_refl _, fun _ _ => rfl⟩, ⟨hD.1.2.os, hD.1.2.tape, hD.1.2.output, hD.1.2.size, hD.1.2.block⟩⟩
/-- Behind the program's Split: its new dice lie in block b'. -/
structure Parting (N b r : Nat) (bs cs ds : List Nat) (w : World) (b' : Nat) (w' : World) : Prop where
  half : Half N b r bs cs w w'
  lo : w.heap.size ≤ b'
  hi : b' < w'.heap.size
  made : w'.cell? ⟨b', 0, none⟩ = some (.bool true)
  rest : ∃ v, w'.cell? ⟨b', 1, none⟩ = some v ∧ RB w' v ds ∧ ∀ k, v.ownBlock = some k → w.heap.size ≤ k ∧ k < b'
  free : ∀ j, w'.frozen? ⟨b', j, none⟩ = false
theorem p_split (P : Pair N b r bs w) (hqb : ¬ q = b) (n : Int) {x : Value} (j : Nat) (hs : w.cell? ⟨q, j, none⟩ = some x) :
    Calls Try.prog 41 #[.pointer (some ⟨b, 0, none⟩), .int .i64 n] w.drew fun e w' => ∃ b', e = .returned (.pointer (some ⟨b', 0, none⟩)) ∧ w'.cell? ⟨q, j, none⟩ = some x ∧ Parting N b r bs (bs.drop (clip n bs.length)) (bs.take (clip n bs.length)) w b' w' :=
  (split_any b n bs w.drew P.d.drew).mono fun e w' ⟨w1, h1, h2, b', v, e1, e2, e3, e4, e5, e6, e7, e8, e9⟩ => by
    have o : Only (· = b) w.drew w' := h2.trans (Only.below e4)
    have hsz : w.heap.size ≤ w1.heap.size := h2.size
    exact ⟨b', e1, keep_b (w0 := w.drew) hqb o j hs, half_of P.drew (Only.refl _ _).drew (h1.kept e4) o, by omega, e3, e5, ⟨v, e6, e7, fun k hk => by have := e8 k hk; omega⟩, e9⟩
theorem r_split (P : Pair N b r bs w) (hqr : ¬ q = r) (n : Int) {x : Value} (j b' : Nat) (w1 : World) (hN : N ≤ w.heap.size) (hs : w1.cell? ⟨q, j, none⟩ = some x) (hH : Parting N b r bs (bs.drop (clip n bs.length)) (bs.take (clip n bs.length)) w b' w1) :
    Calls Try.prog 42 #[.pointer (some ⟨r, 0, none⟩), .int .i64 n] w1 fun e w' => ∃ r', e = .returned (.pointer (some ⟨r', 0, none⟩)) ∧ w'.cell? ⟨q, j, none⟩ = some x ∧ (Done N b r (bs.drop (clip n bs.length)) w w' ∧ Pair N b' r' (bs.take (clip n bs.length)) w') :=
  (rsplit_any r n bs w1 hH.half.2.1).mono fun e w' ⟨⟨r', v', e1, e2, e3, e4, e5, e6, e7⟩, h2, h3⟩ => by
    obtain ⟨v, f1, f2, f3⟩ := hH.rest
    have hlo := hH.lo
    have hhi := hH.hi
    have hrl := P.e.lt
    have hne : ¬ b' = r := by omega
    have D1 : Dic (fun k => (k = b' ∨ k = r') ∨ k = r) b' (bs.take (clip n bs.length)) w1 :=
      ⟨.inl (.inl rfl), hH.made, ⟨v, f1, f2, fun k hk h => by have := f3 k hk; omega, fun k hk => by have := f3 k hk; omega⟩, hH.free⟩
    have D2 := (D1.only (Y := (· = r)) (fun k hk => .inr hk) hne h3).less (X := fun k => k = b' ∨ k = r') (fun k hk => .inl hk) (.inl rfl)
    exact ⟨r', e1, keep_b hqr h3 j hs, done_of P.hb P.hr P.ne hH.half h2 h3, ⟨by omega, by have := h3.size; omega, by omega, D2, .inr rfl, ⟨v', e4, e5, fun k hk h => by have := e6 k hk; omega, fun k hk => by have := e6 k hk; omega⟩, e7⟩⟩
end pair

set_option maxRecDepth 100000 in
set_option maxHeartbeats 4000000 in
theorem dplay_big (a a' : Option Addr) (len cap len' cap' : Nat) (w : World) (hm : len ≤ 9223372036854775807) (hm' : len' ≤ 9223372036854775807) (h : 3000 < len ∨ 100 < len') :
    Calls Try.prog 8 #[.slice a len cap, .slice a' len' cap'] w fun e w' => e = .returned (.bool true) ∧ Below w.heap.size w w' := by
  by_cases h1 : 3000 < len
  · have d1 : decide (3000 < (len : Int)) = true := by simp; omega
    go_enter Try.func8, Try.ntmps8
    go_wp2_with (go_at_call 32; refine (lives6 _).mono ?_; rintro e w' ⟨rfl, hl⟩)
    go_ret
    exact ⟨rfl, hl⟩
  · have d1 : decide (3000 < (len : Int)) = false := by simp; omega
    have d2 : decide (100 < (len' : Int)) = true := by simp; omega
    go_enter Try.func8, Try.ntmps8
    go_wp2_with (go_at_call 32; refine (lives6 _).mono ?_; rintro e w' ⟨rfl, hl⟩)
    go_ret
    exact ⟨rfl, hl⟩

set_option maxRecDepth 100000 in
set_option maxHeartbeats 40000000 in
theorem dplay_ok (a a' : Option Addr) (len cap len' cap' : Nat) (bs0 : List Nat) (K M A B Lo Hi : Nat → Int) (w : World) (hb : RB w (.slice a len cap) bs0) (hlb : bs0.length = len) (hlies : ∀ k, (Value.slice a len cap).ownBlock = some k → k < w.heap.size) (hlen : len ≤ 3000) (hlen' : len' ≤ 100)
    (hc : 0 < len' → ∃ ab ao, a' = some ⟨ab, ao, none⟩ ∧ ab < w.heap.size ∧ ∀ k, k < len' → w.cell? ⟨ab, ao + k * 6, none⟩ = some (.int .i64 (K k)) ∧ w.cell? ⟨ab, ao + k * 6 + 1, none⟩ = some (.int .i64 (M k)) ∧ w.cell? ⟨ab, ao + k * 6 + 2, none⟩ = some (.int .u64 (A k)) ∧
      w.cell? ⟨ab, ao + k * 6 + 3, none⟩ = some (.int .u64 (B k)) ∧ w.cell? ⟨ab, ao + k * 6 + 4, none⟩ = some (.int .i64 (Lo k)) ∧ w.cell? ⟨ab, ao + k * 6 + 5, none⟩ = some (.int .i64 (Hi k)) ∧
      (0 ≤ A k ∧ A k < 18446744073709551616 ∧ 0 ≤ B k ∧ B k < 18446744073709551616 ∧ -9223372036854775808 ≤ Lo k ∧ Lo k ≤ 9223372036854775807 ∧ -9223372036854775808 ≤ Hi k ∧ Hi k ≤ 9223372036854775807)) :
    Calls Try.prog 8 #[.slice a len cap, .slice a' len' cap'] w fun e w' => e = .returned (.bool true) ∧ Below w.heap.size w w' := by
  have d1 : decide (3000 < (len : Int)) = false := by simp; omega
  have d2 : decide (100 < (len' : Int)) = false := by simp; omega
  have HB := Lib.hid hb
  have HLB := Lib.hid hlb
  have HLI := Lib.hid hlies
  clear hb hlb hlies
  go_enter Try.func8, Try.ntmps8
  go_wp2_with fail
  refine (new_dice _ bs0 w HB.out).mono ?_
  rintro e w1 ⟨b, v, rfl, hb0, hbl, B1, c0, c1, rb, ob, fb⟩
  have B2 : Below w.heap.size w (w1.alloc (.cells #[.slice a len cap] 74)) := B1.alloc B1.size _
  have P0 : Pair w.heap.size b w1.heap.size bs0 (w1.alloc (.cells #[.slice a len cap] 74)) := by
    refine ⟨hb0, B1.size, by omega, (fresh_dic (fun k => k = b ∨ k = w1.heap.size) (.inl rfl) (fun k h1 h2 h => by omega) hbl c0 c1 rb ob fb).kept (alloc_bb w1 _), .inr rfl, ⟨_, by simp, HB.out.kept B2, fun k hk h => by have := HLI.out k hk; omega, fun k hk => Nat.lt_of_lt_of_le (HLI.out k hk) B2.size⟩, fun j => by simp⟩
  clear B1 c0 c1 rb ob fb hb0
  go_wp2_with fail
  go_loopw [5, 6, 28] (fun d e i wr => ∃ k : Nat, k ≤ len' ∧ i = .int .i64 (k : Int) ∧ Below w.heap.size w wr ∧ ∃ b r bs, d = .pointer (some ⟨b, 0, none⟩) ∧ e = .pointer (some ⟨r, 0, none⟩) ∧ Pair w.heap.size b r bs wr) (fun _ _ i _ => len' - (intOf i).toNat)
  case atStart => exact ⟨0, Nat.zero_le _, rfl, B2, _, _, _, rfl, rfl, P0⟩
  case round =>
    clear P0 B2 hbl
    obtain ⟨k, hk, rfl, hB, b, r, bs, rfl, rfl, P⟩ := hrel
    by_cases hlt : k < len'
    · obtain ⟨ab, ao, rfl, hab, hcs⟩ := hc (by omega)
      obtain ⟨c0, c1, c2, c3, c4, c5, bA0, bA1, bB0, bB1, bL0, bL1, bH0, bH1⟩ := hcs k hlt
      have c0 := (hB.cell (p := ⟨ab, ao + k * 6, none⟩) hab).trans c0
      have c1 := (hB.cell (p := ⟨ab, ao + k * 6 + 1, none⟩) hab).trans c1
      have c2 := (hB.cell (p := ⟨ab, ao + k * 6 + 2, none⟩) hab).trans c2
      have c3 := (hB.cell (p := ⟨ab, ao + k * 6 + 3, none⟩) hab).trans c3
      have c4 := (hB.cell (p := ⟨ab, ao + k * 6 + 4, none⟩) hab).trans c4
      have c5 := (hB.cell (p := ⟨ab, ao + k * 6 + 5, none⟩) hab).trans c5
      obtain ⟨kk, e0⟩ : ∃ x, K k = x := ⟨_, rfl⟩
      obtain ⟨mm, e1⟩ : ∃ x, M k = x := ⟨_, rfl⟩
      obtain ⟨aa, e2⟩ : ∃ x : Nat, A k = (x : Int) := ⟨(A k).toNat, by omega⟩
      obtain ⟨bb, e3⟩ : ∃ x : Nat, B k = (x : Int) := ⟨(B k).toNat, by omega⟩
      obtain ⟨low, e4⟩ : ∃ x, Lo k = x := ⟨_, rfl⟩
      obtain ⟨high, e5⟩ : ∃ x, Hi k = x := ⟨_, rfl⟩
      rw [e0] at c0; rw [e1] at c1; rw [e2] at c2 bA0 bA1; rw [e3] at c3 bB0 bB1; rw [e4] at c4 bL0 bL1; rw [e5] at c5 bH0 bH1
      have k0 : (0 : Int) ≤ (k : Int) := by omega
      have kl : (k : Int) < (len' : Int) := by omega
      have d4 : decide ((k : Int) < (len' : Int)) = true := by simp [hlt]
      clear hcs hc e0 e1 e2 e3 e4 e5 hab
      have B0 := hB.alloc hB.size (.cells #[.int .i64 kk, .int .i64 mm, .int .u64 aa, .int .u64 bb, .int .i64 low, .int .i64 high] 76)
      have P0 := P.kept (alloc_bb wr (.cells #[.int .i64 kk, .int .i64 mm, .int .u64 aa, .int .u64 bb, .int .i64 low, .int .i64 high] 76))
      have hPl := P.lt
      have s0 : (wr.alloc (.cells #[.int .i64 kk, .int .i64 mm, .int .u64 aa, .int .u64 bb, .int .i64 low, .int .i64 high] 76)).cell? ⟨wr.heap.size, 0, none⟩ = some (.int .i64 kk) := by simp
      have s1 : (wr.alloc (.cells #[.int .i64 kk, .int .i64 mm, .int .u64 aa, .int .u64 bb, .int .i64 low, .int .i64 high] 76)).cell? ⟨wr.heap.size, 1, none⟩ = some (.int .i64 mm) := by simp
      have s2 : (wr.alloc (.cells #[.int .i64 kk, .int .i64 mm, .int .u64 aa, .int .u64 bb, .int .i64 low, .int .i64 high] 76)).cell? ⟨wr.heap.size, 2, none⟩ = some (.int .u64 aa) := by simp
      have s3 : (wr.alloc (.cells #[.int .i64 kk, .int .i64 mm, .int .u64 aa, .int .u64 bb, .int .i64 low, .int .i64 high] 76)).cell? ⟨wr.heap.size, 3, none⟩ = some (.int .u64 bb) := by simp
      have s4 : (wr.alloc (.cells #[.int .i64 kk, .int .i64 mm, .int .u64 aa, .int .u64 bb, .int .i64 low, .int .i64 high] 76)).cell? ⟨wr.heap.size, 4, none⟩ = some (.int .i64 low) := by simp
      have s5 : (wr.alloc (.cells #[.int .i64 kk, .int .i64 mm, .int .u64 aa, .int .u64 bb, .int .i64 low, .int .i64 high] 76)).cell? ⟨wr.heap.size, 5, none⟩ = some (.int .i64 high) := by simp
      have hsq : wr.heap.size < (wr.alloc (.cells #[.int .i64 kk, .int .i64 mm, .int .u64 aa, .int .u64 bb, .int .i64 low, .int .i64 high] 76)).heap.size := by simp
      have HWS : w.heap.size ≤ wr.heap.size := hB.size
      clear hB P
      by_cases h1 : kk = 1
      · subst h1
        go_wp2_with fail
        obtain ⟨w0, hw0⟩ : ∃ w0, wr.alloc (.cells #[.int .i64 1, .int .i64 mm, .int .u64 aa, .int .u64 bb, .int .i64 low, .int .i64 high] 76) = w0 := ⟨_, rfl⟩
        rw [hw0] at B0 P0 s0 s1 s2 s3 s4 s5 hsq ⊢
        clear hw0
        have X1 := p_between P0 (q := wr.heap.size) (by omega) low high bL0 bH1 4 5 s4 s5
        have X2 := fun w1 hs hH => r_between (x := .int .i64 low) (y := .int .i64 high) P0 (q := wr.heap.size) (by omega) low high bL0 bH1 4 5 w1 hs hH
        obtain ⟨z, hz⟩ : ∃ z, between low high bs = z := ⟨_, rfl⟩
        rw [hz] at X1 X2
        go_region_held3 (fun w' => w'.cell? ⟨wr.heap.size, 4, none⟩ = some (.int .i64 low) ∧ w'.cell? ⟨wr.heap.size, 5, none⟩ = some (.int .i64 high)) (first | exact ⟨s4, s5⟩ | assumption | go_keep)
          (first
            | (go_at_call 34; refine X1.mono ?_; rintro e wy ⟨rfl, hK, hH⟩)
            | (go_at_call 35; refine (X2 _ hK hH).mono ?_; rintro e wz ⟨rfl, hK2, hD⟩))
        go_wp2_with fail
        obtain ⟨Pd, Od⟩ := hD
        have Bd : Below w.heap.size w wz := B0.trans (Od.toBelow B0.size fun j hj => by have := P0.hb; have := P0.hr; omega)
        obtain ⟨vz, cz1, cz2, -, -⟩ := Pd.e.rest
        obtain ⟨az, capz, rfl, -, -⟩ := cz2.shape
        clear B0 P0 Od s0 s1 s2 s3 s4 s5 cz2
        go_quiet ((go_at_call 43; exact Calls.quiet_of_same (left_drawn Pd _)))
        go_wp2_with fail
        go_roundw
        case rel => exact ⟨k + 1, by omega, by go_num, below_dr Bd _, _, _, _, rfl, rfl, Pd.kept ⟨rfl, rfl, rfl, Nat.le_refl _, fun _ _ => rfl⟩⟩
        case measure => simp [intOf]; omega
      · have n1 : (kk == 1) = false := by rw [beq_eq_false_iff_ne]; exact h1
        have n1' : decide (kk = 1) = false := decide_eq_false h1
        by_cases h2 : kk = 2
        · subst h2
          go_wp2_with fail
          obtain ⟨w0, hw0⟩ : ∃ w0, wr.alloc (.cells #[.int .i64 2, .int .i64 mm, .int .u64 aa, .int .u64 bb, .int .i64 low, .int .i64 high] 76) = w0 := ⟨_, rfl⟩
          rw [hw0] at B0 P0 s0 s1 s2 s3 s4 s5 hsq ⊢
          clear hw0
          have X1 := p_chance P0 (q := wr.heap.size) (by omega) bb (aa : Int) (by omega) 2 3 s2 s3
          have X2 := fun w1 hs hH => r_chance (x := .int .u64 aa) (y := .int .u64 bb) P0 (q := wr.heap.size) (by omega) bb (aa : Int) (by omega) 2 3 w1 hs hH
          obtain ⟨z, hz⟩ : ∃ z, below bb bs = z := ⟨_, rfl⟩
          rw [hz] at X1 X2
          obtain ⟨yy, hyy⟩ : ∃ y, decide ((z.1 : Int) < (aa : Int)) = y := ⟨_, rfl⟩
          rw [hyy] at X1 X2
          clear hyy
          go_region_held3 (fun w' => w'.cell? ⟨wr.heap.size, 2, none⟩ = some (.int .u64 aa) ∧ w'.cell? ⟨wr.heap.size, 3, none⟩ = some (.int .u64 bb)) (first | exact ⟨s2, s3⟩ | assumption | go_keep)
            (first
              | (go_at_call 36; refine X1.mono ?_; rintro e wy ⟨rfl, hK, hH⟩)
              | (go_at_call 37; refine (X2 _ hK hH).mono ?_; rintro e wz ⟨rfl, hK2, hD⟩))
          go_wp2_with fail
          obtain ⟨Pd, Od⟩ := hD
          have Bd : Below w.heap.size w wz := B0.trans (Od.toBelow B0.size fun j hj => by have := P0.hb; have := P0.hr; omega)
          obtain ⟨vz, cz1, cz2, -, -⟩ := Pd.e.rest
          obtain ⟨az, capz, rfl, -, -⟩ := cz2.shape
          clear B0 P0 Od s0 s1 s2 s3 s4 s5 cz2
          go_quiet ((go_at_call 43; exact Calls.quiet_of_same (left_drawn Pd _)))
          go_wp2_with fail
          go_roundw
          case rel => exact ⟨k + 1, by omega, by go_num, below_dr Bd _, _, _, _, rfl, rfl, Pd.kept ⟨rfl, rfl, rfl, Nat.le_refl _, fun _ _ => rfl⟩⟩
          case measure => simp [intOf]; omega
        · have n2 : (kk == 2) = false := by rw [beq_eq_false_iff_ne]; exact h2
          have n2' : decide (kk = 2) = false := decide_eq_false h2
          by_cases h3 : kk = 3
          · subst h3
            by_cases h300 : 300 < mm
            · have m1 : decide (300 < mm) = true := by simp [h300]
              have HB0 := Lib.hid B0
              clear B0 P0
              go_wp2_with (go_at_call 32; refine (lives6 _).mono ?_; rintro e w' ⟨rfl, hl⟩)
              go_ret
              exact ⟨rfl, HB0.out.trans (hl.mono HB0.out.size)⟩
            · have m1 : decide (300 < mm) = false := by simp; omega
              go_wp2_with fail
              obtain ⟨w0, hw0⟩ : ∃ w0, wr.alloc (.cells #[.int .i64 3, .int .i64 mm, .int .u64 aa, .int .u64 bb, .int .i64 low, .int .i64 high] 76) = w0 := ⟨_, rfl⟩
              rw [hw0] at B0 P0 s0 s1 s2 s3 s4 s5 hsq ⊢
              clear hw0
              have X1 := p_order P0 (q := wr.heap.size) (by omega) mm 1 s1
              have X2 := fun v1 w1 hs hH => r_order (x := .int .i64 mm) P0 (q := wr.heap.size) (by omega) mm 1 v1 w1 hs hH
              have X3 := fun v1 v2 w2 hs hD => s_order (x := .int .i64 mm) (N := w.heap.size) (b := b) (r := r) (bs := bs) (w := w0) (q := wr.heap.size) mm (by omega) 1 v1 v2 w2 hs hD
              obtain ⟨z, hz⟩ : ∃ z, ordI mm bs = z := ⟨_, rfl⟩
              rw [hz] at X1 X2 X3
              clear hz
              go_region_held3 (fun w' => w'.cell? ⟨wr.heap.size, 1, none⟩ = some (.int .i64 mm)) (first | exact s1 | assumption | go_keep)
                (first
                  | (go_at_call 39; refine X1.mono ?_; rintro e wy ⟨v1, rfl, hK, hH⟩)
                  | (go_at_call 40; refine (X2 _ _ hK hH).mono ?_; rintro e wx ⟨v2, rfl, hK2, hH2⟩)
                  | (go_at_call 38; refine (X3 _ _ _ hK2 hH2).mono ?_; rintro e wz ⟨rfl, hK3, hD⟩))
              go_wp2_with fail
              obtain ⟨Pd, Od⟩ := hD
              have Bd : Below w.heap.size w wz := B0.trans (Od.toBelow B0.size fun j hj => by have := P0.hb; have := P0.hr; omega)
              obtain ⟨vz, cz1, cz2, -, -⟩ := Pd.e.rest
              obtain ⟨az, capz, rfl, -, -⟩ := cz2.shape
              clear B0 P0 Od s0 s1 s2 s3 s4 s5 cz2
              go_quiet ((go_at_call 43; exact Calls.quiet_of_same (left_drawn Pd _)))
              go_wp2_with fail
              go_roundw
              case rel => exact ⟨k + 1, by omega, by go_num, below_dr Bd _, _, _, _, rfl, rfl, Pd.kept ⟨rfl, rfl, rfl, Nat.le_refl _, fun _ _ => rfl⟩⟩
              case measure => simp [intOf]; omega
          · have n3 : (kk == 3) = false := by rw [beq_eq_false_iff_ne]; exact h3
            have n3' : decide (kk = 3) = false := decide_eq_false h3
            by_cases h4 : kk = 4
            · subst h4
              go_wp2_with fail
              obtain ⟨w0, hw0⟩ : ∃ w0, wr.alloc (.cells #[.int .i64 4, .int .i64 mm, .int .u64 aa, .int .u64 bb, .int .i64 low, .int .i64 high] 76) = w0 := ⟨_, rfl⟩
              rw [hw0] at B0 P0 s0 s1 s2 s3 s4 s5 hsq ⊢
              clear hw0
              have X1 := p_split P0 (q := wr.heap.size) (by omega) mm 1 s1
              have X2 := fun b' w1 hs hH => r_split (x := .int .i64 mm) P0 (q := wr.heap.size) (by omega) mm 1 b' w1 (by omega) hs hH
              obtain ⟨zt, hzt⟩ : ∃ z, bs.take (clip mm bs.length) = z := ⟨_, rfl⟩
              obtain ⟨zd, hzd⟩ : ∃ z, bs.drop (clip mm bs.length) = z := ⟨_, rfl⟩
              rw [hzt, hzd] at X1 X2
              clear hzt hzd
              go_region_held3 (fun w' => w'.cell? ⟨wr.heap.size, 1, none⟩ = some (.int .i64 mm)) (first | exact s1 | assumption | go_keep)
                (first
                  | (go_at_call 41; refine X1.mono ?_; rintro e wy ⟨b', rfl, hK, hH⟩)
                  | (go_at_call 42; refine (X2 _ _ hK hH).mono ?_; rintro e wz ⟨r', rfl, hK2, hD, hPn⟩))
              go_wp2_with fail
              obtain ⟨Pd, Od⟩ := hD
              have Bd : Below w.heap.size w wz := B0.trans (Od.toBelow B0.size fun j hj => by have := P0.hb; have := P0.hr; omega)
              have hx : ∃ az capz, wz.cell? ⟨r, 0, none⟩ = some (.slice az zd.length capz) := by
                obtain ⟨vz, cz1, cz2, -, -⟩ := Pd.e.rest
                obtain ⟨az, capz, rfl, -, -⟩ := cz2.shape
                exact ⟨az, capz, cz1⟩
              obtain ⟨az, capz, cz1⟩ := hx
              clear B0 P0 Od s0 s1 s2 s3 s4 s5 X1 X2 hH hK hK2
              go_quiet ((go_at_call 43; exact Calls.quiet_of_same (left_drawn Pd _)))
              rename_i nq
              have Pn2 : Pair w.heap.size b' r' zt (wz.drewN nq) := hPn.kept ⟨rfl, rfl, rfl, Nat.le_refl _, fun _ _ => rfl⟩
              have Bn2 : Below w.heap.size w (wz.drewN nq) := below_dr Bd nq
              clear hPn Bd Pd cz1
              generalize wz.drewN nq = wv at Pn2 Bn2 ⊢
              have hx2 : ∃ az capz, wv.cell? ⟨r', 0, none⟩ = some (.slice az zt.length capz) := by
                obtain ⟨vz, cz1, cz2, -, -⟩ := Pn2.e.rest
                obtain ⟨az, capz, rfl, -, -⟩ := cz2.shape
                exact ⟨az, capz, cz1⟩
              obtain ⟨az2, capz2, cz2⟩ := hx2
              go_wp2_with fail
              go_quiet ((go_at_call 43; exact Calls.quiet_of_same (left_drawn Pn2 _)))
              go_wp2_with fail
              go_roundw
              case rel => exact ⟨k + 1, by omega, by go_num, below_dr Bn2 _, _, _, _, rfl, rfl, Pn2.kept ⟨rfl, rfl, rfl, Nat.le_refl _, fun _ _ => rfl⟩⟩
              case measure => simp [intOf]; omega
            · have n4 : (kk == 4) = false := by rw [beq_eq_false_iff_ne]; exact h4
              have n4' : decide (kk = 4) = false := decide_eq_false h4
              go_wp2_with fail
              obtain ⟨w0, hw0⟩ : ∃ w0, wr.alloc (.cells #[.int .i64 kk, .int .i64 mm, .int .u64 aa, .int .u64 bb, .int .i64 low, .int .i64 high] 76) = w0 := ⟨_, rfl⟩
              rw [hw0] at B0 P0 s0 s1 s2 s3 s4 s5 hsq ⊢
              clear hw0
              have X1 := p_below P0 (q := wr.heap.size) (by omega) aa (by omega) 2 s2
              have X2 := fun w1 hs hH => r_below (x := .int .u64 aa) P0 (q := wr.heap.size) (by omega) aa (by omega) 2 w1 hs hH
              obtain ⟨z, hz⟩ : ∃ z, below aa bs = z := ⟨_, rfl⟩
              rw [hz] at X1 X2
              go_region_held3 (fun w' => w'.cell? ⟨wr.heap.size, 2, none⟩ = some (.int .u64 aa)) (first | exact s2 | assumption | go_keep)
                (first
                  | (go_at_call 44; refine X1.mono ?_; rintro e wy ⟨rfl, hK, hH⟩)
                  | (go_at_call 45; refine (X2 _ hK hH).mono ?_; rintro e wz ⟨rfl, hK2, hD⟩))
              go_wp2_with fail
              obtain ⟨Pd, Od⟩ := hD
              have Bd : Below w.heap.size w wz := B0.trans (Od.toBelow B0.size fun j hj => by have := P0.hb; have := P0.hr; omega)
              obtain ⟨vz, cz1, cz2, -, -⟩ := Pd.e.rest
              obtain ⟨az, capz, rfl, -, -⟩ := cz2.shape
              clear B0 P0 Od s0 s1 s2 s3 s4 s5 cz2
              go_quiet ((go_at_call 43; exact Calls.quiet_of_same (left_drawn Pd _)))
              go_wp2_with fail
              go_roundw
              case rel => exact ⟨k + 1, by omega, by go_num, below_dr Bd _, _, _, _, rfl, rfl, Pd.kept ⟨rfl, rfl, rfl, Nat.le_refl _, fun _ _ => rfl⟩⟩
              case measure => simp [intOf]; omega
    · obtain rfl : k = len' := by omega
      clear hc P
      go_wp2_with (go_at_call 32; refine (lives6 _).mono ?_; rintro e w' ⟨rfl, hl⟩)
      go_ret
      exact ⟨rfl, hB.trans (hl.mono hB.size)⟩
end Go.Proofs.Ytfakgemifbgafaa

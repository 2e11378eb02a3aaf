/- The walk of SlotsNobody. -/
import Derived.Test.YtblfpaphgbbbcaaDoorRgG
namespace Go.Proofs.YtblfpaphgbbbcaaDoor
open Go.RowKit

theorem law_world (w : World) (x y z : Int) :
    (((w.alloc (.cells #[.int .u64 x, .int .u64 y, .int .i64 z] 27)).alloc (.cells Tryd.zeroCells54 54)).alloc (.cells #[.pointer none, .pointer (some ⟨w.heap.size + 1, 0, none⟩)] 38)).cell? ⟨w.heap.size + 1 + 1, 0, none⟩ = some (.pointer none) ∧ (((w.alloc (.cells #[.int .u64 x, .int .u64 y, .int .i64 z] 27)).alloc (.cells Tryd.zeroCells54 54)).alloc (.cells #[.pointer none, .pointer (some ⟨w.heap.size + 1, 0, none⟩)] 38)).cell? ⟨w.heap.size + 1 + 1, 1, none⟩ = some (.pointer (some ⟨w.heap.size + 1, 0, none⟩)) ∧
    (((w.alloc (.cells #[.int .u64 x, .int .u64 y, .int .i64 z] 27)).alloc (.cells Tryd.zeroCells54 54)).alloc (.cells #[.pointer none, .pointer (some ⟨w.heap.size + 1, 0, none⟩)] 38)).cell? ⟨w.heap.size, 0, none⟩ = some (.int .u64 x) ∧ (((w.alloc (.cells #[.int .u64 x, .int .u64 y, .int .i64 z] 27)).alloc (.cells Tryd.zeroCells54 54)).alloc (.cells #[.pointer none, .pointer (some ⟨w.heap.size + 1, 0, none⟩)] 38)).cell? ⟨w.heap.size, 1, none⟩ = some (.int .u64 y) ∧ (((w.alloc (.cells #[.int .u64 x, .int .u64 y, .int .i64 z] 27)).alloc (.cells Tryd.zeroCells54 54)).alloc (.cells #[.pointer none, .pointer (some ⟨w.heap.size + 1, 0, none⟩)] 38)).cell? ⟨w.heap.size, 2, none⟩ = some (.int .i64 z) ∧
    (((w.alloc (.cells #[.int .u64 x, .int .u64 y, .int .i64 z] 27)).alloc (.cells Tryd.zeroCells54 54)).alloc (.cells #[.pointer none, .pointer (some ⟨w.heap.size + 1, 0, none⟩)] 38)).cell? ⟨w.heap.size + 1, 64, none⟩ = some (.map none) ∧ (((w.alloc (.cells #[.int .u64 x, .int .u64 y, .int .i64 z] 27)).alloc (.cells Tryd.zeroCells54 54)).alloc (.cells #[.pointer none, .pointer (some ⟨w.heap.size + 1, 0, none⟩)] 38)).heap.size = w.heap.size + 3 ∧ Below w.heap.size w (((w.alloc (.cells #[.int .u64 x, .int .u64 y, .int .i64 z] 27)).alloc (.cells Tryd.zeroCells54 54)).alloc (.cells #[.pointer none, .pointer (some ⟨w.heap.size + 1, 0, none⟩)] 38)) := by
  obtain ⟨w1, h1⟩ : ∃ w1, w.alloc (.cells #[.int .u64 x, .int .u64 y, .int .i64 z] 27) = w1 := ⟨_, rfl⟩
  have s1 : w1.heap.size = w.heap.size + 1 := by rw [← h1]; simp
  have t0 : w1.cell? ⟨w.heap.size, 0, none⟩ = some (.int .u64 x) := by rw [← h1]; exact World.cell?_alloc_at _ _ _ _ rfl
  have t1 : w1.cell? ⟨w.heap.size, 1, none⟩ = some (.int .u64 y) := by rw [← h1]; exact World.cell?_alloc_at _ _ _ _ rfl
  have t2 : w1.cell? ⟨w.heap.size, 2, none⟩ = some (.int .i64 z) := by rw [← h1]; exact World.cell?_alloc_at _ _ _ _ rfl
  have b1 : Below w.heap.size w w1 := by rw [← h1]; exact (Below.refl _ _).alloc (Nat.le_refl _) _
  rw [h1]
  obtain ⟨w2, h2⟩ : ∃ w2, w1.alloc (.cells Tryd.zeroCells54 54) = w2 := ⟨_, rfl⟩
  have s2 : w2.heap.size = w.heap.size + 2 := by rw [← h2]; simp; omega
  have z2 : w2.cell? ⟨w.heap.size + 1, 64, none⟩ = some (.map none) := by rw [← h2, ← s1]; rw [World.cell?_alloc_at _ _ _ _ rfl, zero_ring, Array.getElem?_push]; simp
  have b2 : Below w1.heap.size w1 w2 := by rw [← h2]; exact (Below.refl _ _).alloc (Nat.le_refl _) _
  rw [h2]
  have b3 : Below w2.heap.size w2 (w2.alloc (.cells #[.pointer none, .pointer (some ⟨w.heap.size + 1, 0, none⟩)] 38)) := (Below.refl _ _).alloc (Nat.le_refl _) _
  have old : ∀ o v, w1.cell? ⟨w.heap.size, o, none⟩ = some v → (w2.alloc (.cells #[.pointer none, .pointer (some ⟨w.heap.size + 1, 0, none⟩)] 38)).cell? ⟨w.heap.size, o, none⟩ = some v := fun o v h =>
    (b3.cell (p := ⟨w.heap.size, o, none⟩) (by show w.heap.size < _; omega)).trans ((b2.cell (p := ⟨w.heap.size, o, none⟩) (by show w.heap.size < _; omega)).trans h)
  refine ⟨?_, ?_, old 0 _ t0, old 1 _ t1, old 2 _ t2, (b3.cell (p := ⟨w.heap.size + 1, 64, none⟩) (by show w.heap.size + 1 < _; omega)).trans z2, by simp; omega, (b1.trans (b2.mono (by omega))).trans (b3.mono (by omega))⟩
  · rw [World.cell?_alloc_at _ _ _ _ (by omega)]; rfl
  · rw [World.cell?_alloc_at _ _ _ _ (by omega)]; rfl

/-- What is there below a base, and what the law's round needs of it. -/
structure Rd (W : World) (B T : Nat) (p : Option Addr) (x y z : Int) : Prop where
  t0 : W.cell? ⟨T, 0, none⟩ = some (.int .u64 x)
  t1 : W.cell? ⟨T, 1, none⟩ = some (.int .u64 y)
  t2 : W.cell? ⟨T, 2, none⟩ = some (.int .i64 z)
  no : NoRg W p
  lt : T < W.heap.size
theorem Rd.below {W w' : World} {B T : Nat} {p : Option Addr} {x y z : Int} (h : Rd W B T p x y z) (hb : Below W.heap.size W w') : Rd w' B T p x y z :=
  ⟨(hb.cell (p := ⟨T, 0, none⟩) h.lt).trans h.t0, (hb.cell (p := ⟨T, 1, none⟩) h.lt).trans h.t1, (hb.cell (p := ⟨T, 2, none⟩) h.lt).trans h.t2, h.no.below hb, Nat.lt_of_lt_of_le h.lt hb.size⟩

set_option maxRecDepth 100000 in
set_option maxHeartbeats 4000000 in
theorem nobody_walk (s x y z : Int) (w : World) (hT : Tab w) : Calls Tryd.prog 5 #[.int .i64 s, .agg #[.int .u64 x, .int .u64 y, .int .i64 z]] w fun e w' => e = .returned (.bool true) ∧ Below w.heap.size w w' := by
  have hl := fun w1 (h : Below w.heap.size w w1) => lives11 w1 (hT.below h)
  have HL := Lib.hid hl
  clear hl hT
  go_enter Tryd.func5, Tryd.ntmps5
  go_wp2_with fail
  obtain ⟨c0, c1, t0, t1, t2, z64, hsz, hB⟩ := law_world w x y z
  generalize (((w.alloc (.cells #[.int .u64 x, .int .u64 y, .int .i64 z] 27)).alloc (.cells Tryd.zeroCells54 54)).alloc (.cells #[.pointer none, .pointer (some ⟨w.heap.size + 1, 0, none⟩)] 38)) = W3 at c0 c1 t0 t1 t2 z64 hsz hB ⊢
  have HB := Lib.hid hB
  clear hB
  obtain ⟨B, hBe⟩ : ∃ B, W3.heap.size = B := ⟨_, rfl⟩
  obtain ⟨T, hTe⟩ : ∃ T, w.heap.size = T := ⟨_, rfl⟩
  rw [hTe] at c0 c1 t0 t1 t2 z64
  rw [hTe]
  have hE : Hid (∀ k, k < 2 → ∃ p, W3.cell? ⟨T + 1 + 1, k, none⟩ = some (.pointer p) ∧ Rd W3 B T p x y z) := fun k hk => by
    have hn1 : NoRg W3 (some ⟨T + 1, 0, none⟩) := .inr ⟨_, rfl, z64⟩
    match k, hk with
    | 0, _ => exact ⟨none, c0, t0, t1, t2, .inl rfl, by omega⟩
    | 1, _ => exact ⟨_, c1, t0, t1, t2, hn1, by omega⟩
  clear c0 c1 t0 t1 t2 z64
  go_loopg [7, 8, 9, 10, 11, 12, 13, 14, 15, 21] 2 (fun kx s7 s8 s9 s10 s11 s12 s13 s14 s15 s21 wr => ∃ k : Nat, s21 = .int .i64 k ∧ k ≤ 2 ∧ 2 - k ≤ kx ∧ Hid (Below W3.heap.size W3 wr))
  case atStart => exact ⟨0, rfl, by omega, by omega, Below.refl _ _⟩
  case round =>
    obtain ⟨k, rfl, hk2, hkx, HW⟩ := hrel
    by_cases hlt : k < 2
    · have hltz : (k : Int) < 2 := by omega
      have hk0 : (0 : Int) ≤ (k : Int) := by omega
      obtain ⟨p, cp, hRd⟩ := hE.out k hlt
      have cp' : wr.cell? ⟨T + 1 + 1, k, none⟩ = some (.pointer p) := (HW.out.cell (p := ⟨T + 1 + 1, k, none⟩) (by have := cell_lt cp; exact this)).trans cp
      have hR0 := hRd.below HW.out
      have RD := Lib.hid hR0
      have a0 := hR0.t0
      have hd := drop_no p x wr hR0.no
      clear cp hRd hR0
      go_wp2_with (go_at_call 25; with_reducible refine hd.mono ?_; rintro e w1 ⟨rfl, hB1⟩; have r1 := (RD.out.below hB1).below ((Below.refl w1.heap.size w1).alloc (Nat.le_refl _) (.cells #[.int .u64 0, .int .u64 0, .int .i64 0] 27)); have b1 := (RD.out.below hB1).t0; have l1 := (RD.out.below hB1).lt; have hg := get_no p x _ r1.no; have HB1 := Lib.hid hB1; clear hB1 a0 hd r1)
      have r1 := (RD.out.below HB1.out).below ((Below.refl w1.heap.size w1).alloc (Nat.le_refl _) (.cells #[.int .u64 0, .int .u64 0, .int .i64 0] 27))
      have hsw : wr.heap.size ≤ w1.heap.size := HB1.out.size
      have HC1 : Hid (Below wr.heap.size wr (w1.alloc (.cells #[.int .u64 0, .int .u64 0, .int .i64 0] 27))) := Lib.hid (HB1.out.alloc hsw _)
      generalize w1.alloc (.cells #[.int .u64 0, .int .u64 0, .int .i64 0] 27) = wa at hg r1 HC1 ⊢
      go_wp2_with (go_at_call 26; with_reducible refine hg.mono ?_; rintro e w2 ⟨rfl, hB2⟩; have b2 := (r1.below hB2).t0; have l2 := (r1.below hB2).lt; have HB2 := Lib.hid hB2; clear hB2 hg)
      have r2 := (r1.below HB2.out).below ((Below.refl w2.heap.size w2).alloc (Nat.le_refl _) (.cells #[.int .u64 0, .int .u64 0, .int .i64 0] 27))
      have hsw2 : wa.heap.size ≤ w2.heap.size := HB2.out.size
      have HC2 : Hid (Below wa.heap.size wa (w2.alloc (.cells #[.int .u64 0, .int .u64 0, .int .i64 0] 27))) := Lib.hid (HB2.out.alloc hsw2 _)
      generalize w2.alloc (.cells #[.int .u64 0, .int .u64 0, .int .i64 0] 27) = wb at r2 HC2 ⊢
      have hn := next_no p s wb r2.no
      have u0 := r2.t0
      have u1 := r2.t1
      have u2 := r2.t2
      go_wp2_with (go_at_call 27; with_reducible refine hn.mono ?_; rintro e w3 ⟨rfl, rfl⟩)
      have hp := put_no p s x y z w3 r2.no
      clear hn
      go_wp2_with (go_at_call 28; with_reducible refine hp.mono ?_; rintro e w4 ⟨rfl, hB4⟩; have r4 := r2.below hB4; have ht := take_no p s w4 r4.no; have hlo := look_no p s w4 r4.no; have hle := len_no p w4 r4.no; have hus := used_no p w4 r4.no; have HB4 := Lib.hid hB4; clear hB4 u0 u1 u2 hp r4)
      go_wp2_with (first
        | (go_at_call 24; with_reducible refine ht.mono ?_; rintro e w5 ⟨rfl, rfl⟩)
        | (go_at_call 29; with_reducible refine hlo.mono ?_; rintro e w5 ⟨rfl, rfl⟩)
        | (go_at_call 20; with_reducible refine hle.mono ?_; rintro e w5 ⟨rfl, rfl⟩)
        | (go_at_call 21; with_reducible refine hus.mono ?_; rintro e w5 ⟨rfl, rfl⟩))
      go_roundg (2 - (k + 1))
      case measure => omega
      case rel =>
        refine ⟨k + 1, by go_num, by omega, Nat.le_refl _, (show Hid _ from ?_)⟩
        have q1 := HW.out.size
        have q2 := HC1.out.size
        have q3 := HC2.out.size
        exact ((HW.out.trans (HC1.out.mono q1)).trans (HC2.out.mono (by omega))).trans (HB4.out.mono (by omega))
    · have hltz : ¬ (k : Int) < 2 := by omega
      have hL := HL.out wr (HB.out.trans (HW.out.mono (by omega)))
      go_wp2_with (go_at_call 11; with_reducible refine hL.mono ?_; rintro e w1 ⟨rfl, hB1⟩)
      go_ret
      exact ⟨rfl, (HB.out.trans (HW.out.mono (by omega))).trans (hB1.mono (by have := HB.out.size; have := HW.out.size; omega))⟩
end Go.Proofs.YtblfpaphgbbbcaaDoor

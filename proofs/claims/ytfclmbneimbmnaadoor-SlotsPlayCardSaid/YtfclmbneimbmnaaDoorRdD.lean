/- The law's do: Take, inside. -/
import Derived.Test.YtfclmbneimbmnaaDoorRdC
namespace Go.Proofs.YtfclmbneimbmnaaDoor
open Go.RowKit

set_option maxRecDepth 100000 in
set_option maxHeartbeats 8000000 in
theorem do_take_in {B r b : Nat} {V : Nat → Value} {S : Nat → List Th} {M : Int → Option (Nat × Nat)} {L : List Rt} (p : Option Addr) (c : Nat) (s x y z : Int) (w : World) (h : Bo B r b V S M w (.slice p L.length c) L) (hl : L.length ≤ 200) (hx : IdOk x) (hs : 0 ≤ s ∧ s < 64) :
    Calls Tryd.prog 23 #[.pointer (some ⟨r, 0, none⟩), .slice p L.length c, .agg #[.int .i64 2, .int .i64 s, .int .u64 x, .int .u64 y, .int .i64 z]] w fun e w' => ∃ v', e = .returned (.tuple #[v', .bool true]) ∧ St B r b (L.length + 1) w' v' ∧ Below B w w' := by
  have mixed := insTh.mixed
  have hb1 : Below w.heap.size w (w.alloc (.cells #[.int .i64 2, .int .i64 s, .int .u64 x, .int .u64 y, .int .i64 z] 41)) := (Below.refl _ _).alloc (Nat.le_refl _) _
  obtain ⟨T, hT⟩ : ∃ T, w.heap.size = T := ⟨_, rfl⟩
  have t0 : (w.alloc (.cells #[.int .i64 2, .int .i64 s, .int .u64 x, .int .u64 y, .int .i64 z] 41)).cell? ⟨T, 0, none⟩ = some (.int .i64 2) := World.cell?_alloc_at _ _ _ _ hT.symm
  have t1 : (w.alloc (.cells #[.int .i64 2, .int .i64 s, .int .u64 x, .int .u64 y, .int .i64 z] 41)).cell? ⟨T, 1, none⟩ = some (.int .i64 s) := World.cell?_alloc_at _ _ _ _ hT.symm
  have t2 : (w.alloc (.cells #[.int .i64 2, .int .i64 s, .int .u64 x, .int .u64 y, .int .i64 z] 41)).cell? ⟨T, 2, none⟩ = some (.int .u64 x) := World.cell?_alloc_at _ _ _ _ hT.symm
  have t3 : (w.alloc (.cells #[.int .i64 2, .int .i64 s, .int .u64 x, .int .u64 y, .int .i64 z] 41)).cell? ⟨T, 3, none⟩ = some (.int .u64 y) := World.cell?_alloc_at _ _ _ _ hT.symm
  have t4 : (w.alloc (.cells #[.int .i64 2, .int .i64 s, .int .u64 x, .int .u64 y, .int .i64 z] 41)).cell? ⟨T, 4, none⟩ = some (.int .i64 z) := World.cell?_alloc_at _ _ _ _ hT.symm
  have hTs : T < (w.alloc (.cells #[.int .i64 2, .int .i64 s, .int .u64 x, .int .u64 y, .int .i64 z] 41)).heap.size := by simp; omega
  have hBo := h.below hb1
  have HBo := Lib.hid hBo
  have HB0 := Lib.hid hb1
  have HB1 := Lib.hid (hb1.mono (B' := B) h.size)
  obtain ⟨_, _, ev, hpn, hRS, _⟩ := hBo.own.shape
  injection ev with ev1 _ ev3
  subst ev1 ev3
  have HPN := Lib.hid hpn
  have hf := find_any p c L x _ hRS (by omega)
  have HL := Lib.hid hl
  have HX := Lib.hid hx
  have HSO := Lib.hid hs
  clear hs
  clear hb1 hBo h hpn hl hx
  go_enter Tryd.func23, Tryd.ntmps23
  go_wp2_with fail
  generalize w.alloc (.cells #[.int .i64 2, .int .i64 s, .int .u64 x, .int .u64 y, .int .i64 z] 41) = W1 at t0 t1 t2 t3 t4 hTs HBo HB0 HB1 hf hRS ⊢
  have HRS := Lib.hid hRS
  clear hRS
  refine hf.mono ?_
  rintro e w1 ⟨rr, rfl, hF, rfl⟩
  have HF := Lib.hid hF
  clear hF hf
  have HS : Hid (∀ W, Below w1.heap.size w1 W → W.cell? ⟨T, 0, none⟩ = some (.int .i64 2) ∧ W.cell? ⟨T, 1, none⟩ = some (.int .i64 s) ∧ W.cell? ⟨T, 2, none⟩ = some (.int .u64 x) ∧ W.cell? ⟨T, 3, none⟩ = some (.int .u64 y) ∧ W.cell? ⟨T, 4, none⟩ = some (.int .i64 z) ∧ Below w1.heap.size w1 W) := Lib.hid (fun W hb =>
    ⟨(hb.cell (p := ⟨T, _, none⟩) hTs).trans t0, (hb.cell (p := ⟨T, _, none⟩) hTs).trans t1, (hb.cell (p := ⟨T, _, none⟩) hTs).trans t2, (hb.cell (p := ⟨T, _, none⟩) hTs).trans t3, (hb.cell (p := ⟨T, _, none⟩) hTs).trans t4, hb⟩)

  obtain ⟨sn, hsn⟩ : ∃ sn : Nat, s = (sn : Int) := ⟨s.toNat, by have := HSO.out; omega⟩
  have hsn64 : sn < 64 := by have := HSO.out; omega
  have hrt := rtake_any p c L s w1 HRS.out (by have := HL.out; omega)
  have hsrt := HBo.out.rel.sorted hsn64
  rw [← hsn] at hsrt
  obtain ⟨LR, hLR⟩ : ∃ l, srt ltR zR (inR s L) = l := ⟨_, rfl⟩
  obtain ⟨LT, hLT⟩ : ∃ l, srt ltT zT (S sn) = l := ⟨_, rfl⟩
  rw [hLR] at hrt hsrt
  rw [hLT] at hsrt
  have HLT := Lib.hid hLT
  have HSR := Lib.hid hsrt
  have HLL : Hid (LT.length ≤ 300 ∧ LR.length = LT.length) := Lib.hid ⟨by rw [← hLT, srtT_len]; have := tot_ge S 64 hsn64; have := HBo.out.rel.len; have := HL.out; omega, by rw [← hsrt]; simp⟩
  have HSN := Lib.hid hsn
  clear hsrt hLR hLT hsn
  go_wp2_with fail
  refine hrt.mono ?_
  rintro e w2 ⟨v1, v2, rfl, hO1, hO2, hb2⟩
  obtain ⟨q1, n1, c1, rfl⟩ := hO1.form
  obtain ⟨q2, c2, rfl, _, hRS2, _⟩ := hO2.shape
  rw [HLL.out.2] at hO2 ⊢
  have hBo2 := HBo.out.below hb2
  have hlk := look_any w2 hBo2.rn hsn64
  rw [HLT.out, ← HSN.out] at hlk
  have H12 := Lib.hid hb2
  have H2 := Lib.hid (And.intro hO1 (And.intro hBo2 (And.intro (HB1.out.trans (hb2.mono HBo.out.size)) hO2)))
  obtain ⟨t0, t1, t2, t3, t4, _⟩ := HS.out _ hb2
  clear hO1 hO2 hb2 hBo2 hrt hRS2
  go_wp2_with fail
  refine hlk.mono ?_
  rintro e w3 ⟨v3, rfl, hO3, hb3⟩
  obtain ⟨a3, c3, rfl, hT3⟩ := hO3.reads
  have hO23 := H2.out.2.2.2.keep hb3
  obtain ⟨_, _, ev, _, hR3, _⟩ := hO23.shape
  injection ev with ev1 ev2 ev3
  subst ev1 ev3
  clear ev2
  have hsm := same_yes a3 q2 c3 c2 LT LR w3 hT3 hR3 HSR.out (by unfold maxLen; have := HLL.out.1; omega)
  rw [HLL.out.2] at hsm
  have HO3 := Lib.hid (And.intro hO3 hb3)
  clear hO3 hb3 hlk hT3 hR3 hO23
  go_wp2_with fail
  refine hsm.mono ?_
  rintro e w4 ⟨rfl, hb4⟩
  have H24 : Hid (Below w2.heap.size w2 w4) := Lib.hid (HO3.out.2.trans (hb4.mono HO3.out.2.size))
  obtain ⟨s0, s1, s2, s3, s4, _⟩ := HS.out w4 (H12.out.trans (H24.out.mono H12.out.size))
  have htk := take_any w4 (H2.out.2.1.rn.below H24.out) hsn64
  rw [HLT.out, ← HSN.out] at htk
  clear hsm hb4 t0 t1 t2 t3 t4
  go_wp2_with fail
  refine htk.mono ?_
  rintro e w5 ⟨v5, rfl, hO5, V5, M5, hR5, ho5, hf5⟩
  obtain ⟨a5, c5, rfl, hT5⟩ := hO5.reads
  have hlow : ∀ g, w1.heap.size ≤ g → ¬ Fp V r b g := fun g hg hq => by have := HBo.out.rn.lt hq; omega
  have hO25 := (H2.out.2.2.2.keep H24.out).only ho5 (fun g hg => hlow g (H2.out.2.2.2.own_lt hg).1)
  obtain ⟨_, _, ev, _, hR25, _⟩ := hO25.shape
  injection ev with ev1 ev2 ev3
  subst ev1 ev3
  clear ev2
  have hsm := same_yes a5 q2 c5 c2 LT LR w5 hT5 hR25 HSR.out (by unfold maxLen; have := HLL.out.1; omega)
  rw [HLL.out.2] at hsm
  have hO15 := (H2.out.1.keep H24.out).only ho5 (fun g hg => hlow g (H2.out.1.own_lt hg).1)
  have hB5 : Below B w w5 := (H2.out.2.2.1.trans (H24.out.mono H2.out.2.1.size)).trans (ho5.toBelow (Nat.le_trans H2.out.2.1.size H24.out.size) (fun q hq => HBo.out.base q hq))
  have hnew : Bo B r b V5 (upd S sn []) M5 w5 (.slice q1 n1 c1) (leftR s L) := ⟨hR5, hO15.mono (Nat.zero_le _), fun g hg hq => hlow g (H2.out.1.own_lt hg).1 (hf5 g hq), by rw [HSN.out]; exact HBo.out.rel.take, fun q hq => HBo.out.base q (hf5 q hq), Nat.le_trans (Nat.le_trans H2.out.2.1.size H24.out.size) ho5.size⟩
  have HNEW := Lib.hid (And.intro hnew hB5)
  clear hO5 hR5 ho5 hf5 hT5 hO25 hR25 hO15 hB5 hnew htk s0 s1 s2 s3 s4
  go_wp2_with fail
  refine hsm.mono ?_
  rintro e w6 ⟨rfl, hb6⟩
  have HB6 := Lib.hid hb6
  clear hsm hb6
  go_wp2_with fail
  go_ret2
  exact ⟨_, rfl, (HNEW.out.1.below HB6.out).st (by have := leftR_len s L; omega), HNEW.out.2.trans (HB6.out.mono HNEW.out.1.size)⟩

end Go.Proofs.YtfclmbneimbmnaaDoor

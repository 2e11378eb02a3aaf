/- The law's do: Next, Take. -/
import Derived.Test.YtfclmbneimbmnaaDoorRdB
namespace Go.Proofs.YtfclmbneimbmnaaDoor
open Go.RowKit Go.Sort

theorem ltT_eq {x y : Th} (h1 : ltT x y = false) (h2 : ltT y x = false) : x.1 = y.1 := by
  obtain ⟨a, b, c⟩ := x
  obtain ⟨a', b', c'⟩ := y
  unfold ltT at h1 h2
  simp at h1 h2
  show a = a'
  omega
/-- A row of things with unlike IDs is sorted in one way alone. -/
theorem srt_eq {l1 l2 : List Th} (hp : l1.Perm l2) (hn : (l1.map (·.1)).Nodup) : srt ltT zT l1 = srt ltT zT l2 := by
  refine up_unique _ _ (((srt_perm ltT zT l1).trans hp).trans (srt_perm ltT zT l2).symm) (srt_up ltT_swo zT l1) (srt_up ltT_swo zT l2) (fun x hx y hy h1 h2 => ?_)
  have hx' := (srt_perm ltT zT l1).mem_iff.1 hx
  have hy' := (srt_perm ltT zT l1).mem_iff.1 hy
  have he := ltT_eq h1 h2
  obtain ⟨i, hi, rfl⟩ := List.mem_iff_getElem.1 hx'
  obtain ⟨j, hj, rfl⟩ := List.mem_iff_getElem.1 hy'
  have := (List.pairwise_iff_getElem.1 hn)
  by_cases hij : i = j
  · subst hij; rfl
  · rcases Nat.lt_or_gt_of_ne hij with h | h
    · exact absurd (by rw [List.getElem_map, List.getElem_map]; exact he) (this i j (by simpa using hi) (by simpa using hj) h)
    · exact absurd (by rw [List.getElem_map, List.getElem_map]; exact he.symm) (this j i (by simpa using hj) (by simpa using hi) h)
theorem Rel.sorted {S : Nat → List Th} {L : List Rt} (h : Rel S L) {s : Nat} (hs : s < 64) : (srt ltR zR (inR (s : Int) L)).map (·.1) = srt ltT zT (S s) := by
  rw [srt_map]
  have hnd : (atS s L).map (·.1) = (inR (s : Int) L).map idR := by unfold atS inR; rw [List.map_map]; rfl
  exact srt_eq (h.perm s hs).symm (by
    show ((atS s L).map (·.1)).Nodup
    rw [hnd]
    exact List.Sublist.nodup ((List.filter_sublist).map idR) h.nd)

set_option maxRecDepth 100000 in
set_option maxHeartbeats 8000000 in
theorem do_next {B r b : Nat} {V : Nat → Value} {S : Nat → List Th} {M : Int → Option (Nat × Nat)} {L : List Rt} (p : Option Addr) (c : Nat) (s x y z : Int) (w : World) (h : Bo B r b V S M w (.slice p L.length c) L) (hl : L.length ≤ 200) (hx : IdOk x) (hT0 : Tab w) :
    Calls Tryd.prog 23 #[.pointer (some ⟨r, 0, none⟩), .slice p L.length c, .agg #[.int .i64 3, .int .i64 s, .int .u64 x, .int .u64 y, .int .i64 z]] w fun e w' => ∃ v', e = .returned (.tuple #[v', .bool true]) ∧ St B r b (L.length + 1) w' v' ∧ Below B w w' := by
  have mixed := insTh.mixed
  have hb1 : Below w.heap.size w (w.alloc (.cells #[.int .i64 3, .int .i64 s, .int .u64 x, .int .u64 y, .int .i64 z] 41)) := (Below.refl _ _).alloc (Nat.le_refl _) _
  obtain ⟨T, hT⟩ : ∃ T, w.heap.size = T := ⟨_, rfl⟩
  have t0 : (w.alloc (.cells #[.int .i64 3, .int .i64 s, .int .u64 x, .int .u64 y, .int .i64 z] 41)).cell? ⟨T, 0, none⟩ = some (.int .i64 3) := World.cell?_alloc_at _ _ _ _ hT.symm
  have t1 : (w.alloc (.cells #[.int .i64 3, .int .i64 s, .int .u64 x, .int .u64 y, .int .i64 z] 41)).cell? ⟨T, 1, none⟩ = some (.int .i64 s) := World.cell?_alloc_at _ _ _ _ hT.symm
  have t2 : (w.alloc (.cells #[.int .i64 3, .int .i64 s, .int .u64 x, .int .u64 y, .int .i64 z] 41)).cell? ⟨T, 2, none⟩ = some (.int .u64 x) := World.cell?_alloc_at _ _ _ _ hT.symm
  have t3 : (w.alloc (.cells #[.int .i64 3, .int .i64 s, .int .u64 x, .int .u64 y, .int .i64 z] 41)).cell? ⟨T, 3, none⟩ = some (.int .u64 y) := World.cell?_alloc_at _ _ _ _ hT.symm
  have t4 : (w.alloc (.cells #[.int .i64 3, .int .i64 s, .int .u64 x, .int .u64 y, .int .i64 z] 41)).cell? ⟨T, 4, none⟩ = some (.int .i64 z) := World.cell?_alloc_at _ _ _ _ hT.symm
  have hTs : T < (w.alloc (.cells #[.int .i64 3, .int .i64 s, .int .u64 x, .int .u64 y, .int .i64 z] 41)).heap.size := by simp; omega
  have hBo := h.below hb1
  have HBo := Lib.hid hBo
  have HB0 := Lib.hid hb1
  have HB1 := Lib.hid (hb1.mono (B' := B) h.size)
  obtain ⟨_, _, ev, hpn, hRS, _⟩ := hBo.own.shape
  injection ev with ev1 _ ev3
  subst ev1 ev3
  have HPN := Lib.hid hpn
  have hf := find_any p c L x _ hRS (by omega)
  have HL := Lib.hid hl
  have HX := Lib.hid hx
  have HT := Lib.hid hT0
  clear hT0
  clear hb1 hBo h hpn hl hx
  go_enter Tryd.func23, Tryd.ntmps23
  go_wp2_with fail
  generalize w.alloc (.cells #[.int .i64 3, .int .i64 s, .int .u64 x, .int .u64 y, .int .i64 z] 41) = W1 at t0 t1 t2 t3 t4 hTs HBo HB0 HB1 hf hRS ⊢
  have HRS := Lib.hid hRS
  clear hRS
  refine hf.mono ?_
  rintro e w1 ⟨rr, rfl, hF, rfl⟩
  have HF := Lib.hid hF
  clear hF hf
  have HS : Hid (∀ W, Below w1.heap.size w1 W → W.cell? ⟨T, 0, none⟩ = some (.int .i64 3) ∧ W.cell? ⟨T, 1, none⟩ = some (.int .i64 s) ∧ W.cell? ⟨T, 2, none⟩ = some (.int .u64 x) ∧ W.cell? ⟨T, 3, none⟩ = some (.int .u64 y) ∧ W.cell? ⟨T, 4, none⟩ = some (.int .i64 z) ∧ Below w1.heap.size w1 W) := Lib.hid (fun W hb =>
    ⟨(hb.cell (p := ⟨T, _, none⟩) hTs).trans t0, (hb.cell (p := ⟨T, _, none⟩) hTs).trans t1, (hb.cell (p := ⟨T, _, none⟩) hTs).trans t2, (hb.cell (p := ⟨T, _, none⟩) hTs).trans t3, (hb.cell (p := ⟨T, _, none⟩) hTs).trans t4, hb⟩)

  clear HS hTs
  obtain ⟨r1, r2, r3, hn, hu⟩ := next_both s w1 (HT.out.below HB0.out) HBo.out.rn HBo.out.rel
  have hrn := rrnext p c L s w1 HRS.out (by have := HL.out; omega)
  have HU := Lib.hid hu
  clear hu
  go_wp2_with (first
    | (go_at_call 67; with_reducible refine hn.mono ?_; rintro e w2 ⟨rfl, rfl⟩)
    | (go_at_call 74; (with_reducible refine hrn.mono ?_); rintro e w2 ⟨v, rfl, ⟨s1, s2, s3, rfl, hN⟩, rfl⟩; obtain ⟨rfl, rfl, rfl⟩ := HU.out _ _ _ hN; clear hN))
  go_ret2
  exact ⟨_, by simp, HBo.out.st (Nat.le_succ _), HB1.out⟩

set_option maxRecDepth 100000 in
set_option maxHeartbeats 8000000 in
theorem do_take_out {B r b : Nat} {V : Nat → Value} {S : Nat → List Th} {M : Int → Option (Nat × Nat)} {L : List Rt} (p : Option Addr) (c : Nat) (s x y z : Int) (w : World) (h : Bo B r b V S M w (.slice p L.length c) L) (hl : L.length ≤ 200) (hx : IdOk x) (hs : ¬ (0 ≤ s ∧ s < 64)) :
    Calls Tryd.prog 23 #[.pointer (some ⟨r, 0, none⟩), .slice p L.length c, .agg #[.int .i64 2, .int .i64 s, .int .u64 x, .int .u64 y, .int .i64 z]] w fun e w' => ∃ v', e = .returned (.tuple #[v', .bool true]) ∧ St B r b (L.length + 1) w' v' ∧ Below B w w' := by
  have mixed := insTh.mixed
  have hb1 : Below w.heap.size w (w.alloc (.cells #[.int .i64 2, .int .i64 s, .int .u64 x, .int .u64 y, .int .i64 z] 41)) := (Below.refl _ _).alloc (Nat.le_refl _) _
  obtain ⟨T, hT⟩ : ∃ T, w.heap.size = T := ⟨_, rfl⟩
  have t0 : (w.alloc (.cells #[.int .i64 2, .int .i64 s, .int .u64 x, .int .u64 y, .int .i64 z] 41)).cell? ⟨T, 0, none⟩ = some (.int .i64 2) := World.cell?_alloc_at _ _ _ _ hT.symm
  have t1 : (w.alloc (.cells #[.int .i64 2, .int .i64 s, .int .u64 x, .int .u64 y, .int .i64 z] 41)).cell? ⟨T, 1, none⟩ = some (.int .i64 s) := World.cell?_alloc_at _ _ _ _ hT.symm
  have t2 : (w.alloc (.cells #[.int .i64 2, .int .i64 s, .int .u64 x, .int .u64 y, .int .i64 z] 41)).cell? ⟨T, 2, none⟩ = some (.int .u64 x) := World.cell?_alloc_at _ _ _ _ hT.symm
  have t3 : (w.alloc (.cells #[.int .i64 2, .int .i64 s, .int .u64 x, .int .u64 y, .int .i64 z] 41)).cell? ⟨T, 3, none⟩ = some (.int .u64 y) := World.cell?_alloc_at _ _ _ _ hT.symm
  have t4 : (w.alloc (.cells #[.int .i64 2, .int .i64 s, .int .u64 x, .int .u64 y, .int .i64 z] 41)).cell? ⟨T, 4, none⟩ = some (.int .i64 z) := World.cell?_alloc_at _ _ _ _ hT.symm
  have hTs : T < (w.alloc (.cells #[.int .i64 2, .int .i64 s, .int .u64 x, .int .u64 y, .int .i64 z] 41)).heap.size := by simp; omega
  have hBo := h.below hb1
  have HBo := Lib.hid hBo
  have HB0 := Lib.hid hb1
  have HB1 := Lib.hid (hb1.mono (B' := B) h.size)
  obtain ⟨_, _, ev, hpn, hRS, _⟩ := hBo.own.shape
  injection ev with ev1 _ ev3
  subst ev1 ev3
  have HPN := Lib.hid hpn
  have hf := find_any p c L x _ hRS (by omega)
  have HL := Lib.hid hl
  have HX := Lib.hid hx
  have HSO := Lib.hid hs
  clear hs
  clear hb1 hBo h hpn hl hx
  go_enter Tryd.func23, Tryd.ntmps23
  go_wp2_with fail
  generalize w.alloc (.cells #[.int .i64 2, .int .i64 s, .int .u64 x, .int .u64 y, .int .i64 z] 41) = W1 at t0 t1 t2 t3 t4 hTs HBo HB0 HB1 hf hRS ⊢
  have HRS := Lib.hid hRS
  clear hRS
  refine hf.mono ?_
  rintro e w1 ⟨rr, rfl, hF, rfl⟩
  have HF := Lib.hid hF
  clear hF hf
  have HS : Hid (∀ W, Below w1.heap.size w1 W → W.cell? ⟨T, 0, none⟩ = some (.int .i64 2) ∧ W.cell? ⟨T, 1, none⟩ = some (.int .i64 s) ∧ W.cell? ⟨T, 2, none⟩ = some (.int .u64 x) ∧ W.cell? ⟨T, 3, none⟩ = some (.int .u64 y) ∧ W.cell? ⟨T, 4, none⟩ = some (.int .i64 z) ∧ Below w1.heap.size w1 W) := Lib.hid (fun W hb =>
    ⟨(hb.cell (p := ⟨T, _, none⟩) hTs).trans t0, (hb.cell (p := ⟨T, _, none⟩) hTs).trans t1, (hb.cell (p := ⟨T, _, none⟩) hTs).trans t2, (hb.cell (p := ⟨T, _, none⟩) hTs).trans t3, (hb.cell (p := ⟨T, _, none⟩) hTs).trans t4, hb⟩)

  have hrt := rtake_any p c L s w1 HRS.out (by have := HL.out; omega)
  have hno : ∀ x ∈ L, x.2 ≠ s := fun x hx e => by have h1 := (HBo.out.rel.ok x hx).1; have h2 := HSO.out; omega
  have eL : leftR s L = L := by unfold leftR; rw [List.filter_eq_self]; intro x hx; simp [hno x hx]
  have eI : inR s L = [] := by unfold inR; rw [List.filter_eq_nil_iff]; intro x hx; simp [hno x hx]
  rw [eL, eI] at hrt
  clear hno eL eI
  go_wp2_with fail
  refine hrt.mono ?_
  rintro e w2 ⟨v1, v2, rfl, hO1, hO2, hb2⟩
  obtain ⟨q1, n1, c1, rfl⟩ := hO1.form
  obtain ⟨q2, c2, rfl, _, hRS2, _⟩ := hO2.shape
  have hlen : (srt ltR zR ([] : List Rt)).length = 0 := rfl
  rw [hlen]
  have hBo2 := HBo.out.below hb2
  have hlk := look_out s w2 hBo2.rn HSO.out
  have htk := fun W (hW : Below w2.heap.size w2 W) => take_out s W (hBo2.rn.below hW) HSO.out
  have hsm := fun W (hW : Below w2.heap.size w2 W) => same_yes none q2 0 c2 [] (srt ltR zR ([] : List Rt)) W (fun k hk => by simp at hk) (hRS2.below hW) rfl (by simp)
  have HTK := Lib.hid htk
  simp only [List.length_nil, hlen] at hsm
  have HSM := Lib.hid hsm
  have H12 := Lib.hid hb2
  have H2 := Lib.hid (And.intro hO1 (And.intro hBo2 (HB1.out.trans (hb2.mono HBo.out.size))))
  obtain ⟨t0, t1, t2, t3, t4, _⟩ := HS.out _ hb2
  clear htk hsm hO1 hO2 hb2 hBo2 hrt hRS2
  go_wp2_with fail
  refine hlk.mono ?_
  rintro e w3 ⟨rfl, rfl⟩
  clear hlk
  go_wp2_with (first
    | (go_at_call 20; (with_reducible refine (HSM.out _ (Below.refl _ _)).mono ?_); rintro e w4 ⟨rfl, hb4⟩; obtain ⟨_, t1', _, _, _, _⟩ := HS.out w4 (H12.out.trans (hb4.mono H12.out.size)); have HB4 := Lib.hid hb4; clear hb4)
    | (go_at_call 28; (with_reducible refine (HTK.out _ HB4.out).mono ?_); rintro e w5 ⟨rfl, rfl⟩)
    | (go_at_call 20; (with_reducible refine (HSM.out _ HB4.out).mono ?_); rintro e w6 ⟨rfl, hb6⟩; have HB6 := Lib.hid (HB4.out.trans (hb6.mono HB4.out.size)); clear hb6))
  go_ret2
  obtain ⟨hO1, hBo2, hB2⟩ := H2.out
  have hnew : Bo B r b V S M _ (.slice q1 n1 c1) L := ⟨hBo2.rn, hO1.mono (Nat.zero_le _), fun g hg hq => by
    have h1 := (hO1.own_lt hg).1
    have h2 := HBo.out.rn.lt hq
    omega, hBo2.rel, hBo2.base, hBo2.size⟩
  exact ⟨_, rfl, (hnew.below HB6.out).st (Nat.le_succ _), hB2.trans (HB6.out.mono hBo2.size)⟩

end Go.Proofs.YtfclmbneimbmnaaDoor

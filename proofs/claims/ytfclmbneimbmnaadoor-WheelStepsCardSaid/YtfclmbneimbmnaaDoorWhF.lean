import Derived.Test.YtfclmbneimbmnaaDoorWhE
namespace Go.Proofs.YtfclmbneimbmnaaDoor
open Go.RowKit
/- A wheel made anew. -/

/-- A wheel of which k rings are made. -/
structure Nw (B : Nat) (w : World) (q : Nat) (now : Int) (k : Nat) (R : Nat → RD) : Prop where
  c0 : w.cell? ⟨q, 0, none⟩ = some (.int .i64 now)
  cr : ∀ j, j < k → w.cell? ⟨q, 1 + j, none⟩ = some (.pointer (some ⟨(R j).r, 0, none⟩))
  cn : ∀ j, j < 4 → (w.cell? ⟨q, 1 + j, none⟩).isSome = true
  c5 : w.cell? ⟨q, 5, none⟩ = some (.slice none 0 0)
  fro : ∀ o, w.frozen? ⟨q, o, none⟩ = false
  rg : ∀ j, j < k → (R j).has w ∧ (R j).S = fun _ => []
  ap1 : ∀ i j g, i < k → j < k → (R i).fp g → (R j).fp g → i = j
  ap2 : ∀ j g, j < k → (R j).fp g → g ≠ q ∧ B ≤ g
  qb : B ≤ q
theorem Nw.qlt {B : Nat} {w : World} {q k : Nat} {now : Int} {R : Nat → RD} (h : Nw B w q now k R) : q < w.heap.size := by have := cell_lt h.c0; exact this
theorem Nw.cz {B : Nat} {w w2 : World} {q k : Nat} {now : Int} {R : Nat → RD} (h : Nw B w q now k R) (hk : k < 4) (hb : Below w.heap.size w.drew w2) : ∃ v, w2.cell? ⟨q, 1 + k, none⟩ = some v := by
  have h2 : (w2.cell? ⟨q, 1 + k, none⟩).isSome = true := by
    have e : w2.cell? ⟨q, 1 + k, none⟩ = w.cell? ⟨q, 1 + k, none⟩ := hb.cell (p := ⟨q, 1 + k, none⟩) h.qlt
    rw [e]; exact h.cn k hk
  exact Option.isSome_iff_exists.1 h2
theorem Nw.fz {B : Nat} {w w2 : World} {q k : Nat} {now : Int} {R : Nat → RD} (h : Nw B w q now k R) (_ : k < 4) (hb : Below w.heap.size w.drew w2) : w2.frozen? ⟨q, 1 + k, none⟩ = false := (hb.frozen (p := ⟨q, 1 + k, none⟩) h.qlt).trans (h.fro (1 + k))
theorem Nw.step {B : Nat} {w w2 : World} {q k : Nat} {now : Int} {R : Nat → RD} (h : Nw B w q now k R) (hk : k < 4) {r b : Nat} {V : Nat → Value} {M : Int → Option (Nat × Nat)} (hR : Rn w2 r b V (fun _ => []) M) (hb : Below w.heap.size w.drew w2) (hf : ∀ g, Fp V r b g → w.drew.heap.size ≤ g) :
    Nw B (w2.setCell ⟨q, 1 + k, none⟩ (.pointer (some ⟨r, 0, none⟩))) q now (k + 1) (upd R k ⟨r, b, V, fun _ => [], M⟩) := by
  have hq := h.qlt
  have c : ∀ o, w2.cell? ⟨q, o, none⟩ = w.cell? ⟨q, o, none⟩ := fun o => hb.cell (p := ⟨q, o, none⟩) hq
  have o5 : Only (fun g => g = q) w2 (w2.setCell ⟨q, 1 + k, none⟩ (.pointer (some ⟨r, 0, none⟩))) := (Only.refl _ w2).setCell _ _ rfl
  have hU : ∀ j, upd R k ⟨r, b, V, fun _ => [], M⟩ j = if j = k then (⟨r, b, V, fun _ => [], M⟩ : RD) else R j := fun j => rfl
  have hf' : ∀ g, Fp V r b g → w.heap.size ≤ g := hf
  have fresh : ∀ j g, j < k → (R j).fp g → g < w.heap.size := fun j g hj hg => RD.lt (h.rg j hj).1 hg
  refine ⟨by rw [cell_beside _ _ _ _ _ (by omega), c]; exact h.c0, fun j hj => ?_, fun j hj => ?_, by rw [cell_beside _ _ _ _ _ (by omega), c]; exact h.c5, fun o => ?_, fun j hj => ?_, fun i j g hi hj h1 h2 => ?_, fun j g hj hg => ?_, h.qb⟩
  · rw [hU]
    by_cases e : j = k
    · subst e
      rw [if_pos rfl]
      exact World.cell?_setCell_same' _ _ _ (by rw [c]; exact h.cn j hk)
    · rw [if_neg e, cell_beside _ _ _ _ _ (by omega), c]; exact h.cr j (by omega)
  · by_cases e : j = k
    · subst e
      rw [World.cell?_setCell_same' _ _ _ (by rw [c]; exact h.cn j hk)]; rfl
    · rw [cell_beside _ _ _ _ _ (by omega), c]; exact h.cn j hj
  · rw [World.frozen?_setCell]; exact (hb.frozen (p := ⟨q, o, none⟩) hq).trans (h.fro o)
  · rw [hU]
    by_cases e : j = k
    · subst e
      rw [if_pos rfl]
      exact ⟨Rn.only hR o5 (fun g hg e => by have := hf' g hg; omega), rfl⟩
    · rw [if_neg e]
      have h1 := h.rg j (by omega)
      have h3 : Rn w.drew (R j).r (R j).b (R j).V (R j).S (R j).M := Rn.only h1.1 ((Only.refl (fun _ => False) _).drew) (fun _ _ x => x)
      have h4 : (R j).has w2 := Rn.below h3 hb
      exact ⟨Rn.only h4 o5 (fun g hg e => (h.ap2 j g (by omega) hg).1 e), h1.2⟩
  · rw [hU] at h1 h2
    by_cases ei : i = k
    · by_cases ej : j = k
      · omega
      · rw [if_pos ei] at h1; rw [if_neg ej] at h2
        have := hf' g h1; have := fresh j g (by omega) h2; omega
    · by_cases ej : j = k
      · rw [if_neg ei] at h1; rw [if_pos ej] at h2
        have := hf' g h2; have := fresh i g (by omega) h1; omega
      · rw [if_neg ei] at h1; rw [if_neg ej] at h2; exact h.ap1 i j g (by omega) (by omega) h1 h2
  · rw [hU] at hg
    by_cases e : j = k
    · rw [if_pos e] at hg
      have := hf' g hg
      have := h.qb
      exact ⟨by omega, by omega⟩
    · rw [if_neg e] at hg; exact h.ap2 j g (by omega) hg
theorem Nw.bel {B : Nat} {w1 w w2 : World} {q k : Nat} {now : Int} {R : Nat → RD} (h0 : Below B w1 w) (h : Nw B w q now k R) (_ : k < 4) (hb : Below w.heap.size w.drew w2) (u : Value) : Below B w1 (w2.setCell ⟨q, 1 + k, none⟩ u) := by
  have h1 : Below B w1 w.drew := h0.drew
  have h2 : B ≤ w.heap.size := Nat.le_of_lt (Nat.lt_of_le_of_lt h.qb h.qlt)
  exact (h1.trans (hb.mono h2)).setCell h.qb u
theorem Nw.wheel {B : Nat} {w : World} {q : Nat} {now : Int} {R : Nat → RD} (h : Nw B w q now 4 R) : Wl w ⟨q, now, R, .slice none 0 0, []⟩ :=
  ⟨h.c0, h.cr, h.c5, h.fro, fun k hk => (h.rg k hk).1, OT.nil _ _, h.ap1, fun k g hk hg => ⟨(h.ap2 k g hk hg).1, fun e => by cases e⟩, fun e => (by cases e), by simp⟩

set_option maxRecDepth 100000 in
set_option maxHeartbeats 8000000 in
theorem wnew (t : Int) (w : World) (ht : 0 ≤ t ∧ t ≤ 1125899906842624) : Calls Tryd.prog 29 #[.int .i64 t] w fun e w' => ∃ q R, e = .returned (.pointer (some ⟨q, 0, none⟩)) ∧ Wl w' ⟨q, t, R, .slice none 0 0, []⟩ ∧ (∀ k, k < 4 → (R k).S = fun _ => []) ∧ Below w.heap.size w w' ∧ ∀ g, WD.fp ⟨q, t, R, .slice none 0 0, []⟩ g → w.heap.size ≤ g := by
  have mixed := insTh.mixed
  have hin := winstant t w (by omega)
  have hib : InsB t = true := by unfold InsB; exact decide_eq_true ht
  rw [hib] at hin
  clear hib
  go_enter Tryd.func29, Tryd.ntmps29
  go_wp2_with (go_at_call 78; (with_reducible refine hin.mono ?_); rintro e w1 ⟨rfl, rfl⟩)
  obtain ⟨q, hq⟩ : ∃ q, w1.heap.size = q := ⟨_, rfl⟩
  have hb0 : Below q w1 (w1.alloc (.cells #[.int .i64 t, .pointer none, .pointer none, .pointer none, .pointer none, .slice none 0 0] 81)) := (Below.refl _ _).alloc (Nat.le_of_eq hq.symm) _
  have hI0 : Nw q (w1.alloc (.cells #[.int .i64 t, .pointer none, .pointer none, .pointer none, .pointer none, .slice none 0 0] 81)) q t 0 (fun _ => ⟨0, 0, fun _ => .slice none 0 0, fun _ => [], fun _ => none⟩) := by
    have c : ∀ o v, (#[Value.int .i64 t, .pointer none, .pointer none, .pointer none, .pointer none, .slice none 0 0] : Array Value)[o]? = some v → (w1.alloc (.cells #[.int .i64 t, .pointer none, .pointer none, .pointer none, .pointer none, .slice none 0 0] 81)).cell? ⟨q, o, none⟩ = some v := fun o v h => (World.cell?_alloc_at _ _ _ _ hq.symm).trans h
    refine ⟨c 0 _ rfl, fun j hj => by omega, fun j hj => ?_, c 5 _ rfl, fun o => by rw [← hq]; simp, fun j hj => by omega, fun i j g hi => by omega, fun j g hj => by omega, by omega⟩
    match j, hj with
    | 0, _ => rw [c 1 _ rfl]; rfl
    | 1, _ => rw [c 2 _ rfl]; rfl
    | 2, _ => rw [c 3 _ rfl]; rfl
    | 3, _ => rw [c 4 _ rfl]; rfl
  generalize w1.alloc (.cells #[.int .i64 t, .pointer none, .pointer none, .pointer none, .pointer none, .slice none 0 0] 81) = W0 at hb0 hI0 ⊢
  go_loopg [4, 11] 4 (fun kx s4 s11 wr => ∃ k : Nat, (∃ v4 : Value, s4 = v4) ∧ s11 = .int .i64 k ∧ k ≤ 4 ∧ 4 - k ≤ kx ∧ Hid (∃ R, Nw q wr q t k R) ∧ Hid (Below q w1 wr))
  case atStart => exact ⟨0, ⟨_, rfl⟩, rfl, by omega, by omega, ⟨_, hI0⟩, hb0⟩
  case round =>
    subst hq
    obtain ⟨k, ⟨v4, rfl⟩, rfl, hk, hkx, ⟨R, hI⟩, HB⟩ := hrel
    by_cases hk4 : k < 4
    · have hk4z : (k : Int) < 4 := by omega
      have hk0 : (0 : Int) ≤ (k : Int) := by omega
      go_wp2_with fail
      refine wp_region_held_drew (S := (fun _ => True)) (by kernel_rfl) trivial (fun hHeld => ?_)
      refine wpAnyH_take (i := 0) (v := ?_) rfl (by kernel_rfl) (by kernel_rfl) (by kernel_rfl) (fun _ _ _ h => h) (Or.inl ⟨by rfl, ?_⟩) (by assumption) ?_
      case refine_2 => (intro w1 hS1; (try dsimp only at hS1); go_simp; try with_reducible rfl)
      try simp only [List.getElem_toArray, List.getElem_cons_zero, List.getElem_cons_succ, Act.put, List.setIfInBounds_toArray, List.set_cons_zero, List.set_cons_succ]
      refine wpAnyH_take (i := 1) (v := ?_) rfl (by kernel_rfl) (by kernel_rfl) (by kernel_rfl) (fun _ _ _ h => h) (Or.inl ⟨by rfl, ?_⟩) (by assumption) ?_
      case refine_2 => (intro w1 hS1; (try dsimp only at hS1); go_simp; try with_reducible rfl)
      try simp only [List.getElem_toArray, List.getElem_cons_zero, List.getElem_cons_succ, Act.put, List.setIfInBounds_toArray, List.set_cons_zero, List.set_cons_succ]
      refine wpAnyH_take (i := 3) (v := ?_) rfl (by kernel_rfl) (by kernel_rfl) (by kernel_rfl) (fun _ _ _ h => h) (Or.inl ⟨by rfl, ?_⟩) (by assumption) ?_
      case refine_2 => (intro w1 hS1; (try dsimp only at hS1); go_simp; try with_reducible rfl)
      try simp only [List.getElem_toArray, List.getElem_cons_zero, List.getElem_cons_succ, Act.put, List.setIfInBounds_toArray, List.set_cons_zero, List.set_cons_succ]
      refine wpAnyH_take (i := 4) (v := ?_) rfl (by kernel_rfl) (by kernel_rfl) (by kernel_rfl) (fun _ _ _ h => h) (Or.inl ⟨by rfl, ?_⟩) (by assumption) ?_
      case refine_2 => (intro w1 hS1; (try dsimp only at hS1); go_simp; try with_reducible rfl)
      try simp only [List.getElem_toArray, List.getElem_cons_zero, List.getElem_cons_succ, Act.put, List.setIfInBounds_toArray, List.set_cons_zero, List.set_cons_succ]
      refine wpAnyH_ready (rs := [2]) (by kernel_rfl) (by simp) ?_
      refine AllReadyH.cons rfl (fun K hK => ?_) AllReadyH.nil
      go_simp
      refine (rnew _).mono ?_
      rintro e w2 ⟨r, b, Vn, Mn, rfl, hRn, hb2, hfp⟩
      refine hK.out _ _ trivial (fun hHeld => ?_)
      clear hK K
      try simp only [List.getElem_toArray, List.getElem_cons_zero, List.getElem_cons_succ, Act.put, List.setIfInBounds_toArray, List.set_cons_zero, List.set_cons_succ]
      have hx := hI.step hk4 hRn hb2 hfp
      have hfz := hI.fz hk4 hb2
      obtain ⟨vz, hcz⟩ := hI.cz hk4 hb2
      have HXI := Lib.hid hx
      have HXB := Lib.hid (Nw.bel HB.out hI hk4 hb2 (.pointer (some ⟨r, 0, none⟩)))
      clear hx hI hRn hb2 hfp
      refine wpAnyH_take (i := 5) (v := ?_) rfl (by kernel_rfl) (by kernel_rfl) (by kernel_rfl) (fun _ _ _ h => h) (Or.inl ⟨by rfl, ?_⟩) (by assumption) ?_
      case refine_2 => (intro w1 hS1; (try dsimp only at hS1); go_simp; try with_reducible rfl)
      try simp only [List.getElem_toArray, List.getElem_cons_zero, List.getElem_cons_succ, Act.put, List.setIfInBounds_toArray, List.set_cons_zero, List.set_cons_succ]
      refine wpAnyH_ready (rs := [6]) (by kernel_rfl) (by simp) ?_
      refine AllReadyH.cons rfl (fun K hK => ?_) AllReadyH.nil
      go_simp
      refine hK.out _ _ trivial (fun hHeld => ?_)
      clear hK K
      try simp only [List.getElem_toArray, List.getElem_cons_zero, List.getElem_cons_succ, Act.put, List.setIfInBounds_toArray, List.set_cons_zero, List.set_cons_succ]
      refine wpAnyH_done (by kernel_rfl) ?_ _
      go_wp2_with fail
      go_roundg (4 - (k + 1))
      case measure => omega
      case rel => exact ⟨k + 1, ⟨_, rfl⟩, by go_num, by omega, by omega, ⟨_, HXI.out⟩, HXB.out⟩
    · have hk4z : ¬ (k : Int) < 4 := by omega
      obtain rfl : k = 4 := by omega
      go_wp2_with fail
      go_ret
      refine ⟨_, rfl, R, hI.wheel, fun j hj => (hI.rg j hj).2, HB.out, fun g hg => ?_⟩
      rcases hg with h | h | ⟨j, hj, h⟩
      · rw [h]; exact hI.qb
      · cases h
      · exact (hI.ap2 j g hj h).2
/- A wheel's Get of what waits. -/

set_option maxRecDepth 100000 in
set_option maxHeartbeats 8000000 in
theorem wget_ring (D : WD) (t : Th) (w : World) (h : Wl w D) {kk s i : Nat} (hkk : kk < 4) (hs : s < 64) (ht : ((D.R kk).S s)[i]? = some t) (hM : ∀ k, k < kk → (D.R k).M t.1 = none) : Calls Tryd.prog 41 #[.pointer (some ⟨D.q, 0, none⟩), .int .u64 t.1] w fun e w' => e = .returned (.tuple #[.agg #[.int .u64 t.1, .int .u64 t.2.1, .int .i64 t.2.2], .bool true]) ∧ Below w.heap.size w w' := by
  have hx : IdOk t.1 := (h.rg kk hkk).ok s hs t (List.mem_of_getElem? ht)
  have HX := Lib.hid hx
  have HM := Lib.hid hM
  have HT := Lib.hid ht
  obtain ⟨x, y, z⟩ := t
  simp only at HX HM
  clear hx hM ht
  have mixed := insTh.mixed
  have hbA : Below w.heap.size w (w.alloc (.cells #[.int .u64 0, .int .u64 0, .int .i64 0] 27)) := (Below.refl _ _).alloc (Nat.le_refl _) _
  have hsA : (w.alloc (.cells #[.int .u64 0, .int .u64 0, .int .i64 0] 27)).heap.size = w.heap.size + 1 := by simp
  have hzA : ∀ o, (w.alloc (.cells #[.int .u64 0, .int .u64 0, .int .i64 0] 27)).frozen? ⟨w.heap.size, o, none⟩ = false := fun o => by simp
  have hqA := zero_three w
  have hA := h.below hbA
  have hc := wcreated D _ hA
  have r0 := hA.cr 0 (by omega)
  have r1 := hA.cr 1 (by omega)
  have r2 := hA.cr 2 (by omega)
  have r3 := hA.cr 3 (by omega)
  obtain ⟨T, hT⟩ : ∃ T, w.heap.size = T := ⟨_, rfl⟩
  have hqT : D.q < T := by have := h.qlt; omega
  have H0 := Lib.hid h
  obtain ⟨A, hAe⟩ : ∃ A : Array Value, #[Value.pointer (some ⟨(D.R 0).r, 0, none⟩), .pointer (some ⟨(D.R 1).r, 0, none⟩), .pointer (some ⟨(D.R 2).r, 0, none⟩), .pointer (some ⟨(D.R 3).r, 0, none⟩)] = A := ⟨_, rfl⟩
  have HIX : Hid (∀ k : Nat, k < 4 → ∀ w, Sem.run Tryd.prog (Instr.index 79 (.agg A) (.int .i64 k)) w = .ok (.pointer (some ⟨(D.R k).r, 0, none⟩)) w) := Lib.hid (fun k hk w => by
    subst hAe
    refine run_index_arr Tryd.underlying79 Tryd.sizeOf38 Tryd.isAgg38 k hk (by omega) ?_ w
    match k, hk with
    | 0, _ => rfl
    | 1, _ => rfl
    | 2, _ => rfl
    | 3, _ => rfl)
  go_enter Tryd.func41, Tryd.ntmps41
  go_wp2_with fail
  rw [hT] at hqA hzA hsA
  generalize w.alloc (.cells #[.int .u64 0, .int .u64 0, .int .i64 0] 27) = W1 at hbA hsA hzA hqA hc hA r0 r1 r2 r3 ⊢
  have HA := Lib.hid (And.intro hbA (And.intro hsA (And.intro hzA (And.intro hqA hA))))
  clear hA hzA hqA hbA h
  go_wp2_with (go_at_call 82; (with_reducible refine hc.mono ?_); rintro e w1 ⟨rfl, rfl⟩)
  try rw [hAe]
  clear r0 r1 r2 r3 hc hsA
  go_loopg [7, 8, 9, 10, 20] 4 (fun kx s7 s8 s9 s10 s20 wr => ∃ (j : Nat), (∃ v7 v8 v9 v10 : Value, s7 = v7 ∧ s8 = v8 ∧ s9 = v9 ∧ s10 = v10) ∧ s20 = .int .i64 j ∧ j ≤ kk ∧ 4 - j ≤ kx ∧ Hid (Below w1.heap.size w1 wr))
  case atStart => exact ⟨0, ⟨_, _, _, _, rfl, rfl, rfl, rfl⟩, rfl, by omega, by omega, Below.refl _ _⟩
  case round =>
    obtain ⟨j, ⟨v7, v8, v9, v10, rfl, rfl, rfl, rfl⟩, rfl, hj, hjx, HB⟩ := hrel
    by_cases hlt : j < kk
    · have hj4 : j < 4 := by omega
      have hj4z : (j : Int) < 4 := by omega
      have hix := HIX.out j hj4
      have hg := get_none x wr ((HA.out.2.2.2.2.below HB.out).rg j hj4) HX.out (HM.out j hlt)
      go_wp2_with (go_at_call 75; (with_reducible refine hg.mono ?_); rintro e w2 ⟨rfl, hb2⟩; have HB2 := Lib.hid (HB.out.trans ((hb2.trans ((Below.refl w2.heap.size w2).alloc (Nat.le_refl _) (.cells #[.int .u64 0, .int .u64 0, .int .i64 0] 27) |>.mono hb2.size)).mono HB.out.size)); clear hb2 hg)
      go_roundg (4 - (j + 1))
      case measure => omega
      case rel => exact ⟨j + 1, ⟨_, _, _, _, rfl, rfl, rfl, rfl⟩, by go_num, by omega, by omega, HB2⟩
    · obtain rfl : j = kk := by omega
      have hj4z : (j : Int) < 4 := by omega
      have hix := HIX.out j hkk
      have hg := get_some (t := (x, y, z)) wr ((HA.out.2.2.2.2.below HB.out).rg j hkk) hs HT.out
      simp only at hg
      obtain ⟨hbA, hsA, hzA, hqA, hA⟩ := HA.out
      have q0 := (HB.out.cell (p := ⟨T, 0, none⟩) (by show T < _; omega)).trans hqA.1
      have q1 := (HB.out.cell (p := ⟨T, 1, none⟩) (by show T < _; omega)).trans hqA.2.1
      have q2 := (HB.out.cell (p := ⟨T, 2, none⟩) (by show T < _; omega)).trans hqA.2.2
      have zf := fun o => (HB.out.frozen (p := ⟨T, o, none⟩) (by show T < _; omega)).trans (hzA o)
      have hTr : T < wr.heap.size := by have := HB.out.size; omega
      clear hbA hsA hzA hqA hA
      go_wp2_with (go_at_call 75; (with_reducible refine hg.mono ?_); rintro e w2 ⟨rfl, hb2⟩; have q0' := (hb2.cell (p := ⟨T, 0, none⟩) hTr).trans q0; have q1' := (hb2.cell (p := ⟨T, 1, none⟩) hTr).trans q1; have q2' := (hb2.cell (p := ⟨T, 2, none⟩) hTr).trans q2; have z0' := (hb2.frozen (p := ⟨T, 0, none⟩) hTr).trans (zf 0); have z1' := (hb2.frozen (p := ⟨T, 1, none⟩) hTr).trans (zf 1); have z2' := (hb2.frozen (p := ⟨T, 2, none⟩) hTr).trans (zf 2); have HB2 := Lib.hid (HB.out.trans (hb2.mono HB.out.size)); have hT2 : T < w2.heap.size := Nat.lt_of_lt_of_le hTr hb2.size; clear hb2 hg q0 q1 q2 zf)
      obtain ⟨k0, k1, k2⟩ := three_read (u := .int .u64 x) (v := .int .u64 y) (z := .int .i64 z) q0' q1' q2'
      have h3 := below_three (a := w) (w := w2) (HA.out.1.trans (HB2.out.mono HA.out.1.size)) (show w.heap.size ≤ T by omega) (.int .u64 x) (.int .u64 y) (.int .i64 z)
      have h3s : T < (((w2.setCell ⟨T, 0, none⟩ (.int .u64 x)).setCell ⟨T, 1, none⟩ (.int .u64 y)).setCell ⟨T, 2, none⟩ (.int .i64 z)).heap.size := by simpa using hT2
      generalize ((w2.setCell ⟨T, 0, none⟩ (.int .u64 x)).setCell ⟨T, 1, none⟩ (.int .u64 y)).setCell ⟨T, 2, none⟩ (.int .i64 z) = W3 at k0 k1 k2 h3 h3s ⊢
      have m0 := (World.cell?_alloc_lt (w := W3) (a := ⟨T, 0, none⟩) (o := .cells #[.int .u64 x, .int .u64 y, .int .i64 z] 27) h3s).trans k0
      have m1 := (World.cell?_alloc_lt (w := W3) (a := ⟨T, 1, none⟩) (o := .cells #[.int .u64 x, .int .u64 y, .int .i64 z] 27) h3s).trans k1
      have m2 := (World.cell?_alloc_lt (w := W3) (a := ⟨T, 2, none⟩) (o := .cells #[.int .u64 x, .int .u64 y, .int .i64 z] 27) h3s).trans k2
      have h4 := h3.alloc h3.size (.cells #[.int .u64 x, .int .u64 y, .int .i64 z] 27)
      refine bodyPost_ret (v := .tuple #[.agg #[.int .u64 x, .int .u64 y, .int .i64 z], .bool true]) (by simp [results, Tryd.results41, go_sem, m0, m1, m2]) rfl ⟨rfl, h4⟩
theorem FarT.some {l : List Th} {t : Th} {r : Int} {k : Nat} (h : FarT l t.1 r) (ht : l[k]? = some t) (hn : ∀ u ∈ l.take k, u.1 ≠ t.1) : r = (k : Int) := by
  obtain ⟨hk, hkt⟩ := List.getElem?_eq_some_iff.1 ht
  rcases h with ⟨j, e, hj, ej, hn2⟩ | ⟨_, h⟩
  · rcases Nat.lt_trichotomy j k with hjk | rfl | hjk
    · exact absurd ej (hn _ (List.mem_take_iff_getElem.2 ⟨j, by omega, rfl⟩))
    · exact e
    · exact absurd (by rw [hkt]) (hn2 _ (List.mem_take_iff_getElem.2 ⟨k, by omega, rfl⟩))
  · exact absurd (by rw [hkt]) (h _ (List.getElem_mem hk))
set_option maxRecDepth 100000 in
set_option maxHeartbeats 8000000 in
theorem wget_far (D : WD) (t : Th) (w : World) (h : Wl w D) {kk : Nat} (ht : D.BL[kk]? = some t) (hx : IdOk t.1) (hM : ∀ k, k < 4 → (D.R k).M t.1 = none) (hB : ∀ u ∈ D.BL.take kk, u.1 ≠ t.1) : Calls Tryd.prog 41 #[.pointer (some ⟨D.q, 0, none⟩), .int .u64 t.1] w fun e w' => e = .returned (.tuple #[.agg #[.int .u64 t.1, .int .u64 t.2.1, .int .i64 t.2.2], .bool true]) ∧ Below w.heap.size w w' := by
  have HX := Lib.hid hx
  have HM := Lib.hid hM
  have HBL := Lib.hid hB
  have HT := Lib.hid ht
  obtain ⟨x, y, z⟩ := t
  simp only at HX HM HBL
  clear hx hM hB ht
  have mixed := insTh.mixed
  have hbA : Below w.heap.size w (w.alloc (.cells #[.int .u64 0, .int .u64 0, .int .i64 0] 27)) := (Below.refl _ _).alloc (Nat.le_refl _) _
  have hsA : (w.alloc (.cells #[.int .u64 0, .int .u64 0, .int .i64 0] 27)).heap.size = w.heap.size + 1 := by simp
  have hzA : ∀ o, (w.alloc (.cells #[.int .u64 0, .int .u64 0, .int .i64 0] 27)).frozen? ⟨w.heap.size, o, none⟩ = false := fun o => by simp
  have hqA := zero_three w
  have hA := h.below hbA
  have hc := wcreated D _ hA
  have r0 := hA.cr 0 (by omega)
  have r1 := hA.cr 1 (by omega)
  have r2 := hA.cr 2 (by omega)
  have r3 := hA.cr 3 (by omega)
  obtain ⟨T, hT⟩ : ∃ T, w.heap.size = T := ⟨_, rfl⟩
  have hqT : D.q < T := by have := h.qlt; omega
  have H0 := Lib.hid h
  obtain ⟨A, hAe⟩ : ∃ A : Array Value, #[Value.pointer (some ⟨(D.R 0).r, 0, none⟩), .pointer (some ⟨(D.R 1).r, 0, none⟩), .pointer (some ⟨(D.R 2).r, 0, none⟩), .pointer (some ⟨(D.R 3).r, 0, none⟩)] = A := ⟨_, rfl⟩
  have HIX : Hid (∀ k : Nat, k < 4 → ∀ w, Sem.run Tryd.prog (Instr.index 79 (.agg A) (.int .i64 k)) w = .ok (.pointer (some ⟨(D.R k).r, 0, none⟩)) w) := Lib.hid (fun k hk w => by
    subst hAe
    refine run_index_arr Tryd.underlying79 Tryd.sizeOf38 Tryd.isAgg38 k hk (by omega) ?_ w
    match k, hk with
    | 0, _ => rfl
    | 1, _ => rfl
    | 2, _ => rfl
    | 3, _ => rfl)
  go_enter Tryd.func41, Tryd.ntmps41
  go_wp2_with fail
  rw [hT] at hqA hzA hsA
  generalize w.alloc (.cells #[.int .u64 0, .int .u64 0, .int .i64 0] 27) = W1 at hbA hsA hzA hqA hc hA r0 r1 r2 r3 ⊢
  have HA := Lib.hid (And.intro hbA (And.intro hsA (And.intro hzA (And.intro hqA hA))))
  clear hA hzA hqA hbA h
  go_wp2_with (go_at_call 82; (with_reducible refine hc.mono ?_); rintro e w1 ⟨rfl, rfl⟩)
  try rw [hAe]
  clear r0 r1 r2 r3 hc hsA
  go_loopg [7, 8, 9, 10, 20] 4 (fun kx s7 s8 s9 s10 s20 wr => ∃ (j : Nat), (∃ v7 v8 v9 v10 : Value, s7 = v7 ∧ s8 = v8 ∧ s9 = v9 ∧ s10 = v10) ∧ s20 = .int .i64 j ∧ j ≤ 4 ∧ 4 - j ≤ kx ∧ Hid (Below w1.heap.size w1 wr))
  case atStart => exact ⟨0, ⟨_, _, _, _, rfl, rfl, rfl, rfl⟩, rfl, by omega, by omega, Below.refl _ _⟩
  case round =>
    obtain ⟨j, ⟨v7, v8, v9, v10, rfl, rfl, rfl, rfl⟩, rfl, hj, hjx, HB⟩ := hrel
    by_cases hlt : j < 4
    · have hj4 : j < 4 := by omega
      have hj4z : (j : Int) < 4 := by omega
      have hix := HIX.out j hj4
      have hg := get_none x wr ((HA.out.2.2.2.2.below HB.out).rg j hj4) HX.out (HM.out j (by omega))
      go_wp2_with (go_at_call 75; (with_reducible refine hg.mono ?_); rintro e w2 ⟨rfl, hb2⟩; have HB2 := Lib.hid (HB.out.trans ((hb2.trans ((Below.refl w2.heap.size w2).alloc (Nat.le_refl _) (.cells #[.int .u64 0, .int .u64 0, .int .i64 0] 27) |>.mono hb2.size)).mono HB.out.size)); clear hb2 hg)
      go_roundg (4 - (j + 1))
      case measure => omega
      case rel => exact ⟨j + 1, ⟨_, _, _, _, rfl, rfl, rfl, rfl⟩, by go_num, by omega, by omega, HB2⟩
    · have hj4z : ¬ (j : Int) < 4 := by omega
      have hf := wfar D x wr (HA.out.2.2.2.2.below HB.out)
      obtain ⟨hbA, hsA, hzA, hqA, hA⟩ := HA.out
      have q0 := (HB.out.cell (p := ⟨T, 0, none⟩) (by show T < _; omega)).trans hqA.1
      have q1 := (HB.out.cell (p := ⟨T, 1, none⟩) (by show T < _; omega)).trans hqA.2.1
      have q2 := (HB.out.cell (p := ⟨T, 2, none⟩) (by show T < _; omega)).trans hqA.2.2
      have zf := fun o => (HB.out.frozen (p := ⟨T, o, none⟩) (by show T < _; omega)).trans (hzA o)
      have hTr : T < wr.heap.size := by have := HB.out.size; omega
      clear hbA hsA hzA hqA hA
      go_wp2_with (go_at_call 88; (with_reducible refine hf.mono ?_); rintro e w2 ⟨r, rfl, hF, hb2⟩; obtain rfl := hF.some HT.out HBL.out; have q0' := (hb2.cell (p := ⟨T, 0, none⟩) hTr).trans q0; have q1' := (hb2.cell (p := ⟨T, 1, none⟩) hTr).trans q1; have q2' := (hb2.cell (p := ⟨T, 2, none⟩) hTr).trans q2; have z0' := (hb2.frozen (p := ⟨T, 0, none⟩) hTr).trans (zf 0); have z1' := (hb2.frozen (p := ⟨T, 1, none⟩) hTr).trans (zf 1); have z2' := (hb2.frozen (p := ⟨T, 2, none⟩) hTr).trans (zf 2); have HB2 := Lib.hid (HB.out.trans (hb2.mono HB.out.size)); have hT2 : T < w2.heap.size := Nat.lt_of_lt_of_le hTr hb2.size; have hwl := HA.out.2.2.2.2.below HB2.out; have c5 := hwl.c5; obtain ⟨g, vc, hbv, _, _, hi, c0, c1, c2⟩ := hwl.own.block HT.out; have hfew := hwl.few; rw [hbv] at c5; obtain ⟨n, hn⟩ : ∃ n, D.BL.length = n := ⟨_, rfl⟩; rw [hn] at c5 hi hfew; clear hbv hwl; simp only at c0 c1 c2; have hi0 : (0 : Int) ≤ (kk : Int) := (by omega); have hiz : (kk : Int) < (n : Int) := (by omega); clear hF hb2 hf q0 q1 q2 zf)
      obtain ⟨k0, k1, k2⟩ := three_read (u := .int .u64 x) (v := .int .u64 y) (z := .int .i64 z) q0' q1' q2'
      have h3 := below_three (a := w) (w := w2) (HA.out.1.trans (HB2.out.mono HA.out.1.size)) (show w.heap.size ≤ T by omega) (.int .u64 x) (.int .u64 y) (.int .i64 z)
      generalize ((w2.setCell ⟨T, 0, none⟩ (.int .u64 x)).setCell ⟨T, 1, none⟩ (.int .u64 y)).setCell ⟨T, 2, none⟩ (.int .i64 z) = W3 at k0 k1 k2 h3 ⊢
      refine bodyPost_ret (v := .tuple #[.agg #[.int .u64 x, .int .u64 y, .int .i64 z], .bool true]) (by simp [results, Tryd.results41, go_sem, k0, k1, k2]) rfl ⟨rfl, h3⟩
end Go.Proofs.YtfclmbneimbmnaaDoor

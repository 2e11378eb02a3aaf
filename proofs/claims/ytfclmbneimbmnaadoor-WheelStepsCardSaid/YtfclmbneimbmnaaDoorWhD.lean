/- A wheel's place. -/
import Derived.Test.YtfclmbneimbmnaaDoorWhC
import Derived.Deep.RegionHeld3
namespace Go.Proofs.YtfclmbneimbmnaaDoor
open Go.RowKit

/-- What lies beyond the rings, turned. -/
theorem Wl.beyond {w3 w4 : World} {D : WD} {v : Value} {l : List Th} (h : Wl w3 D) (o4 : Only (fun g => D.bv.ownBlock = some g) w3 w4) (hO : OT w4 0 v l) (hob : v.ownBlock = D.bv.ownBlock ∨ v.ownBlock = some w3.heap.size) (hf : l.length < 1000000) : Wl (w4.setCell ⟨D.q, 5, none⟩ v) { D with bv := v, BL := l } := by
  have nq : ¬ D.bv.ownBlock = some D.q := h.ap3
  have hq := h.qlt
  have c4 : ∀ o, w4.cell? ⟨D.q, o, none⟩ = w3.cell? ⟨D.q, o, none⟩ := fun o => o4.cell (p := ⟨D.q, o, none⟩) hq nq
  have o5 : Only (fun g => g = D.q) w4 (w4.setCell ⟨D.q, 5, none⟩ v) := (Only.refl _ w4).setCell _ _ rfl
  have own' : ∀ g, v.ownBlock = some g → D.bv.ownBlock = some g ∨ g = w3.heap.size := fun g hg => by
    rcases hob with e | e
    · rw [e] at hg; exact .inl hg
    · rw [e] at hg; injection hg with hg; exact .inr hg.symm
  refine ⟨?_, fun k hk => ?_, ?_, fun o => ?_, fun k hk => ?_, ?_, h.ap1, fun k g hk hg => ⟨(h.ap2 k g hk hg).1, fun e => ?_⟩, fun e => ?_, hf⟩
  · show (w4.setCell ⟨D.q, 5, none⟩ v).cell? ⟨D.q, 0, none⟩ = _
    rw [cell_beside _ _ _ _ _ (by omega), c4]; exact h.c0
  · show (w4.setCell ⟨D.q, 5, none⟩ v).cell? ⟨D.q, 1 + k, none⟩ = _
    rw [cell_beside _ _ _ _ _ (by omega), c4]; exact h.cr k hk
  · exact World.cell?_setCell_same' _ _ _ (by rw [c4, h.c5]; rfl)
  · show (w4.setCell ⟨D.q, 5, none⟩ v).frozen? ⟨D.q, o, none⟩ = _
    rw [World.frozen?_setCell]
    exact (o4.frozen (p := ⟨D.q, o, none⟩) hq nq).trans (h.fro o)
  · exact Rn.only (Rn.only (h.rg k hk) o4 (fun g hg e => (h.ap2 k g hk hg).2 e)) o5 (fun g hg e => (h.ap2 k g hk hg).1 e)
  · exact hO.only o5 (fun g hg e => by
      rcases own' g hg with h1 | h1
      · exact nq (by rw [← e]; exact h1)
      · omega)
  · rcases own' g e with h1 | h1
    · exact (h.ap2 k g hk hg).2 h1
    · have := RD.lt (h.rg k hk) hg; omega
  · rcases own' D.q e with h1 | h1
    · exact nq h1
    · omega

set_option maxRecDepth 100000 in
set_option maxHeartbeats 8000000 in
theorem wplace_far (D : WD) (a b : Nat) (t : Th) (w : World) (h : Wl w D) (hn : D.now = (a : Int)) (hd : t.2.2 = (b : Int)) (ha : a ≤ 1125899906842624) (hb : b ≤ 1125899906842624) (hl : lvN a b = 4) (hfew : D.BL.length < 999999) :
    Calls Tryd.prog 85 #[.pointer (some ⟨D.q, 0, none⟩), .agg #[.int .u64 t.1, .int .u64 t.2.1, .int .i64 b]] w fun e w' => e = .returned (.tuple #[]) ∧ ∃ v, Wl w' { D with bv := v, BL := D.BL ++ [t] } ∧ Only D.fp w w' ∧ ∀ g, WD.fp { D with bv := v, BL := D.BL ++ [t] } g → D.fp g ∨ w.heap.size ≤ g := by
  have mixed := insTh.mixed
  have hbA : Below w.heap.size w (w.alloc (.cells #[.int .u64 t.1, .int .u64 t.2.1, .int .i64 b] 27)) := (Below.refl _ _).alloc (Nat.le_refl _) _
  have hsA : (w.alloc (.cells #[.int .u64 t.1, .int .u64 t.2.1, .int .i64 b] 27)).heap.size = w.heap.size + 1 := by simp
  obtain ⟨T, hT⟩ : ∃ T, w.heap.size = T := ⟨_, rfl⟩
  have t0 : (w.alloc (.cells #[.int .u64 t.1, .int .u64 t.2.1, .int .i64 b] 27)).cell? ⟨T, 0, none⟩ = some (.int .u64 t.1) := World.cell?_alloc_at _ _ _ _ hT.symm
  have t1 : (w.alloc (.cells #[.int .u64 t.1, .int .u64 t.2.1, .int .i64 b] 27)).cell? ⟨T, 1, none⟩ = some (.int .u64 t.2.1) := World.cell?_alloc_at _ _ _ _ hT.symm
  have t2 : (w.alloc (.cells #[.int .u64 t.1, .int .u64 t.2.1, .int .i64 b] 27)).cell? ⟨T, 2, none⟩ = some (.int .i64 b) := World.cell?_alloc_at _ _ _ _ hT.symm
  have hA := h.below hbA
  have HW := Lib.hid h
  have HN := Lib.hid hn
  have HD := Lib.hid hd
  have hlv := fun w => level_any a b w ha hb
  rw [hl] at hlv
  obtain ⟨n, hnl⟩ : ∃ n, D.BL.length = n := ⟨_, rfl⟩
  obtain ⟨ba, bc, hbv⟩ := hA.own.shape
  rw [hnl] at hbv
  have HBV := Lib.hid hbv
  have HNL := Lib.hid hnl
  have HFEW := Lib.hid hfew
  have hTs : T < (w.alloc (.cells #[.int .u64 t.1, .int .u64 t.2.1, .int .i64 b] 27)).heap.size := by omega
  have HA := Lib.hid (And.intro hbA hA)
  have HS : Hid (∀ W, Below (w.alloc (.cells #[.int .u64 t.1, .int .u64 t.2.1, .int .i64 b] 27)).heap.size (w.alloc (.cells #[.int .u64 t.1, .int .u64 t.2.1, .int .i64 b] 27)) W → W.cell? ⟨D.q, 0, none⟩ = some (.int .i64 a) ∧ W.cell? ⟨T, 0, none⟩ = some (.int .u64 t.1) ∧ W.cell? ⟨T, 1, none⟩ = some (.int .u64 t.2.1) ∧ W.cell? ⟨T, 2, none⟩ = some (.int .i64 b) ∧ W.cell? ⟨D.q, 5, none⟩ = some (.slice ba n bc) ∧ Below (w.alloc (.cells #[.int .u64 t.1, .int .u64 t.2.1, .int .i64 b] 27)).heap.size (w.alloc (.cells #[.int .u64 t.1, .int .u64 t.2.1, .int .i64 b] 27)) W) := Lib.hid (fun W hb => by
    have hw := hA.below hb
    exact ⟨hw.c0.trans (by rw [hn]), (hb.cell (p := ⟨T, _, none⟩) hTs).trans t0, (hb.cell (p := ⟨T, _, none⟩) hTs).trans t1, (hb.cell (p := ⟨T, _, none⟩) hTs).trans t2, hw.c5.trans (by rw [hbv]), hb⟩)
  clear t0 t1 t2 hA hbA hn hd hnl hfew h hl ha hb hbv
  go_enter Tryd.func85, Tryd.ntmps85
  go_wp2_with fail
  generalize w.alloc (.cells #[.int .u64 t.1, .int .u64 t.2.1, .int .i64 b] 27) = w1 at HS HA hsA hTs ⊢
  have bd : Below w1.heap.size w1 w1.drew := (Below.refl _ _).drew
  refine wp_region_held_drew (S := (fun w' => w'.cell? ⟨D.q, 0, none⟩ = some (.int .i64 a) ∧ w'.cell? ⟨T, 0, none⟩ = some (.int .u64 t.1) ∧ w'.cell? ⟨T, 1, none⟩ = some (.int .u64 t.2.1) ∧ w'.cell? ⟨T, 2, none⟩ = some (.int .i64 b) ∧ w'.cell? ⟨D.q, 5, none⟩ = some (.slice ba n bc) ∧ Below w1.heap.size w1 w')) (by kernel_rfl) (HS.out _ bd) (fun hHeld => ?_)
  refine wpAnyH_take (i := 0) (v := ?_) rfl (by kernel_rfl) (by kernel_rfl) (by kernel_rfl) (fun _ _ _ h => h) (Or.inl ⟨by rfl, ?_⟩) (by assumption) ?_
  case refine_2 => (intro w1 hS1; (try dsimp only at hS1); go_simp; try with_reducible rfl)
  try simp only [List.getElem_toArray, List.getElem_cons_zero, List.getElem_cons_succ, Act.put, List.setIfInBounds_toArray, List.set_cons_zero, List.set_cons_succ]
  refine wpAnyH_take (i := 1) (v := ?_) rfl (by kernel_rfl) (by kernel_rfl) (by kernel_rfl) (fun _ _ _ h => h) (Or.inl ⟨by rfl, ?_⟩) (by assumption) ?_
  case refine_2 => (intro w1 hS1; (try dsimp only at hS1); go_simp; try with_reducible rfl)
  try simp only [List.getElem_toArray, List.getElem_cons_zero, List.getElem_cons_succ, Act.put, List.setIfInBounds_toArray, List.set_cons_zero, List.set_cons_succ]
  refine wpAnyH_take (i := 2) (v := ?_) rfl (by kernel_rfl) (by kernel_rfl) (by kernel_rfl) (fun _ _ _ h => h) (Or.inl ⟨by rfl, ?_⟩) (by assumption) ?_
  case refine_2 => (intro w1 hS1; (try dsimp only at hS1); go_simp; try with_reducible rfl)
  try simp only [List.getElem_toArray, List.getElem_cons_zero, List.getElem_cons_succ, Act.put, List.setIfInBounds_toArray, List.set_cons_zero, List.set_cons_succ]
  refine wpAnyH_take (i := 3) (v := ?_) rfl (by kernel_rfl) (by kernel_rfl) (by kernel_rfl) (fun _ _ _ h => h) (Or.inl ⟨by rfl, ?_⟩) (by assumption) ?_
  case refine_2 => (intro w1 hS1; (try dsimp only at hS1); go_simp; try with_reducible rfl)
  try simp only [List.getElem_toArray, List.getElem_cons_zero, List.getElem_cons_succ, Act.put, List.setIfInBounds_toArray, List.set_cons_zero, List.set_cons_succ]
  refine wpAnyH_take (i := 4) (v := ?_) rfl (by kernel_rfl) (by kernel_rfl) (by kernel_rfl) (fun _ _ _ h => h) (Or.inl ⟨by rfl, ?_⟩) (by assumption) ?_
  case refine_2 => (intro w1 hS1; (try dsimp only at hS1); go_simp; try with_reducible rfl)
  try simp only [List.getElem_toArray, List.getElem_cons_zero, List.getElem_cons_succ, Act.put, List.setIfInBounds_toArray, List.set_cons_zero, List.set_cons_succ]
  refine wpAnyH_take (i := 5) (v := ?_) rfl (by kernel_rfl) (by kernel_rfl) (by kernel_rfl) (fun _ _ _ h => h) (Or.inl ⟨by rfl, ?_⟩) (by assumption) ?_
  case refine_2 => (intro w1 hS1; (try dsimp only at hS1); go_simp; try with_reducible rfl)
  try simp only [List.getElem_toArray, List.getElem_cons_zero, List.getElem_cons_succ, Act.put, List.setIfInBounds_toArray, List.set_cons_zero, List.set_cons_succ]
  clear hHeld
  refine wpAnyH_ready (rs := [6]) (by kernel_rfl) (by simp) ?_
  refine AllReadyH.cons rfl (fun K hK => ?_) AllReadyH.nil
  go_simp
  refine (hlv _).mono ?_
  rintro e w2 ⟨rfl, rfl⟩
  refine hK.out _ _ (HS.out _ bd) (fun hHeld => ?_)
  clear hK K hHeld
  try simp only [List.getElem_toArray, List.getElem_cons_zero, List.getElem_cons_succ, Act.put, List.setIfInBounds_toArray, List.set_cons_zero, List.set_cons_succ]
  refine wpAnyH_take (i := 7) (v := ?_) rfl (by kernel_rfl) (by kernel_rfl) (by kernel_rfl) (fun _ _ _ h => h) (Or.inl ⟨by rfl, ?_⟩) (HS.out _ bd) ?_
  case refine_2 => (intro w1 hS1; (try dsimp only at hS1); go_simp; try with_reducible rfl)
  try simp only [List.getElem_toArray, List.getElem_cons_zero, List.getElem_cons_succ, Act.put, List.setIfInBounds_toArray, List.set_cons_zero, List.set_cons_succ]
  refine wpAnyH_done (by kernel_rfl) ?_ _
  clear hlv
  go_wp2_with fail
  obtain ⟨W0, hW0⟩ : ∃ W, w1.drew = W := ⟨_, rfl⟩
  rw [hW0] at bd
  rw [hW0]
  clear hW0
  have be : Below w1.heap.size w1 W0.drew := bd.drew
  have HSB : Hid (∀ W, Below w1.heap.size w1 W → W.cell? ⟨T, 0, none⟩ = some (.int .u64 t.1) ∧ W.cell? ⟨T, 1, none⟩ = some (.int .u64 t.2.1) ∧ W.cell? ⟨T, 2, none⟩ = some (.int .i64 b)) := Lib.hid (fun W hb => ⟨(HS.out W hb).2.1, (HS.out W hb).2.2.1, (HS.out W hb).2.2.2.1⟩)
  refine wp_region_held_drew (S := (fun w' => w'.cell? ⟨T, 0, none⟩ = some (.int .u64 t.1) ∧ w'.cell? ⟨T, 1, none⟩ = some (.int .u64 t.2.1) ∧ w'.cell? ⟨T, 2, none⟩ = some (.int .i64 b))) (by kernel_rfl) (HSB.out _ be) (fun hHeld => ?_)
  refine wpAnyH_take (i := 0) (v := ?_) rfl (by kernel_rfl) (by kernel_rfl) (by kernel_rfl) (fun _ _ _ h => h) (Or.inl ⟨by rfl, ?_⟩) (by assumption) ?_
  case refine_2 => (intro w1 hS1; (try dsimp only at hS1); go_simp; try with_reducible rfl)
  try simp only [List.getElem_toArray, List.getElem_cons_zero, List.getElem_cons_succ, Act.put, List.setIfInBounds_toArray, List.set_cons_zero, List.set_cons_succ]
  refine wpAnyH_take (i := 1) (v := ?_) rfl (by kernel_rfl) (by kernel_rfl) (by kernel_rfl) (fun _ _ _ h => h) (Or.inl ⟨by rfl, ?_⟩) (by assumption) ?_
  case refine_2 => (intro w1 hS1; (try dsimp only at hS1); go_simp; try with_reducible rfl)
  try simp only [List.getElem_toArray, List.getElem_cons_zero, List.getElem_cons_succ, Act.put, List.setIfInBounds_toArray, List.set_cons_zero, List.set_cons_succ]
  refine wpAnyH_take (i := 2) (v := ?_) rfl (by kernel_rfl) (by kernel_rfl) (by kernel_rfl) (fun _ _ _ h => h) (Or.inl ⟨by rfl, ?_⟩) (by assumption) ?_
  case refine_2 => (intro w1 hS1; (try dsimp only at hS1); go_simp; try with_reducible rfl)
  try simp only [List.getElem_toArray, List.getElem_cons_zero, List.getElem_cons_succ, Act.put, List.setIfInBounds_toArray, List.set_cons_zero, List.set_cons_succ]
  refine wpAnyH_take (i := 3) (v := ?_) rfl (by kernel_rfl) (by kernel_rfl) (by kernel_rfl) (fun _ _ _ h => h) (Or.inl ⟨by rfl, ?_⟩) (by assumption) ?_
  case refine_2 => (intro w1 hS1; (try dsimp only at hS1); go_simp; try with_reducible rfl)
  try simp only [List.getElem_toArray, List.getElem_cons_zero, List.getElem_cons_succ, Act.put, List.setIfInBounds_toArray, List.set_cons_zero, List.set_cons_succ]
  refine wpAnyH_take (i := 5) (v := ?_) rfl (by kernel_rfl) (by kernel_rfl) (by kernel_rfl) (fun _ _ _ h => h) (Or.inl ⟨by rfl, ?_⟩) (by assumption) ?_
  case refine_2 => (intro w1 hS1; (try dsimp only at hS1); go_simp; try with_reducible rfl)
  try simp only [List.getElem_toArray, List.getElem_cons_zero, List.getElem_cons_succ, Act.put, List.setIfInBounds_toArray, List.set_cons_zero, List.set_cons_succ]
  clear hHeld
  have hx5 := (HS.out _ be).2.2.2.2.1
  refine wpAnyH_ready (rs := [4, 6]) (by kernel_rfl) (by simp) ?_
  refine AllReadyH.cons rfl (fun K hK => ?_) ?_
  · go_simp
    refine hK.out _ _ (HSB.out _ be) (fun hHeld => ?_)
    clear hK K hHeld
    try simp only [List.getElem_toArray, List.getElem_cons_zero, List.getElem_cons_succ, Act.put, List.setIfInBounds_toArray, List.set_cons_zero, List.set_cons_succ]
    refine wpAnyH_ready (rs := [6]) (by kernel_rfl) (by simp) ?_
    refine AllReadyH.cons rfl (fun K hK => ?_) AllReadyH.nil
    go_simp
    have b3 : Below w1.heap.size w1 (W0.alloc (.cells #[.int .u64 t.1, .int .u64 t.2.1, .int .i64 b] 27)).drew := (bd.alloc bd.size _).drew
    refine hK.out _ _ (HSB.out _ b3) (fun hHeld => ?_)
    clear hK K hHeld
    try simp only [List.getElem_toArray, List.getElem_cons_zero, List.getElem_cons_succ, Act.put, List.setIfInBounds_toArray, List.set_cons_zero, List.set_cons_succ]
    have n0 : (W0.alloc (.cells #[.int .u64 t.1, .int .u64 t.2.1, .int .i64 b] 27)).drew.cell? ⟨W0.heap.size, 0, none⟩ = some (.int .u64 t.1) := show (W0.alloc (.cells #[.int .u64 t.1, .int .u64 t.2.1, .int .i64 b] 27)).cell? ⟨W0.heap.size, 0, none⟩ = _ from World.cell?_alloc_at _ _ _ _ rfl
    have n1 : (W0.alloc (.cells #[.int .u64 t.1, .int .u64 t.2.1, .int .i64 b] 27)).drew.cell? ⟨W0.heap.size, 1, none⟩ = some (.int .u64 t.2.1) := show (W0.alloc (.cells #[.int .u64 t.1, .int .u64 t.2.1, .int .i64 b] 27)).cell? ⟨W0.heap.size, 1, none⟩ = _ from World.cell?_alloc_at _ _ _ _ rfl
    have n2 : (W0.alloc (.cells #[.int .u64 t.1, .int .u64 t.2.1, .int .i64 b] 27)).drew.cell? ⟨W0.heap.size, 2, none⟩ = some (.int .i64 t.2.2) := show (W0.alloc (.cells #[.int .u64 t.1, .int .u64 t.2.1, .int .i64 b] 27)).cell? ⟨W0.heap.size, 2, none⟩ = _ from (World.cell?_alloc_at _ _ _ _ rfl).trans (by rw [HD.out]; rfl)
    generalize (W0.alloc (.cells #[.int .u64 t.1, .int .u64 t.2.1, .int .i64 b] 27)).drew = W3 at b3 n0 n1 n2 ⊢
    have hw3 := HA.out.2.below b3
    have hO3 := hw3.own
    obtain ⟨v', W4, happ, hO4, hg4, ⟨aa, ac, rfl⟩, hob⟩ := append_th hO3 t W0.heap.size n0 n1 n2 (by have := HFEW.out; omega) (Nat.zero_le _) 22
    have o4 : Only (fun g => D.bv.ownBlock = some g) W3 W4 := grown_only hg4 _ (fun k hk => hk)
    have hw4q : ¬ D.bv.ownBlock = some D.q := hw3.ap3
    have hq3 := hw3.qlt
    have hT3 : T < W3.heap.size := by have := b3.size; omega
    have hTo : ¬ D.bv.ownBlock = some T := fun e => by have := HW.out.own.lt e; omega
    rw [HBV.out] at happ
    rw [HNL.out] at happ hO4 hob
    have hS3 := HSB.out _ b3
    have hS4 : W4.cell? ⟨T, 0, none⟩ = some (.int .u64 t.1) ∧ W4.cell? ⟨T, 1, none⟩ = some (.int .u64 t.2.1) ∧ W4.cell? ⟨T, 2, none⟩ = some (.int .i64 b) := ⟨(o4.cell (p := ⟨T, _, none⟩) hT3 hTo).trans hS3.1, (o4.cell (p := ⟨T, _, none⟩) hT3 hTo).trans hS3.2.1, (o4.cell (p := ⟨T, _, none⟩) hT3 hTo).trans hS3.2.2⟩
    have hf4 : W4.frozen? ⟨D.q, 5, none⟩ = false := (o4.frozen (p := ⟨D.q, 5, none⟩) hq3 hw4q).trans (hw3.fro 5)
    have hx4 : W4.cell? ⟨D.q, 5, none⟩ = some (.slice ba n bc) := (o4.cell (p := ⟨D.q, 5, none⟩) hq3 hw4q).trans (HS.out _ b3).2.2.2.2.1
    have H4 := Lib.hid (And.intro b3 (And.intro hw3 (And.intro hO4 (And.intro o4 hob))))
    have HAPP := Lib.hid happ
    have hqT : ¬ D.q = T := by have := HW.out.qlt; omega
    have hS5 : (W4.setCell ⟨D.q, 5, none⟩ (.slice (some aa) (n + 1) ac)).cell? ⟨T, 0, none⟩ = some (.int .u64 t.1) ∧ (W4.setCell ⟨D.q, 5, none⟩ (.slice (some aa) (n + 1) ac)).cell? ⟨T, 1, none⟩ = some (.int .u64 t.2.1) ∧ (W4.setCell ⟨D.q, 5, none⟩ (.slice (some aa) (n + 1) ac)).cell? ⟨T, 2, none⟩ = some (.int .i64 b) := ⟨(World.cell?_setCell_other _ _ _ _ (by simp)).trans hS4.1, (World.cell?_setCell_other _ _ _ _ (by simp)).trans hS4.2.1, (World.cell?_setCell_other _ _ _ _ (by simp)).trans hS4.2.2⟩
    have HS4 := Lib.hid (And.intro hS4 (And.intro hS5 (And.intro hx4 hf4)))
    clear hg4 hO4 o4 hob hO3 hw3 n0 n1 n2 hS3 happ hS4 hS5 hx4 hf4
    refine wpAnyH_ready (rs := [7]) (by kernel_rfl) (by simp) ?_
    refine AllReadyH.cons rfl (fun K hK => ?_) AllReadyH.nil
    refine step_append rfl (.tmp 18) (.tmp 20) 22 rfl (.slice ba n bc) (.slice (some ⟨W0.heap.size, 0, none⟩) 1 1) (.slice (some aa) (n + 1) ac) W4 rfl rfl HAPP.out ?_
    refine hK.out _ _ HS4.out.1 (fun hHeld => ?_)
    clear hK K
    try simp only [List.getElem_toArray, List.getElem_cons_zero, List.getElem_cons_succ, Act.put, List.setIfInBounds_toArray, List.set_cons_zero, List.set_cons_succ]
    refine wpAnyH_take (i := 8) (v := ?_) rfl (by kernel_rfl) (by kernel_rfl) (by kernel_rfl) (fun _ _ _ h => h) (Or.inl ⟨by rfl, ?_⟩) (by assumption) ?_
    case refine_2 => (intro w1 hS1; (try dsimp only at hS1); go_simp; try with_reducible rfl)
    try simp only [List.getElem_toArray, List.getElem_cons_zero, List.getElem_cons_succ, Act.put, List.setIfInBounds_toArray, List.set_cons_zero, List.set_cons_succ]
    refine wpAnyH_take (i := 9) (v := ?_) rfl (by kernel_rfl) (by kernel_rfl) (by kernel_rfl) (fun _ _ _ h => h) (Or.inl ⟨by rfl, ?_⟩) (by assumption) ?_
    case refine_2 => (intro w1 hS1; (try dsimp only at hS1); go_simp; try with_reducible rfl)
    try simp only [List.getElem_toArray, List.getElem_cons_zero, List.getElem_cons_succ, Act.put, List.setIfInBounds_toArray, List.set_cons_zero, List.set_cons_succ]
    clear hHeld
    obtain ⟨_, _, hx4, hf4⟩ := HS4.out
    refine wpAnyH_ready (rs := [10]) (by kernel_rfl) (by simp) ?_
    refine AllReadyH.cons rfl (fun K hK => ?_) AllReadyH.nil
    go_simp
    refine hK.out _ _ HS4.out.2.1 (fun hHeld => ?_)
    clear hK K hHeld hx4 hf4
    try simp only [List.getElem_toArray, List.getElem_cons_zero, List.getElem_cons_succ, Act.put, List.setIfInBounds_toArray, List.set_cons_zero, List.set_cons_succ]
    refine wpAnyH_done (by kernel_rfl) ?_ _
    go_wp2_with fail
    refine bodyPost_ret (results_none rfl _ _ _) rfl ?_
    obtain ⟨b3, hw3, hO4, o4, hob⟩ := H4.out
    have hO4' : OT W4 0 (.slice (some aa) (n + 1) ac) (D.BL ++ [t]) := hO4
    have hfin := hw3.beyond o4 hO4' hob (by rw [List.length_append, List.length_singleton]; have := HFEW.out; omega)
    have hbw := HA.out.1.trans (b3.mono HA.out.1.size)
    have hOn : Only D.fp w (W4.setCell ⟨D.q, 5, none⟩ (.slice (some aa) (n + 1) ac)) := ((Only.below hbw).trans (o4.more (fun g hg => .inr (.inl hg)))).setCell _ _ (.inl rfl)
    refine ⟨rfl, _, hfin, hOn, fun g hg => ?_⟩
    rcases hg with h1 | h1 | h1
    · exact .inl (.inl h1)
    · rcases hob with e | e
      · exact .inl (.inr (.inl (by rw [← e]; exact h1)))
      · have h2 : (Value.slice (some aa) (n + 1) ac).ownBlock = some g := h1
        rw [e] at h2
        injection h2 with h2
        have := hbw.size
        exact .inr (by omega)
    · exact .inl (.inr (.inr h1))
  refine AllReadyH.cons rfl (fun K hK => ?_) AllReadyH.nil
  go_simp
  have b3 : Below w1.heap.size w1 (W0.alloc (.cells #[.int .u64 t.1, .int .u64 t.2.1, .int .i64 b] 27)).drew := (bd.alloc bd.size _).drew
  refine hK.out _ _ (HSB.out _ b3) (fun hHeld => ?_)
  clear hK K hHeld
  try simp only [List.getElem_toArray, List.getElem_cons_zero, List.getElem_cons_succ, Act.put, List.setIfInBounds_toArray, List.set_cons_zero, List.set_cons_succ]
  have n0 : (W0.alloc (.cells #[.int .u64 t.1, .int .u64 t.2.1, .int .i64 b] 27)).drew.cell? ⟨W0.heap.size, 0, none⟩ = some (.int .u64 t.1) := show (W0.alloc (.cells #[.int .u64 t.1, .int .u64 t.2.1, .int .i64 b] 27)).cell? ⟨W0.heap.size, 0, none⟩ = _ from World.cell?_alloc_at _ _ _ _ rfl
  have n1 : (W0.alloc (.cells #[.int .u64 t.1, .int .u64 t.2.1, .int .i64 b] 27)).drew.cell? ⟨W0.heap.size, 1, none⟩ = some (.int .u64 t.2.1) := show (W0.alloc (.cells #[.int .u64 t.1, .int .u64 t.2.1, .int .i64 b] 27)).cell? ⟨W0.heap.size, 1, none⟩ = _ from World.cell?_alloc_at _ _ _ _ rfl
  have n2 : (W0.alloc (.cells #[.int .u64 t.1, .int .u64 t.2.1, .int .i64 b] 27)).drew.cell? ⟨W0.heap.size, 2, none⟩ = some (.int .i64 t.2.2) := show (W0.alloc (.cells #[.int .u64 t.1, .int .u64 t.2.1, .int .i64 b] 27)).cell? ⟨W0.heap.size, 2, none⟩ = _ from (World.cell?_alloc_at _ _ _ _ rfl).trans (by rw [HD.out]; rfl)
  generalize (W0.alloc (.cells #[.int .u64 t.1, .int .u64 t.2.1, .int .i64 b] 27)).drew = W3 at b3 n0 n1 n2 ⊢
  have hx6 := (HS.out _ b3).2.2.2.2.1
  refine wpAnyH_ready (rs := [4]) (by kernel_rfl) (by simp) ?_
  refine AllReadyH.cons rfl (fun K hK => ?_) AllReadyH.nil
  go_simp
  refine hK.out _ _ (HSB.out _ b3) (fun hHeld => ?_)
  clear hK K hHeld
  try simp only [List.getElem_toArray, List.getElem_cons_zero, List.getElem_cons_succ, Act.put, List.setIfInBounds_toArray, List.set_cons_zero, List.set_cons_succ]
  clear hx6
  have hw3 := HA.out.2.below b3
  have hO3 := hw3.own
  obtain ⟨v', W4, happ, hO4, hg4, ⟨aa, ac, rfl⟩, hob⟩ := append_th hO3 t W0.heap.size n0 n1 n2 (by have := HFEW.out; omega) (Nat.zero_le _) 22
  have o4 : Only (fun g => D.bv.ownBlock = some g) W3 W4 := grown_only hg4 _ (fun k hk => hk)
  have hw4q : ¬ D.bv.ownBlock = some D.q := hw3.ap3
  have hq3 := hw3.qlt
  have hT3 : T < W3.heap.size := by have := b3.size; omega
  have hTo : ¬ D.bv.ownBlock = some T := fun e => by have := HW.out.own.lt e; omega
  rw [HBV.out] at happ
  rw [HNL.out] at happ hO4 hob
  have hS3 := HSB.out _ b3
  have hS4 : W4.cell? ⟨T, 0, none⟩ = some (.int .u64 t.1) ∧ W4.cell? ⟨T, 1, none⟩ = some (.int .u64 t.2.1) ∧ W4.cell? ⟨T, 2, none⟩ = some (.int .i64 b) := ⟨(o4.cell (p := ⟨T, _, none⟩) hT3 hTo).trans hS3.1, (o4.cell (p := ⟨T, _, none⟩) hT3 hTo).trans hS3.2.1, (o4.cell (p := ⟨T, _, none⟩) hT3 hTo).trans hS3.2.2⟩
  have hf4 : W4.frozen? ⟨D.q, 5, none⟩ = false := (o4.frozen (p := ⟨D.q, 5, none⟩) hq3 hw4q).trans (hw3.fro 5)
  have hx4 : W4.cell? ⟨D.q, 5, none⟩ = some (.slice ba n bc) := (o4.cell (p := ⟨D.q, 5, none⟩) hq3 hw4q).trans (HS.out _ b3).2.2.2.2.1
  have H4 := Lib.hid (And.intro b3 (And.intro hw3 (And.intro hO4 (And.intro o4 hob))))
  have HAPP := Lib.hid happ
  have hqT : ¬ D.q = T := by have := HW.out.qlt; omega
  have hS5 : (W4.setCell ⟨D.q, 5, none⟩ (.slice (some aa) (n + 1) ac)).cell? ⟨T, 0, none⟩ = some (.int .u64 t.1) ∧ (W4.setCell ⟨D.q, 5, none⟩ (.slice (some aa) (n + 1) ac)).cell? ⟨T, 1, none⟩ = some (.int .u64 t.2.1) ∧ (W4.setCell ⟨D.q, 5, none⟩ (.slice (some aa) (n + 1) ac)).cell? ⟨T, 2, none⟩ = some (.int .i64 b) := ⟨(World.cell?_setCell_other _ _ _ _ (by simp)).trans hS4.1, (World.cell?_setCell_other _ _ _ _ (by simp)).trans hS4.2.1, (World.cell?_setCell_other _ _ _ _ (by simp)).trans hS4.2.2⟩
  have HS4 := Lib.hid (And.intro hS4 (And.intro hS5 (And.intro hx4 hf4)))
  clear hg4 hO4 o4 hob hO3 hw3 n0 n1 n2 hS3 happ hS4 hS5 hx4 hf4
  refine wpAnyH_ready (rs := [7]) (by kernel_rfl) (by simp) ?_
  refine AllReadyH.cons rfl (fun K hK => ?_) AllReadyH.nil
  refine step_append rfl (.tmp 18) (.tmp 20) 22 rfl (.slice ba n bc) (.slice (some ⟨W0.heap.size, 0, none⟩) 1 1) (.slice (some aa) (n + 1) ac) W4 rfl rfl HAPP.out ?_
  refine hK.out _ _ HS4.out.1 (fun hHeld => ?_)
  clear hK K
  try simp only [List.getElem_toArray, List.getElem_cons_zero, List.getElem_cons_succ, Act.put, List.setIfInBounds_toArray, List.set_cons_zero, List.set_cons_succ]
  refine wpAnyH_take (i := 8) (v := ?_) rfl (by kernel_rfl) (by kernel_rfl) (by kernel_rfl) (fun _ _ _ h => h) (Or.inl ⟨by rfl, ?_⟩) (by assumption) ?_
  case refine_2 => (intro w1 hS1; (try dsimp only at hS1); go_simp; try with_reducible rfl)
  try simp only [List.getElem_toArray, List.getElem_cons_zero, List.getElem_cons_succ, Act.put, List.setIfInBounds_toArray, List.set_cons_zero, List.set_cons_succ]
  refine wpAnyH_take (i := 9) (v := ?_) rfl (by kernel_rfl) (by kernel_rfl) (by kernel_rfl) (fun _ _ _ h => h) (Or.inl ⟨by rfl, ?_⟩) (by assumption) ?_
  case refine_2 => (intro w1 hS1; (try dsimp only at hS1); go_simp; try with_reducible rfl)
  try simp only [List.getElem_toArray, List.getElem_cons_zero, List.getElem_cons_succ, Act.put, List.setIfInBounds_toArray, List.set_cons_zero, List.set_cons_succ]
  clear hHeld
  obtain ⟨_, _, hx4, hf4⟩ := HS4.out
  refine wpAnyH_ready (rs := [10]) (by kernel_rfl) (by simp) ?_
  refine AllReadyH.cons rfl (fun K hK => ?_) AllReadyH.nil
  go_simp
  refine hK.out _ _ HS4.out.2.1 (fun hHeld => ?_)
  clear hK K hHeld hx4 hf4
  try simp only [List.getElem_toArray, List.getElem_cons_zero, List.getElem_cons_succ, Act.put, List.setIfInBounds_toArray, List.set_cons_zero, List.set_cons_succ]
  refine wpAnyH_done (by kernel_rfl) ?_ _
  go_wp2_with fail
  refine bodyPost_ret (results_none rfl _ _ _) rfl ?_
  obtain ⟨b3, hw3, hO4, o4, hob⟩ := H4.out
  have hO4' : OT W4 0 (.slice (some aa) (n + 1) ac) (D.BL ++ [t]) := hO4
  have hfin := hw3.beyond o4 hO4' hob (by rw [List.length_append, List.length_singleton]; have := HFEW.out; omega)
  have hbw := HA.out.1.trans (b3.mono HA.out.1.size)
  have hOn : Only D.fp w (W4.setCell ⟨D.q, 5, none⟩ (.slice (some aa) (n + 1) ac)) := ((Only.below hbw).trans (o4.more (fun g hg => .inr (.inl hg)))).setCell _ _ (.inl rfl)
  refine ⟨rfl, _, hfin, hOn, fun g hg => ?_⟩
  rcases hg with h1 | h1 | h1
  · exact .inl (.inl h1)
  · rcases hob with e | e
    · exact .inl (.inr (.inl (by rw [← e]; exact h1)))
    · have h2 : (Value.slice (some aa) (n + 1) ac).ownBlock = some g := h1
      rw [e] at h2
      injection h2 with h2
      have := hbw.size
      exact .inr (by omega)
  · exact .inl (.inr (.inr h1))
set_option maxRecDepth 100000 in
set_option maxHeartbeats 8000000 in
theorem wplace_ring (D : WD) (a b : Nat) (t : Th) (w : World) (h : Wl w D) (hn : D.now = (a : Int)) (hd : t.2.2 = (b : Int)) (ha : a ≤ 1125899906842624) (hb : b ≤ 1125899906842624) {k : Nat} (hk : k < 4) (hl : lvN a b = k) (hx : IdOk t.1) (hM : (D.R k).M t.1 = none) (hfew : D.n k < 999999) :
    Calls Tryd.prog 85 #[.pointer (some ⟨D.q, 0, none⟩), .agg #[.int .u64 t.1, .int .u64 t.2.1, .int .i64 b]] w fun e w' => e = .returned (.tuple #[]) ∧ ∃ E : RD, E.r = (D.R k).r ∧ E.b = (D.R k).b ∧ E.S = upd (D.R k).S (slN k b) ((D.R k).S (slN k b) ++ [t]) ∧ Wl w' (D.ring k E) ∧ Only D.fp w w' ∧ ∀ g, (D.ring k E).fp g → D.fp g ∨ w.heap.size ≤ g := by
  have mixed := insTh.mixed
  have hbA : Below w.heap.size w (w.alloc (.cells #[.int .u64 t.1, .int .u64 t.2.1, .int .i64 b] 27)) := (Below.refl _ _).alloc (Nat.le_refl _) _
  have hsA : (w.alloc (.cells #[.int .u64 t.1, .int .u64 t.2.1, .int .i64 b] 27)).heap.size = w.heap.size + 1 := by simp
  obtain ⟨T, hT⟩ : ∃ T, w.heap.size = T := ⟨_, rfl⟩
  have t0 : (w.alloc (.cells #[.int .u64 t.1, .int .u64 t.2.1, .int .i64 b] 27)).cell? ⟨T, 0, none⟩ = some (.int .u64 t.1) := World.cell?_alloc_at _ _ _ _ hT.symm
  have t1 : (w.alloc (.cells #[.int .u64 t.1, .int .u64 t.2.1, .int .i64 b] 27)).cell? ⟨T, 1, none⟩ = some (.int .u64 t.2.1) := World.cell?_alloc_at _ _ _ _ hT.symm
  have t2 : (w.alloc (.cells #[.int .u64 t.1, .int .u64 t.2.1, .int .i64 b] 27)).cell? ⟨T, 2, none⟩ = some (.int .i64 b) := World.cell?_alloc_at _ _ _ _ hT.symm
  have hA := h.below hbA
  have HW := Lib.hid h
  have HN := Lib.hid hn
  have HD := Lib.hid hd
  have hlv := fun w => level_any a b w ha hb
  rw [hl] at hlv
  have hTs : T < (w.alloc (.cells #[.int .u64 t.1, .int .u64 t.2.1, .int .i64 b] 27)).heap.size := by omega
  have HA := Lib.hid (And.intro hbA hA)
  have HS : Hid (∀ W, Below (w.alloc (.cells #[.int .u64 t.1, .int .u64 t.2.1, .int .i64 b] 27)).heap.size (w.alloc (.cells #[.int .u64 t.1, .int .u64 t.2.1, .int .i64 b] 27)) W → W.cell? ⟨D.q, 0, none⟩ = some (.int .i64 a) ∧ W.cell? ⟨T, 0, none⟩ = some (.int .u64 t.1) ∧ W.cell? ⟨T, 1, none⟩ = some (.int .u64 t.2.1) ∧ W.cell? ⟨T, 2, none⟩ = some (.int .i64 b) ∧ W.cell? ⟨D.q, 1 + k, none⟩ = some (.pointer (some ⟨(D.R k).r, 0, none⟩)) ∧ Below (w.alloc (.cells #[.int .u64 t.1, .int .u64 t.2.1, .int .i64 b] 27)).heap.size (w.alloc (.cells #[.int .u64 t.1, .int .u64 t.2.1, .int .i64 b] 27)) W) := Lib.hid (fun W hb => by
    have hw := hA.below hb
    exact ⟨hw.c0.trans (by rw [hn]), (hb.cell (p := ⟨T, _, none⟩) hTs).trans t0, (hb.cell (p := ⟨T, _, none⟩) hTs).trans t1, (hb.cell (p := ⟨T, _, none⟩) hTs).trans t2, hw.cr k hk, hb⟩)
  have hso := fun w => slotOf_any k b w hk hb
  have hsl := slN_lt k b
  obtain ⟨sl, hsle⟩ : ∃ s, slN k b = s := ⟨_, rfl⟩
  rw [hsle] at hso hsl
  have HSL := Lib.hid hsle
  have HX := Lib.hid hx
  have HM := Lib.hid hM
  have HFEW := Lib.hid hfew
  clear t0 t1 t2 hA hbA hn hd hfew h hl ha hb hx hM hsle
  have hk0 : (0 : Int) ≤ (k : Int) := by omega
  have hk4 : (k : Int) < 4 := by omega
  have hkn : ¬ (k : Int) = 4 := by omega
  have hkb : ((k : Int) == 4) = false := by simp; omega
  go_enter Tryd.func85, Tryd.ntmps85
  go_wp2_with fail
  generalize w.alloc (.cells #[.int .u64 t.1, .int .u64 t.2.1, .int .i64 b] 27) = w1 at HS HA hsA hTs ⊢
  have bd : Below w1.heap.size w1 w1.drew := (Below.refl _ _).drew
  refine wp_region_held_drew (S := (fun w' => w'.cell? ⟨D.q, 0, none⟩ = some (.int .i64 a) ∧ w'.cell? ⟨T, 0, none⟩ = some (.int .u64 t.1) ∧ w'.cell? ⟨T, 1, none⟩ = some (.int .u64 t.2.1) ∧ w'.cell? ⟨T, 2, none⟩ = some (.int .i64 b) ∧ w'.cell? ⟨D.q, 1 + k, none⟩ = some (.pointer (some ⟨(D.R k).r, 0, none⟩)) ∧ Below w1.heap.size w1 w')) (by kernel_rfl) (HS.out _ bd) (fun hHeld => ?_)
  refine wpAnyH_take (i := 0) (v := ?_) rfl (by kernel_rfl) (by kernel_rfl) (by kernel_rfl) (fun _ _ _ h => h) (Or.inl ⟨by rfl, ?_⟩) (by assumption) ?_
  case refine_2 => (intro w1 hS1; (try dsimp only at hS1); go_simp; try with_reducible rfl)
  try simp only [List.getElem_toArray, List.getElem_cons_zero, List.getElem_cons_succ, Act.put, List.setIfInBounds_toArray, List.set_cons_zero, List.set_cons_succ]
  refine wpAnyH_take (i := 1) (v := ?_) rfl (by kernel_rfl) (by kernel_rfl) (by kernel_rfl) (fun _ _ _ h => h) (Or.inl ⟨by rfl, ?_⟩) (by assumption) ?_
  case refine_2 => (intro w1 hS1; (try dsimp only at hS1); go_simp; try with_reducible rfl)
  try simp only [List.getElem_toArray, List.getElem_cons_zero, List.getElem_cons_succ, Act.put, List.setIfInBounds_toArray, List.set_cons_zero, List.set_cons_succ]
  refine wpAnyH_take (i := 2) (v := ?_) rfl (by kernel_rfl) (by kernel_rfl) (by kernel_rfl) (fun _ _ _ h => h) (Or.inl ⟨by rfl, ?_⟩) (by assumption) ?_
  case refine_2 => (intro w1 hS1; (try dsimp only at hS1); go_simp; try with_reducible rfl)
  try simp only [List.getElem_toArray, List.getElem_cons_zero, List.getElem_cons_succ, Act.put, List.setIfInBounds_toArray, List.set_cons_zero, List.set_cons_succ]
  refine wpAnyH_take (i := 3) (v := ?_) rfl (by kernel_rfl) (by kernel_rfl) (by kernel_rfl) (fun _ _ _ h => h) (Or.inl ⟨by rfl, ?_⟩) (by assumption) ?_
  case refine_2 => (intro w1 hS1; (try dsimp only at hS1); go_simp; try with_reducible rfl)
  try simp only [List.getElem_toArray, List.getElem_cons_zero, List.getElem_cons_succ, Act.put, List.setIfInBounds_toArray, List.set_cons_zero, List.set_cons_succ]
  refine wpAnyH_take (i := 4) (v := ?_) rfl (by kernel_rfl) (by kernel_rfl) (by kernel_rfl) (fun _ _ _ h => h) (Or.inl ⟨by rfl, ?_⟩) (by assumption) ?_
  case refine_2 => (intro w1 hS1; (try dsimp only at hS1); go_simp; try with_reducible rfl)
  try simp only [List.getElem_toArray, List.getElem_cons_zero, List.getElem_cons_succ, Act.put, List.setIfInBounds_toArray, List.set_cons_zero, List.set_cons_succ]
  refine wpAnyH_take (i := 5) (v := ?_) rfl (by kernel_rfl) (by kernel_rfl) (by kernel_rfl) (fun _ _ _ h => h) (Or.inl ⟨by rfl, ?_⟩) (by assumption) ?_
  case refine_2 => (intro w1 hS1; (try dsimp only at hS1); go_simp; try with_reducible rfl)
  try simp only [List.getElem_toArray, List.getElem_cons_zero, List.getElem_cons_succ, Act.put, List.setIfInBounds_toArray, List.set_cons_zero, List.set_cons_succ]
  clear hHeld
  refine wpAnyH_ready (rs := [6]) (by kernel_rfl) (by simp) ?_
  refine AllReadyH.cons rfl (fun K hK => ?_) AllReadyH.nil
  go_simp
  refine (hlv _).mono ?_
  rintro e w2 ⟨rfl, rfl⟩
  refine hK.out _ _ (HS.out _ bd) (fun hHeld => ?_)
  clear hK K hHeld
  try simp only [List.getElem_toArray, List.getElem_cons_zero, List.getElem_cons_succ, Act.put, List.setIfInBounds_toArray, List.set_cons_zero, List.set_cons_succ]
  refine wpAnyH_take (i := 7) (v := ?_) rfl (by kernel_rfl) (by kernel_rfl) (by kernel_rfl) (fun _ _ _ h => h) (Or.inl ⟨by rfl, ?_⟩) (HS.out _ bd) ?_
  case refine_2 => (intro w1 hS1; (try dsimp only at hS1); go_simp; try with_reducible rfl)
  try simp only [List.getElem_toArray, List.getElem_cons_zero, List.getElem_cons_succ, Act.put, List.setIfInBounds_toArray, List.set_cons_zero, List.set_cons_succ]
  refine wpAnyH_done (by kernel_rfl) ?_ _
  clear hlv
  go_wp2_with fail
  obtain ⟨W0, hW0⟩ : ∃ W, w1.drew = W := ⟨_, rfl⟩
  rw [hW0] at bd
  rw [hW0]
  clear hW0
  have be : Below w1.heap.size w1 W0.drew := bd.drew
  have HSC : Hid (∀ W, Below w1.heap.size w1 W → W.cell? ⟨T, 0, none⟩ = some (.int .u64 t.1) ∧ W.cell? ⟨T, 1, none⟩ = some (.int .u64 t.2.1) ∧ W.cell? ⟨T, 2, none⟩ = some (.int .i64 b) ∧ W.cell? ⟨D.q, 1 + k, none⟩ = some (.pointer (some ⟨(D.R k).r, 0, none⟩))) := Lib.hid (fun W hb => ⟨(HS.out W hb).2.1, (HS.out W hb).2.2.1, (HS.out W hb).2.2.2.1, (HS.out W hb).2.2.2.2.1⟩)
  refine wp_region_held_drew (S := (fun w' => w'.cell? ⟨T, 0, none⟩ = some (.int .u64 t.1) ∧ w'.cell? ⟨T, 1, none⟩ = some (.int .u64 t.2.1) ∧ w'.cell? ⟨T, 2, none⟩ = some (.int .i64 b) ∧ w'.cell? ⟨D.q, 1 + k, none⟩ = some (.pointer (some ⟨(D.R k).r, 0, none⟩)))) (by kernel_rfl) (HSC.out _ be) (fun hHeld => ?_)
  refine wpAnyH_take (i := 0) (v := ?_) rfl (by kernel_rfl) (by kernel_rfl) (by kernel_rfl) (fun _ _ _ h => h) (Or.inl ⟨by rfl, ?_⟩) (by assumption) ?_
  case refine_2 => (intro w1 hS1; (try dsimp only at hS1); go_simp; try with_reducible rfl)
  try simp only [List.getElem_toArray, List.getElem_cons_zero, List.getElem_cons_succ, Act.put, List.setIfInBounds_toArray, List.set_cons_zero, List.set_cons_succ]
  refine wpAnyH_take (i := 1) (v := ?_) rfl (by kernel_rfl) (by kernel_rfl) (by kernel_rfl) (fun _ _ _ h => h) (Or.inl ⟨by rfl, ?_⟩) (by assumption) ?_
  case refine_2 => (intro w1 hS1; (try dsimp only at hS1); go_simp; try with_reducible rfl)
  try simp only [List.getElem_toArray, List.getElem_cons_zero, List.getElem_cons_succ, Act.put, List.setIfInBounds_toArray, List.set_cons_zero, List.set_cons_succ]
  refine wpAnyH_take (i := 2) (v := ?_) rfl (by kernel_rfl) (by kernel_rfl) (by kernel_rfl) (fun _ _ _ h => h) (Or.inl ⟨by rfl, ?_⟩) (by assumption) ?_
  case refine_2 => (intro w1 hS1; (try dsimp only at hS1); go_simp; try with_reducible rfl)
  try simp only [List.getElem_toArray, List.getElem_cons_zero, List.getElem_cons_succ, Act.put, List.setIfInBounds_toArray, List.set_cons_zero, List.set_cons_succ]
  refine wpAnyH_take (i := 3) (v := ?_) rfl (by kernel_rfl) (by kernel_rfl) (by kernel_rfl) (fun _ _ _ h => h) (Or.inl ⟨by rfl, ?_⟩) (by assumption) ?_
  case refine_2 => (intro w1 hS1; (try dsimp only at hS1); go_simp; try with_reducible rfl)
  try simp only [List.getElem_toArray, List.getElem_cons_zero, List.getElem_cons_succ, Act.put, List.setIfInBounds_toArray, List.set_cons_zero, List.set_cons_succ]
  refine wpAnyH_take (i := 4) (v := ?_) rfl (by kernel_rfl) (by kernel_rfl) (by kernel_rfl) (fun _ _ _ h => h) (Or.inl ⟨by rfl, ?_⟩) (by assumption) ?_
  case refine_2 => (intro w1 hS1; (try dsimp only at hS1); go_simp; try with_reducible rfl)
  try simp only [List.getElem_toArray, List.getElem_cons_zero, List.getElem_cons_succ, Act.put, List.setIfInBounds_toArray, List.set_cons_zero, List.set_cons_succ]
  refine wpAnyH_take (i := 5) (v := ?_) rfl (by kernel_rfl) (by kernel_rfl) (by kernel_rfl) (fun _ _ _ h => h) (Or.inl ⟨by rfl, ?_⟩) (by assumption) ?_
  case refine_2 => (intro w1 hS1; (try dsimp only at hS1); go_simp; try with_reducible rfl)
  try simp only [List.getElem_toArray, List.getElem_cons_zero, List.getElem_cons_succ, Act.put, List.setIfInBounds_toArray, List.set_cons_zero, List.set_cons_succ]
  refine wpAnyH_take (i := 6) (v := ?_) rfl (by kernel_rfl) (by kernel_rfl) (by kernel_rfl) (fun _ _ _ h => h) (Or.inl ⟨by rfl, ?_⟩) (by assumption) ?_
  case refine_2 => (intro w1 hS1; (try dsimp only at hS1); go_simp; try with_reducible rfl)
  try simp only [List.getElem_toArray, List.getElem_cons_zero, List.getElem_cons_succ, Act.put, List.setIfInBounds_toArray, List.set_cons_zero, List.set_cons_succ]
  refine wpAnyH_take (i := 7) (v := ?_) rfl (by kernel_rfl) (by kernel_rfl) (by kernel_rfl) (fun _ _ _ h => h) (Or.inl ⟨by rfl, ?_⟩) (by assumption) ?_
  case refine_2 => (intro w1 hS1; (try dsimp only at hS1); go_simp; try with_reducible rfl)
  try simp only [List.getElem_toArray, List.getElem_cons_zero, List.getElem_cons_succ, Act.put, List.setIfInBounds_toArray, List.set_cons_zero, List.set_cons_succ]
  refine wpAnyH_take (i := 8) (v := ?_) rfl (by kernel_rfl) (by kernel_rfl) (by kernel_rfl) (fun _ _ _ h => h) (Or.inl ⟨by rfl, ?_⟩) (by assumption) ?_
  case refine_2 => (intro w1 hS1; (try dsimp only at hS1); go_simp; try with_reducible rfl)
  try simp only [List.getElem_toArray, List.getElem_cons_zero, List.getElem_cons_succ, Act.put, List.setIfInBounds_toArray, List.set_cons_zero, List.set_cons_succ]
  refine wpAnyH_take (i := 10) (v := ?_) rfl (by kernel_rfl) (by kernel_rfl) (by kernel_rfl) (fun _ _ _ h => h) (Or.inl ⟨by rfl, ?_⟩) (by assumption) ?_
  case refine_2 => (intro w1 hS1; (try dsimp only at hS1); go_simp; try with_reducible rfl)
  try simp only [List.getElem_toArray, List.getElem_cons_zero, List.getElem_cons_succ, Act.put, List.setIfInBounds_toArray, List.set_cons_zero, List.set_cons_succ]
  clear hHeld
  refine wpAnyH_ready (rs := [9]) (by kernel_rfl) (by simp) ?_
  refine AllReadyH.cons rfl (fun K hK => ?_) AllReadyH.nil
  go_simp
  refine (hso _).mono ?_
  rintro e w2 ⟨rfl, rfl⟩
  refine hK.out _ _ (HSC.out _ be) (fun hHeld => ?_)
  clear hK K hHeld
  try simp only [List.getElem_toArray, List.getElem_cons_zero, List.getElem_cons_succ, Act.put, List.setIfInBounds_toArray, List.set_cons_zero, List.set_cons_succ]
  refine wpAnyH_ready (rs := [11]) (by kernel_rfl) (by simp) ?_
  refine AllReadyH.cons rfl (fun K hK => ?_) AllReadyH.nil
  go_simp
  have hw2 := HA.out.2.below be
  have hput := rput_in t _ (hw2.rg k (by omega)) hsl HX.out HM.out HFEW.out
  rw [HD.out] at hput
  refine hput.mono ?_
  rintro e w5 ⟨rfl, V', M', hR5, ho5, hf5⟩
  have hSb := HSC.out _ be
  have hT2 := Nat.lt_of_lt_of_le hTs be.size
  have hTn : ¬ Fp (D.R k).V (D.R k).r (D.R k).b T := fun e => by have := RD.lt (HW.out.rg k (by omega)) e; omega
  have hqn : ¬ Fp (D.R k).V (D.R k).r (D.R k).b D.q := fun e => (hw2.ap2 k _ (by omega) e).1 rfl
  have hS5 : w5.cell? ⟨T, 0, none⟩ = some (.int .u64 t.1) ∧ w5.cell? ⟨T, 1, none⟩ = some (.int .u64 t.2.1) ∧ w5.cell? ⟨T, 2, none⟩ = some (.int .i64 b) ∧ w5.cell? ⟨D.q, 1 + k, none⟩ = some (.pointer (some ⟨(D.R k).r, 0, none⟩)) := ⟨(ho5.cell (p := ⟨T, _, none⟩) hT2 hTn).trans hSb.1, (ho5.cell (p := ⟨T, _, none⟩) hT2 hTn).trans hSb.2.1, (ho5.cell (p := ⟨T, _, none⟩) hT2 hTn).trans hSb.2.2.1, (ho5.cell (p := ⟨D.q, 1 + k, none⟩) hw2.qlt hqn).trans hSb.2.2.2⟩
  have H5 := Lib.hid (And.intro hw2 (And.intro hR5 (And.intro ho5 (And.intro hf5 be))))
  refine hK.out _ _ hS5 (fun hHeld => ?_)
  clear hK K hHeld hSb hS5 hR5 ho5 hf5 hput hw2
  try simp only [List.getElem_toArray, List.getElem_cons_zero, List.getElem_cons_succ, Act.put, List.setIfInBounds_toArray, List.set_cons_zero, List.set_cons_succ]
  refine wpAnyH_done (by kernel_rfl) ?_ _
  go_wp2_with fail
  go_end0
  obtain ⟨hw2, hR5, ho5, hf5, be⟩ := H5.out
  have hbw := HA.out.1.trans (be.mono HA.out.1.size)
  have hE : Wl w5 (D.ring k ⟨(D.R k).r, (D.R k).b, V', upd (D.R k).S sl ((D.R k).S sl ++ [t]), M'⟩) := hw2.ring (by omega) hR5 rfl ho5 hf5
  refine ⟨rfl, ⟨(D.R k).r, (D.R k).b, V', upd (D.R k).S sl ((D.R k).S sl ++ [t]), M'⟩, rfl, rfl, by rw [HSL.out], hE, (Only.below hbw).trans (ho5.more (fun g hg => .inr (.inr ⟨k, by omega, hg⟩))), fun g hg => ?_⟩
  rcases WD.ring_fp (k := k) (by omega) (E := ⟨(D.R k).r, (D.R k).b, V', upd (D.R k).S sl ((D.R k).S sl ++ [t]), M'⟩) hf5 hg with h1 | h1
  · exact .inl h1
  · exact .inr (Nat.le_trans hbw.size h1)
end Go.Proofs.YtfclmbneimbmnaaDoor

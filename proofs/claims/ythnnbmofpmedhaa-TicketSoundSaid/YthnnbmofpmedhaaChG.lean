/- The step behind a step: the reference's. -/
import Derived.Test.YthnnbmofpmedhaaChE
import Derived.Test.YthnnbmofpmedhaaChF
namespace Go.Proofs.Ythnnbmofpmedhaa
open Go.RowKit
set_option maxRecDepth 100000 in
set_option maxHeartbeats 4000000 in
theorem rnext_bad (off : Int) (a0 : Option Addr) (n0 ca0 : Nat) (b0 : Option Addr) (m0 cb0 : Nat) (c : Int) (a : Option Addr) (n ca : Nat) (r b : Int) (B P : Nat → Int) (lv x1 x2 x3 now : Int) (w : World) (hS : Sps w a n B P) (hg : goodC c n r b B P = false) :
    Calls Try.prog 16 #[calV off a0 n0 ca0 b0 m0 cb0, conV c a n ca r b, stepV lv x1 x2 x3, .int .i64 now] w fun e w' => e = .returned (.tuple #[stepV 0 0 0 0, .bool false, .int .i64 2]) ∧ Below w.heap.size w w' := by
  obtain ⟨B2, s0, s1, s2, s3, sz⟩ := box4 w #[.int .i64 off, .slice a0 n0 ca0, .slice b0 m0 cb0] #[.int .i64 c, .slice a n ca, .int .i64 r, .int .i64 b] #[.int .i64 lv, .int .i64 x1, .int .i64 x2, .int .i64 x3] #[.int .i64 0, .int .i64 0, .int .i64 0, .int .i64 0] 24 27 39 39
  obtain ⟨c0, c1, c2, c3, -⟩ := four_at s1
  have hck := rgood_any c a n ca r b B P ((((w.alloc (.cells #[.int .i64 off, .slice a0 n0 ca0, .slice b0 m0 cb0] 24)).alloc (.cells #[.int .i64 c, .slice a n ca, .int .i64 r, .int .i64 b] 27)).alloc (.cells #[.int .i64 lv, .int .i64 x1, .int .i64 x2, .int .i64 x3] 39)).alloc (.cells #[.int .i64 0, .int .i64 0, .int .i64 0, .int .i64 0] 39)) (hS.kept B2)
  rw [hg] at hck
  have HB := Lib.hid B2
  have HS := Lib.hid (And.intro s3 sz)
  unfold stepV at *
  unfold conV at *
  unfold calV at *
  clear B2 s0 s1 s2 s3 sz hS hg
  go_enter Try.func16, Try.ntmps16
  go_wp2_with fail
  generalize ((((w.alloc (.cells #[.int .i64 off, .slice a0 n0 ca0, .slice b0 m0 cb0] 24)).alloc (.cells #[.int .i64 c, .slice a n ca, .int .i64 r, .int .i64 b] 27)).alloc (.cells #[.int .i64 lv, .int .i64 x1, .int .i64 x2, .int .i64 x3] 39)).alloc (.cells #[.int .i64 0, .int .i64 0, .int .i64 0, .int .i64 0] 39)) = W at HB HS hck c0 c1 c2 c3 ⊢
  refine hck.mono ?_
  rintro e w3 ⟨rfl, hb3⟩
  have t1 := (hb3.block (w.heap.size + 1 + 1 + 1) (by have := HS.out.2; omega)).trans HS.out.1
  have HB3 := Lib.hid (HB.out.trans (hb3.mono HB.out.size))
  obtain ⟨q0, q1, q2, q3, z0, z1, z2, z3⟩ := four_at t1
  have HT := Lib.hid t1
  clear hck hb3 t1 c0 c1 c2 c3
  go_wp2_with fail
  have ho := below_put4 HB3.out (N := w.heap.size + 1 + 1 + 1) (by omega) (.int .i64 0) (.int .i64 0) (.int .i64 0) (.int .i64 0)
  obtain ⟨p0, p1, p2, p3⟩ := put4_cells HT.out (.int .i64 0) (.int .i64 0) (.int .i64 0) (.int .i64 0)
  unfold put4 at p0 p1 p2 p3 ho
  exact bodyPost_ret (v := .tuple #[.agg #[.int .i64 0, .int .i64 0, .int .i64 0, .int .i64 0], .bool false, .int .i64 2]) (by simp [results, Try.results16, go_sem, p0, p1, p2, p3]) rfl ⟨rfl, ho⟩
theorem put4_like {w : World} {N : Nat} {a b c d : Value} {t : TypeId} (h : w.heap[N]? = some (.cells #[a, b, c, d] t (0, 0))) : w.cell? ⟨N, 0, none⟩ = some a ∧ w.cell? ⟨N, 1, none⟩ = some b ∧ w.cell? ⟨N, 2, none⟩ = some c ∧ w.cell? ⟨N, 3, none⟩ = some d := ⟨cells_heap h 0, cells_heap h 1, cells_heap h 2, cells_heap h 3⟩
theorem below_put4' {B : Nat} {w w' : World} (h : Below B w w') {N : Nat} (hN : B ≤ N) (a b c d : Value) : Below B w (put4 w' N a b c d) :=
  (((h.setCell (p := ⟨N, 0, none⟩) hN a).setCell (p := ⟨N, 1, none⟩) hN b).setCell (p := ⟨N, 2, none⟩) hN c).setCell (p := ⟨N, 3, none⟩) hN d
set_option maxRecDepth 100000 in
set_option maxHeartbeats 8000000 in
theorem rnext_any {D : Cal} (hd : D.ok) (a0 : Option Addr) (ca0 : Nat) (b0 : Option Addr) (cb0 : Nat) (c : Int) (a : Option Addr) (n ca : Nat) (r b : Int) (B P : Nat → Int) (lv x1 x2 x3 now : Int) (w : World) (hS0 : Sps w a0 D.n D.F D.T) (hR0 : Sps w b0 D.m D.G D.U) (hS : Sps w a n B P) (hg : goodC c n r b B P = true) :
    Calls Try.prog 16 #[calV D.off a0 D.n ca0 b0 D.m cb0, conV c a n ca r b, stepV lv x1 x2 x3, .int .i64 now] w (RGave3 w (Nxtd D n B lv now)) := by
  obtain ⟨B2, s0, s1, s2, s3, sz⟩ := box4 w #[.int .i64 D.off, .slice a0 D.n ca0, .slice b0 D.m cb0] #[.int .i64 c, .slice a n ca, .int .i64 r, .int .i64 b] #[.int .i64 lv, .int .i64 x1, .int .i64 x2, .int .i64 x3] #[.int .i64 0, .int .i64 0, .int .i64 0, .int .i64 0] 24 27 39 39
  obtain ⟨c0, c1, c2, c3, -⟩ := four_at s1
  have hck := rgood_any c a n ca r b B P ((((w.alloc (.cells #[.int .i64 D.off, .slice a0 D.n ca0, .slice b0 D.m cb0] 24)).alloc (.cells #[.int .i64 c, .slice a n ca, .int .i64 r, .int .i64 b] 27)).alloc (.cells #[.int .i64 lv, .int .i64 x1, .int .i64 x2, .int .i64 x3] 39)).alloc (.cells #[.int .i64 0, .int .i64 0, .int .i64 0, .int .i64 0] 39)) (hS.kept B2)
  rw [hg] at hck
  obtain ⟨_, _, n1, n6, hlv⟩ := goodC_n hg
  have HB := Lib.hid B2
  have HS := Lib.hid (And.intro s3 (And.intro sz (And.intro s0 (And.intro s1 s2))))
  have HR := Lib.hid (hS.kept B2)
  have HLV := Lib.hid hlv
  have HBG := Lib.hid (fun W (hb : Below w.heap.size w W) (k y : Int) (y1 : y ≤ 9223372036854775807) => begin_any hd a0 ca0 b0 cb0 k y now W (hS0.kept hb) (hR0.kept hb) y1)
  have e1 : IntKind.i64.wrap ((n : Int) - 1) = (n : Int) - 1 := IntWalk.i64_in _ (by omega)
  unfold stepV at *
  unfold conV at *
  unfold calV at *
  clear B2 s0 s1 s2 s3 sz hS hg hd hlv hS0 hR0
  obtain ⟨off, eo⟩ : ∃ x, D.off = x := ⟨_, rfl⟩
  obtain ⟨n0, en⟩ : ∃ x, D.n = x := ⟨_, rfl⟩
  obtain ⟨m0, em⟩ : ∃ x, D.m = x := ⟨_, rfl⟩
  rw [eo, en, em] at HB HS HR HBG hck c0 c1 c2 c3 ⊢
  clear eo en em
  go_enter Try.func16, Try.ntmps16
  go_wp2_with fail
  generalize ((((w.alloc (.cells #[.int .i64 off, .slice a0 n0 ca0, .slice b0 m0 cb0] 24)).alloc (.cells #[.int .i64 c, .slice a n ca, .int .i64 r, .int .i64 b] 27)).alloc (.cells #[.int .i64 lv, .int .i64 x1, .int .i64 x2, .int .i64 x3] 39)).alloc (.cells #[.int .i64 0, .int .i64 0, .int .i64 0, .int .i64 0] 39)) = W at HB HS HR hck c0 c1 c2 c3 ⊢
  refine hck.mono ?_
  rintro e w3 ⟨rfl, hb3⟩
  have t0 := (hb3.block w.heap.size (by have := HS.out.2.1; omega)).trans HS.out.2.2.1
  have t1 := (hb3.block (w.heap.size + 1) (by have := HS.out.2.1; omega)).trans HS.out.2.2.2.1
  have t2 := (hb3.block (w.heap.size + 1 + 1) (by have := HS.out.2.1; omega)).trans HS.out.2.2.2.2
  have t3 := (hb3.block (w.heap.size + 1 + 1 + 1) (by have := HS.out.2.1; omega)).trans HS.out.1
  have z3 : w.heap.size + 1 + 1 + 1 < w3.heap.size := by have := hb3.size; have := HS.out.2.1; omega
  have HB3 := Lib.hid (HB.out.trans (hb3.mono HB.out.size))
  have HR3 := Lib.hid (HR.out.kept hb3)
  obtain ⟨_, k1, -⟩ := four_at t1
  obtain ⟨k2, -⟩ := four_at t2
  have HT := Lib.hid t3
  clear hck hb3 t1 t2 c0 c1 c2 c3
  by_cases hin : 0 ≤ lv ∧ lv < n
  · obtain ⟨i0, i1⟩ := hin
    have d0 : decide (lv < 0) = false := decide_eq_false (by omega)
    have d1 : decide ((n : Int) ≤ lv) = false := decide_eq_false (by omega)
    by_cases hla : lv + 1 = n
    · obtain rfl : lv = (n : Int) - 1 := by omega
      obtain ⟨q0, q1, q2, q3, y0, y1, y2, y3⟩ := four_at t3
      clear t3 t0
      go_wp2_with fail
      have ho := below_put4 HB3.out (N := w.heap.size + 1 + 1 + 1) (by omega) (.int .i64 0) (.int .i64 0) (.int .i64 0) (.int .i64 0)
      have hR : Nxtd D n B ((n : Int) - 1) now 0 0 0 0 false 0 := .inr (.inl ⟨i0, by omega, rfl, rfl, rfl, rfl, rfl, rfl⟩)
      obtain ⟨p0, p1, p2, p3⟩ := put4_cells HT.out (.int .i64 0) (.int .i64 0) (.int .i64 0) (.int .i64 0)
      unfold put4 at p0 p1 p2 p3 ho
      exact bodyPost_ret (v := .tuple #[.agg #[.int .i64 0, .int .i64 0, .int .i64 0, .int .i64 0], .bool false, .int .i64 0]) (by simp [results, Try.results16, go_sem, p0, p1, p2, p3]) rfl ⟨0, 0, 0, 0, false, 0, rfl, hR, ho⟩
    · have d2 : (lv == (n : Int) - 1) = false := by simp; omega
      obtain ⟨ab, ao, rfl, hab, p0, _, e1', e2', _, _⟩ := HR3.out.at (Below.refl _ _) (lv + 1).toNat (by omega)
      obtain ⟨b1, b2, _, _⟩ := lvs_at HLV.out (show (lv + 1).toNat < n by omega)
      obtain ⟨u, hu⟩ : ∃ u, B (lv + 1).toNat = u := ⟨_, rfl⟩
      rw [hu] at p0 b1 b2
      have HU := Lib.hid hu
      obtain ⟨k, hk⟩ : ∃ k : Nat, lv + 1 = k := ⟨(lv + 1).toNat, by omega⟩
      have HK := Lib.hid hk
      have e3 : IntKind.i64.wrap (lv + 1) = (k : Int) := by rw [hk]; exact IntWalk.i64_in _ (by omega)
      rw [hk, Int.toNat_natCast] at p0
      have k0 : (0 : Int) ≤ (k : Int) := by omega
      have kn : (k : Int) < (n : Int) := by omega
      have kn' : k < n := by omega
      have kd : decide ((k : Int) < (n : Int)) = true := decide_eq_true kn
      have j0 : w3.cell? ⟨w.heap.size, 0, none⟩ = some (.int .i64 off) := cells_heap t0 0
      have j1 : w3.cell? ⟨w.heap.size, 1, none⟩ = some (.slice a0 n0 ca0) := cells_heap t0 1
      have j2 : w3.cell? ⟨w.heap.size, 2, none⟩ = some (.slice b0 m0 cb0) := cells_heap t0 2
      have hS : ∀ w', Below w3.heap.size w3 w' → w'.cell? ⟨w.heap.size, 0, none⟩ = some (.int .i64 off) ∧ w'.cell? ⟨w.heap.size, 1, none⟩ = some (.slice a0 n0 ca0) ∧ w'.cell? ⟨w.heap.size, 2, none⟩ = some (.slice b0 m0 cb0) ∧ w'.cell? ⟨w.heap.size + 1, 1, none⟩ = some (.slice (some ⟨ab, ao, none⟩) n ca) ∧ w'.cell? ⟨w.heap.size + 1 + 1, 0, none⟩ = some (.int .i64 lv) ∧ w'.cell? ⟨ab, ao + k * 2, none⟩ = some (.int .i64 u) ∧ Below w3.heap.size w3 w' := fun w' h => ⟨(h.cell (p := ⟨w.heap.size, 0, none⟩) (by show w.heap.size < _; omega)).trans j0, (h.cell (p := ⟨w.heap.size, 1, none⟩) (by show w.heap.size < _; omega)).trans j1, (h.cell (p := ⟨w.heap.size, 2, none⟩) (by show w.heap.size < _; omega)).trans j2, (h.cell (p := ⟨w.heap.size + 1, 1, none⟩) (by show w.heap.size + 1 < _; omega)).trans k1, (h.cell (p := ⟨w.heap.size + 1 + 1, 0, none⟩) (by show w.heap.size + 1 + 1 < _; omega)).trans k2, (h.cell (p := ⟨ab, ao + k * 2, none⟩) hab).trans p0, h⟩
      have h0 := hS w3.drew (Below.refl _ _).drew
      have HSC := Lib.hid hS
      have hBG : Hid (∀ w', (w'.cell? ⟨w.heap.size, 0, none⟩ = some (.int .i64 off) ∧ w'.cell? ⟨w.heap.size, 1, none⟩ = some (.slice a0 n0 ca0) ∧ w'.cell? ⟨w.heap.size, 2, none⟩ = some (.slice b0 m0 cb0) ∧ w'.cell? ⟨w.heap.size + 1, 1, none⟩ = some (.slice (some ⟨ab, ao, none⟩) n ca) ∧ w'.cell? ⟨w.heap.size + 1 + 1, 0, none⟩ = some (.int .i64 lv) ∧ w'.cell? ⟨ab, ao + k * 2, none⟩ = some (.int .i64 u) ∧ Below w3.heap.size w3 w') → Calls Try.prog 43 #[.agg #[.int .i64 off, .slice a0 n0 ca0, .slice b0 m0 cb0], .int .i64 k, .int .i64 u, .int .i64 now] w' (RGave w' (Ran D k u now))) := Lib.hid (by
        rintro w' ⟨_, _, _, _, _, _, g5⟩
        exact HBG.out w' (HB3.out.trans (g5.mono HB3.out.size)) k u (by omega))
      clear hu hk e1' e2' hab t0 t3 hS
      go_wp2_with fail
      clear j0 j1 j2 k1 k2 p0 d0 d1 d2 e1
      refine wp_region_held_drew (S := fun w' => w'.cell? ⟨w.heap.size, 0, none⟩ = some (.int .i64 off) ∧ w'.cell? ⟨w.heap.size, 1, none⟩ = some (.slice a0 n0 ca0) ∧ w'.cell? ⟨w.heap.size, 2, none⟩ = some (.slice b0 m0 cb0) ∧ w'.cell? ⟨w.heap.size + 1, 1, none⟩ = some (.slice (some ⟨ab, ao, none⟩) n ca) ∧ w'.cell? ⟨w.heap.size + 1 + 1, 0, none⟩ = some (.int .i64 lv) ∧ w'.cell? ⟨ab, ao + k * 2, none⟩ = some (.int .i64 u) ∧ Below w3.heap.size w3 w') (by kernel_rfl) h0 (fun hHeld => ?_)
      refine wpAnyH_take (i := 0) (v := ?_) rfl (by kernel_rfl) (by kernel_rfl) (by kernel_rfl) (fun _ _ _ h => h) (Or.inl ⟨by rfl, ?_⟩) (by assumption) ?_
      case refine_2 => (intro w1 hS1; (try dsimp only at hS1); go_simp; try with_reducible rfl)
      try simp only [List.getElem_toArray, List.getElem_cons_zero, List.getElem_cons_succ, Act.put, List.setIfInBounds_toArray, List.set_cons_zero, List.set_cons_succ]
      refine wpAnyH_take (i := 1) (v := ?_) rfl (by kernel_rfl) (by kernel_rfl) (by kernel_rfl) (fun _ _ _ h => h) (Or.inl ⟨by rfl, ?_⟩) (by assumption) ?_
      case refine_2 => (intro w1 hS1; (try dsimp only at hS1); go_simp; try with_reducible rfl)
      try simp only [List.getElem_toArray, List.getElem_cons_zero, List.getElem_cons_succ, Act.put, List.setIfInBounds_toArray, List.set_cons_zero, List.set_cons_succ]
      refine wpAnyH_take (i := 2) (v := ?_) rfl (by kernel_rfl) (by kernel_rfl) (by kernel_rfl) (fun _ _ _ h => h) (Or.inl ⟨by rfl, ?_⟩) (by assumption) ?_
      case refine_2 => (intro w1 hS1; (try dsimp only at hS1); go_simp; try with_reducible rfl)
      try simp only [List.getElem_toArray, List.getElem_cons_zero, List.getElem_cons_succ, Act.put, List.setIfInBounds_toArray, List.set_cons_zero, List.set_cons_succ]
      refine wpAnyH_take (i := 3) (v := ?_) rfl (by kernel_rfl) (by kernel_rfl) (by kernel_rfl) (fun _ _ _ h => h) (Or.inl ⟨by rfl, ?_⟩) (by assumption) ?_
      case refine_2 => (intro w1 hS1; (try dsimp only at hS1); go_simp; try with_reducible rfl)
      try simp only [List.getElem_toArray, List.getElem_cons_zero, List.getElem_cons_succ, Act.put, List.setIfInBounds_toArray, List.set_cons_zero, List.set_cons_succ]
      refine wpAnyH_take (i := 4) (v := ?_) rfl (by kernel_rfl) (by kernel_rfl) (by kernel_rfl) (fun _ _ _ h => h) (Or.inl ⟨by rfl, ?_⟩) (by assumption) ?_
      case refine_2 => (intro w1 hS1; (try dsimp only at hS1); go_simp; try with_reducible rfl)
      try simp only [List.getElem_toArray, List.getElem_cons_zero, List.getElem_cons_succ, Act.put, List.setIfInBounds_toArray, List.set_cons_zero, List.set_cons_succ]
      refine wpAnyH_take (i := 5) (v := ?_) rfl (by kernel_rfl) (by kernel_rfl) (by kernel_rfl) (fun _ _ _ h => h) (Or.inl ⟨by rfl, ?_⟩) (by assumption) ?_
      case refine_2 => (intro w1 hS1; (try dsimp only at hS1); go_simp; try with_reducible rfl)
      try simp only [List.getElem_toArray, List.getElem_cons_zero, List.getElem_cons_succ, Act.put, List.setIfInBounds_toArray, List.set_cons_zero, List.set_cons_succ]
      refine wpAnyH_take (i := 6) (v := ?_) rfl (by kernel_rfl) (by kernel_rfl) (by kernel_rfl) (fun _ _ _ h => h) (Or.inl ⟨by rfl, ?_⟩) (by assumption) ?_
      case refine_2 => (intro w1 hS1; (try dsimp only at hS1); go_simp; try with_reducible rfl)
      try simp only [List.getElem_toArray, List.getElem_cons_zero, List.getElem_cons_succ, Act.put, List.setIfInBounds_toArray, List.set_cons_zero, List.set_cons_succ]
      refine wpAnyH_take (i := 7) (v := ?_) rfl (by kernel_rfl) (by kernel_rfl) (by kernel_rfl) (fun _ _ _ h => h) (Or.inl ⟨by rfl, ?_⟩) (by assumption) ?_
      case refine_2 => (intro w1 hS1; (try dsimp only at hS1); go_simp; try with_reducible rfl)
      try simp only [List.getElem_toArray, List.getElem_cons_zero, List.getElem_cons_succ, Act.put, List.setIfInBounds_toArray, List.set_cons_zero, List.set_cons_succ]
      refine wpAnyH_take (i := 8) (v := ?_) rfl (by kernel_rfl) (by kernel_rfl) (by kernel_rfl) (fun _ _ _ h => h) (Or.inl ⟨by rfl, ?_⟩) (by assumption) ?_
      case refine_2 => (intro w1 hS1; (try dsimp only at hS1); go_simp; try with_reducible rfl)
      try simp only [List.getElem_toArray, List.getElem_cons_zero, List.getElem_cons_succ, Act.put, List.setIfInBounds_toArray, List.set_cons_zero, List.set_cons_succ]
      refine wpAnyH_take (i := 9) (v := ?_) rfl (by kernel_rfl) (by kernel_rfl) (by kernel_rfl) (fun _ _ _ h => h) (Or.inl ⟨by rfl, ?_⟩) (by assumption) ?_
      case refine_2 => (intro w1 hS1; (try dsimp only at hS1); go_simp; try with_reducible rfl)
      try simp only [List.getElem_toArray, List.getElem_cons_zero, List.getElem_cons_succ, Act.put, List.setIfInBounds_toArray, List.set_cons_zero, List.set_cons_succ]
      refine wpAnyH_take (i := 10) (v := ?_) rfl (by kernel_rfl) (by kernel_rfl) (by kernel_rfl) (fun _ _ _ h => h) (Or.inl ⟨by rfl, ?_⟩) (by assumption) ?_
      case refine_2 => (intro w1 hS1; (try dsimp only at hS1); go_simp; try with_reducible rfl)
      try simp only [List.getElem_toArray, List.getElem_cons_zero, List.getElem_cons_succ, Act.put, List.setIfInBounds_toArray, List.set_cons_zero, List.set_cons_succ]
      refine wpAnyH_take (i := 11) (v := ?_) rfl (by kernel_rfl) (by kernel_rfl) (by kernel_rfl) (fun _ _ _ h => h) (Or.inl ⟨by rfl, ?_⟩) (by assumption) ?_
      case refine_2 => (intro w1 hS1; (try dsimp only at hS1); go_simp; try with_reducible rfl)
      try simp only [List.getElem_toArray, List.getElem_cons_zero, List.getElem_cons_succ, Act.put, List.setIfInBounds_toArray, List.set_cons_zero, List.set_cons_succ]
      refine wpAnyH_take (i := 12) (v := ?_) rfl (by kernel_rfl) (by kernel_rfl) (by kernel_rfl) (fun _ _ _ h => h) (Or.inl ⟨by rfl, ?_⟩) (by assumption) ?_
      case refine_2 => (intro w1 hS1; (try dsimp only at hS1); go_simp; try with_reducible rfl)
      try simp only [List.getElem_toArray, List.getElem_cons_zero, List.getElem_cons_succ, Act.put, List.setIfInBounds_toArray, List.set_cons_zero, List.set_cons_succ]
      refine wpAnyH_ready (rs := [13, 17]) (by kernel_rfl) (by simp) ?_
      refine AllReadyH.cons rfl (fun K hK => ?_) (AllReadyH.cons rfl (fun K hK => ?_) AllReadyH.nil)
      · go_simp
        refine (hBG.out _ (by assumption)).mono ?_
        rintro e w8 ⟨l, f, cc, d, er, rfl, hR, hb8⟩
        have HRR := Lib.hid hR
        have HB8 : Hid (Below w3.heap.size w3 w8) := Lib.hid ((Below.refl _ _).drew.trans hb8)
        have HB9 := Lib.hid hb8
        clear hR hb8
        unfold stepV
        refine hK.out _ _ (HSC.out _ HB8.out) (fun hHeld => ?_)
        clear hK K
        try simp only [List.getElem_toArray, List.getElem_cons_zero, List.getElem_cons_succ, Act.put, List.setIfInBounds_toArray, List.set_cons_zero, List.set_cons_succ]
        refine wpAnyH_take (i := 14) (v := ?_) rfl (by kernel_rfl) (by kernel_rfl) (by kernel_rfl) (fun _ _ _ h => h) (Or.inl ⟨by rfl, ?_⟩) (by assumption) ?_
        case refine_2 => (intro w1 hS1; (try dsimp only at hS1); go_simp; try with_reducible rfl)
        try simp only [List.getElem_toArray, List.getElem_cons_zero, List.getElem_cons_succ, Act.put, List.setIfInBounds_toArray, List.set_cons_zero, List.set_cons_succ]
        refine wpAnyH_take (i := 15) (v := ?_) rfl (by kernel_rfl) (by kernel_rfl) (by kernel_rfl) (fun _ _ _ h => h) (Or.inl ⟨by rfl, ?_⟩) (by assumption) ?_
        case refine_2 => (intro w1 hS1; (try dsimp only at hS1); go_simp; try with_reducible rfl)
        try simp only [List.getElem_toArray, List.getElem_cons_zero, List.getElem_cons_succ, Act.put, List.setIfInBounds_toArray, List.set_cons_zero, List.set_cons_succ]
        refine wpAnyH_take (i := 16) (v := ?_) rfl (by kernel_rfl) (by kernel_rfl) (by kernel_rfl) (fun _ _ _ h => h) (Or.inl ⟨by rfl, ?_⟩) (by assumption) ?_
        case refine_2 => (intro w1 hS1; (try dsimp only at hS1); go_simp; try with_reducible rfl)
        try simp only [List.getElem_toArray, List.getElem_cons_zero, List.getElem_cons_succ, Act.put, List.setIfInBounds_toArray, List.set_cons_zero, List.set_cons_succ]
        refine wpAnyH_ready (rs := [17]) (by kernel_rfl) (by simp) ?_
        refine AllReadyH.cons rfl (fun K hK => ?_) AllReadyH.nil
        go_simp
        refine hK.out _ _ (HSC.out _ (HB8.out.alloc HB8.out.size _)) (fun hHeld => ?_)
        clear hK K
        try simp only [List.getElem_toArray, List.getElem_cons_zero, List.getElem_cons_succ, Act.put, List.setIfInBounds_toArray, List.set_cons_zero, List.set_cons_succ]
        refine wpAnyH_ready (rs := [18]) (by kernel_rfl) (by simp) ?_
        refine AllReadyH.cons rfl (fun K hK => ?_) AllReadyH.nil
        go_simp
        refine hK.out _ _ (HSC.out _ (HB8.out.alloc HB8.out.size _)) (fun hHeld => ?_)
        clear hK K
        try simp only [List.getElem_toArray, List.getElem_cons_zero, List.getElem_cons_succ, Act.put, List.setIfInBounds_toArray, List.set_cons_zero, List.set_cons_succ]
        refine wpAnyH_take (i := 19) (v := ?_) rfl (by kernel_rfl) (by kernel_rfl) (by kernel_rfl) (fun _ _ _ h => h) (Or.inl ⟨by rfl, ?_⟩) (by assumption) ?_
        case refine_2 => (intro w1 hS1; (try dsimp only at hS1); go_simp; try with_reducible rfl)
        try simp only [List.getElem_toArray, List.getElem_cons_zero, List.getElem_cons_succ, Act.put, List.setIfInBounds_toArray, List.set_cons_zero, List.set_cons_succ]
        refine wpAnyH_done (by kernel_rfl) ?_ _
        have v4 : (w8.alloc (.cells #[.int .i64 l, .int .i64 f, .int .i64 cc, .int .i64 d] 39)).cell? ⟨w8.heap.size, 0, none⟩ = some (.int .i64 l) ∧ (w8.alloc (.cells #[.int .i64 l, .int .i64 f, .int .i64 cc, .int .i64 d] 39)).cell? ⟨w8.heap.size, 1, none⟩ = some (.int .i64 f) ∧ (w8.alloc (.cells #[.int .i64 l, .int .i64 f, .int .i64 cc, .int .i64 d] 39)).cell? ⟨w8.heap.size, 2, none⟩ = some (.int .i64 cc) ∧ (w8.alloc (.cells #[.int .i64 l, .int .i64 f, .int .i64 cc, .int .i64 d] 39)).cell? ⟨w8.heap.size, 3, none⟩ = some (.int .i64 d) := (by obtain ⟨_, h2, _⟩ := box1 w8 #[.int .i64 l, .int .i64 f, .int .i64 cc, .int .i64 d] 39; exact put4_like h2)
        have HBU : Hid (Below w3.heap.size w3 (w8.alloc (.cells #[.int .i64 l, .int .i64 f, .int .i64 cc, .int .i64 d] 39))) := Lib.hid (HB8.out.alloc HB8.out.size _)
        clear HB8 hHeld HB9
        generalize w8.alloc (.cells #[.int .i64 l, .int .i64 f, .int .i64 cc, .int .i64 d] 39) = U at v4 HBU ⊢
        obtain ⟨v0, v1, v2, v3⟩ := v4
        have t2 := (HBU.out.block (w.heap.size + 1 + 1 + 1) z3).trans HT.out
        obtain ⟨q0, q1, q2, q3, y0, y1, y2, y3⟩ := four_at t2
        have HT4 := Lib.hid t2
        have HB4 := Lib.hid (HB3.out.trans (HBU.out.mono HB3.out.size))
        obtain ⟨bf, ef⟩ : ∃ c, (er == 0) = c := ⟨_, rfl⟩
        have HE := Lib.hid ef
        clear t2
        go_wp2_with fail
        have ho := below_put4 HB4.out (N := w.heap.size + 1 + 1 + 1) (by omega) (.int .i64 l) (.int .i64 f) (.int .i64 cc) (.int .i64 d)
        have hR : Nxtd D n B lv now l f cc d bf er := .inr (.inr ⟨i0, by omega, by rw [HU.out, HK.out]; exact HRR.out, HE.out.symm⟩)
        obtain ⟨p0, p1, p2, p3⟩ := put4_cells HT4.out (.int .i64 l) (.int .i64 f) (.int .i64 cc) (.int .i64 d)
        unfold put4 at p0 p1 p2 p3 ho
        exact bodyPost_ret (v := .tuple #[.agg #[.int .i64 l, .int .i64 f, .int .i64 cc, .int .i64 d], .bool bf, .int .i64 er]) (by simp [results, Try.results16, go_sem, p0, p1, p2, p3]) rfl ⟨l, f, cc, d, bf, er, rfl, hR, ho⟩
      · go_simp
        refine hK.out _ _ (HSC.out _ ((Below.refl _ _).drew.alloc (Nat.le_refl _) _)) (fun hHeld => ?_)
        clear hK K
        try simp only [List.getElem_toArray, List.getElem_cons_zero, List.getElem_cons_succ, Act.put, List.setIfInBounds_toArray, List.set_cons_zero, List.set_cons_succ]
        refine wpAnyH_ready (rs := [13]) (by kernel_rfl) (by simp) ?_
        refine AllReadyH.cons rfl (fun K hK => ?_) AllReadyH.nil
        go_simp
        refine (hBG.out _ (by assumption)).mono ?_
        rintro e w8 ⟨l, f, cc, d, er, rfl, hR, hb8⟩
        have HRR := Lib.hid hR
        have HB8 : Hid (Below w3.heap.size w3 w8) := Lib.hid (((Below.refl _ _).drew.alloc (Nat.le_refl _) _).trans (hb8.mono (by simp)))
        have HB9 := Lib.hid hb8
        clear hR hb8
        unfold stepV

        refine hK.out _ _ (HSC.out _ HB8.out) (fun hHeld => ?_)
        clear hK K
        try simp only [List.getElem_toArray, List.getElem_cons_zero, List.getElem_cons_succ, Act.put, List.setIfInBounds_toArray, List.set_cons_zero, List.set_cons_succ]
        refine wpAnyH_take (i := 14) (v := ?_) rfl (by kernel_rfl) (by kernel_rfl) (by kernel_rfl) (fun _ _ _ h => h) (Or.inl ⟨by rfl, ?_⟩) (by assumption) ?_
        case refine_2 => (intro w1 hS1; (try dsimp only at hS1); go_simp; try with_reducible rfl)
        try simp only [List.getElem_toArray, List.getElem_cons_zero, List.getElem_cons_succ, Act.put, List.setIfInBounds_toArray, List.set_cons_zero, List.set_cons_succ]
        refine wpAnyH_take (i := 15) (v := ?_) rfl (by kernel_rfl) (by kernel_rfl) (by kernel_rfl) (fun _ _ _ h => h) (Or.inl ⟨by rfl, ?_⟩) (by assumption) ?_
        case refine_2 => (intro w1 hS1; (try dsimp only at hS1); go_simp; try with_reducible rfl)
        try simp only [List.getElem_toArray, List.getElem_cons_zero, List.getElem_cons_succ, Act.put, List.setIfInBounds_toArray, List.set_cons_zero, List.set_cons_succ]
        refine wpAnyH_take (i := 16) (v := ?_) rfl (by kernel_rfl) (by kernel_rfl) (by kernel_rfl) (fun _ _ _ h => h) (Or.inl ⟨by rfl, ?_⟩) (by assumption) ?_
        case refine_2 => (intro w1 hS1; (try dsimp only at hS1); go_simp; try with_reducible rfl)
        try simp only [List.getElem_toArray, List.getElem_cons_zero, List.getElem_cons_succ, Act.put, List.setIfInBounds_toArray, List.set_cons_zero, List.set_cons_succ]
        have tz : w8.heap[w3.heap.size]? = some (.cells #[.int .i64 0, .int .i64 0, .int .i64 0, .int .i64 0] 39 (0, 0)) := (HB9.out.block w3.heap.size (by simp)).trans (World.alloc_heap_new w3.drew _)
        obtain ⟨u0, u1, u2, u3, r0, r1, r2, r3⟩ := four_at tz
        have HTZ := Lib.hid tz
        clear tz
        refine wpAnyH_ready (rs := [18]) (by kernel_rfl) (by simp) ?_
        refine AllReadyH.cons rfl (fun K hK => ?_) AllReadyH.nil
        go_simp
        refine hK.out _ _ (HSC.out _ (below_put4' HB8.out (Nat.le_refl _) _ _ _ _)) (fun hHeld => ?_)
        clear hK K
        try simp only [List.getElem_toArray, List.getElem_cons_zero, List.getElem_cons_succ, Act.put, List.setIfInBounds_toArray, List.set_cons_zero, List.set_cons_succ]
        refine wpAnyH_take (i := 19) (v := ?_) rfl (by kernel_rfl) (by kernel_rfl) (by kernel_rfl) (fun _ _ _ h => h) (Or.inl ⟨by rfl, ?_⟩) (by assumption) ?_
        case refine_2 => (intro w1 hS1; (try dsimp only at hS1); go_simp; try with_reducible rfl)
        try simp only [List.getElem_toArray, List.getElem_cons_zero, List.getElem_cons_succ, Act.put, List.setIfInBounds_toArray, List.set_cons_zero, List.set_cons_succ]
        refine wpAnyH_done (by kernel_rfl) ?_ _
        have v4 : ((((w8.setCell ⟨w3.heap.size, 0, none⟩ (.int .i64 l)).setCell ⟨w3.heap.size, 1, none⟩ (.int .i64 f)).setCell ⟨w3.heap.size, 2, none⟩ (.int .i64 cc)).setCell ⟨w3.heap.size, 3, none⟩ (.int .i64 d)).cell? ⟨w3.heap.size, 0, none⟩ = some (.int .i64 l) ∧ ((((w8.setCell ⟨w3.heap.size, 0, none⟩ (.int .i64 l)).setCell ⟨w3.heap.size, 1, none⟩ (.int .i64 f)).setCell ⟨w3.heap.size, 2, none⟩ (.int .i64 cc)).setCell ⟨w3.heap.size, 3, none⟩ (.int .i64 d)).cell? ⟨w3.heap.size, 1, none⟩ = some (.int .i64 f) ∧ ((((w8.setCell ⟨w3.heap.size, 0, none⟩ (.int .i64 l)).setCell ⟨w3.heap.size, 1, none⟩ (.int .i64 f)).setCell ⟨w3.heap.size, 2, none⟩ (.int .i64 cc)).setCell ⟨w3.heap.size, 3, none⟩ (.int .i64 d)).cell? ⟨w3.heap.size, 2, none⟩ = some (.int .i64 cc) ∧ ((((w8.setCell ⟨w3.heap.size, 0, none⟩ (.int .i64 l)).setCell ⟨w3.heap.size, 1, none⟩ (.int .i64 f)).setCell ⟨w3.heap.size, 2, none⟩ (.int .i64 cc)).setCell ⟨w3.heap.size, 3, none⟩ (.int .i64 d)).cell? ⟨w3.heap.size, 3, none⟩ = some (.int .i64 d) := put4_cells HTZ.out _ _ _ _
        have HBU : Hid (Below w3.heap.size w3 ((((w8.setCell ⟨w3.heap.size, 0, none⟩ (.int .i64 l)).setCell ⟨w3.heap.size, 1, none⟩ (.int .i64 f)).setCell ⟨w3.heap.size, 2, none⟩ (.int .i64 cc)).setCell ⟨w3.heap.size, 3, none⟩ (.int .i64 d))) := Lib.hid (below_put4' HB8.out (Nat.le_refl _) _ _ _ _)
        clear HB8 hHeld HB9
        generalize (((w8.setCell ⟨w3.heap.size, 0, none⟩ (.int .i64 l)).setCell ⟨w3.heap.size, 1, none⟩ (.int .i64 f)).setCell ⟨w3.heap.size, 2, none⟩ (.int .i64 cc)).setCell ⟨w3.heap.size, 3, none⟩ (.int .i64 d) = U at v4 HBU ⊢
        obtain ⟨v0, v1, v2, v3⟩ := v4
        have t2 := (HBU.out.block (w.heap.size + 1 + 1 + 1) z3).trans HT.out
        obtain ⟨q0, q1, q2, q3, y0, y1, y2, y3⟩ := four_at t2
        have HT4 := Lib.hid t2
        have HB4 := Lib.hid (HB3.out.trans (HBU.out.mono HB3.out.size))
        obtain ⟨bf, ef⟩ : ∃ c, (er == 0) = c := ⟨_, rfl⟩
        have HE := Lib.hid ef
        clear t2
        go_wp2_with fail
        have ho := below_put4 HB4.out (N := w.heap.size + 1 + 1 + 1) (by omega) (.int .i64 l) (.int .i64 f) (.int .i64 cc) (.int .i64 d)
        have hR : Nxtd D n B lv now l f cc d bf er := .inr (.inr ⟨i0, by omega, by rw [HU.out, HK.out]; exact HRR.out, HE.out.symm⟩)
        obtain ⟨p0, p1, p2, p3⟩ := put4_cells HT4.out (.int .i64 l) (.int .i64 f) (.int .i64 cc) (.int .i64 d)
        unfold put4 at p0 p1 p2 p3 ho
        exact bodyPost_ret (v := .tuple #[.agg #[.int .i64 l, .int .i64 f, .int .i64 cc, .int .i64 d], .bool bf, .int .i64 er]) (by simp [results, Try.results16, go_sem, p0, p1, p2, p3]) rfl ⟨l, f, cc, d, bf, er, rfl, hR, ho⟩
  · have hor : decide (lv < 0) = true ∨ (decide (lv < 0) = false ∧ decide ((n : Int) ≤ lv) = true) := by
      by_cases h1 : lv < 0
      · exact .inl (decide_eq_true h1)
      · exact .inr ⟨decide_eq_false h1, decide_eq_true (by omega)⟩
    have hR : Nxtd D n B lv now 0 0 0 0 false 2 := .inl ⟨hin, rfl, rfl, rfl, rfl, rfl, rfl⟩
    have HRR := Lib.hid hR
    obtain ⟨q0, q1, q2, q3, y0, y1, y2, y3⟩ := four_at t3
    clear t3 t0 hin hR
    rcases hor with d0 | ⟨d0, d1⟩
    all_goals
      go_wp2_with fail
      have ho := below_put4 HB3.out (N := w.heap.size + 1 + 1 + 1) (by omega) (.int .i64 0) (.int .i64 0) (.int .i64 0) (.int .i64 0)
      obtain ⟨p0, p1, p2, p3⟩ := put4_cells HT.out (.int .i64 0) (.int .i64 0) (.int .i64 0) (.int .i64 0)
      unfold put4 at p0 p1 p2 p3 ho
      exact bodyPost_ret (v := .tuple #[.agg #[.int .i64 0, .int .i64 0, .int .i64 0, .int .i64 0], .bool false, .int .i64 2]) (by simp [results, Try.results16, go_sem, p0, p1, p2, p3]) rfl ⟨0, 0, 0, 0, false, 2, rfl, HRR.out, ho⟩
end Go.Proofs.Ythnnbmofpmedhaa

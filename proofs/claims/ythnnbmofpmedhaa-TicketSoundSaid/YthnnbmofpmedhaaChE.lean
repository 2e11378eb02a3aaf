/- The reference's first step. -/
import Derived.Test.YthnnbmofpmedhaaChD
import Derived.Deep.RegionHeld3
namespace Go.Proofs.Ythnnbmofpmedhaa
open Go.RowKit
set_option maxRecDepth 100000 in
set_option maxHeartbeats 4000000 in
theorem begin_any {D : Cal} (hd : D.ok) (a : Option Addr) (ca : Nat) (b : Option Addr) (cb : Nat) (lv y now : Int) (w : World) (hS : Sps w a D.n D.F D.T) (hR : Sps w b D.m D.G D.U) (y1 : y ≤ 9223372036854775807) :
    Calls Try.prog 43 #[calV D.off a D.n ca b D.m cb, .int .i64 lv, .int .i64 y, .int .i64 now] w (RGave w (Ran D lv y now)) := by
  obtain ⟨B2, s0, s1, sz⟩ := box2 w #[.int .i64 D.off, .slice a D.n ca, .slice b D.m cb] #[.int .i64 0, .int .i64 0, .int .i64 0, .int .i64 0] 24 39
  obtain ⟨c0, c1, c2⟩ : (((w.alloc (.cells #[.int .i64 D.off, .slice a D.n ca, .slice b D.m cb] 24)).alloc (.cells #[.int .i64 0, .int .i64 0, .int .i64 0, .int .i64 0] 39))).cell? ⟨w.heap.size, 0, none⟩ = some (.int .i64 D.off) ∧ (((w.alloc (.cells #[.int .i64 D.off, .slice a D.n ca, .slice b D.m cb] 24)).alloc (.cells #[.int .i64 0, .int .i64 0, .int .i64 0, .int .i64 0] 39))).cell? ⟨w.heap.size, 1, none⟩ = some (.slice a D.n ca) ∧ (((w.alloc (.cells #[.int .i64 D.off, .slice a D.n ca, .slice b D.m cb] 24)).alloc (.cells #[.int .i64 0, .int .i64 0, .int .i64 0, .int .i64 0] 39))).cell? ⟨w.heap.size, 2, none⟩ = some (.slice b D.m cb) := ⟨cells_heap s0 0, cells_heap s0 1, cells_heap s0 2⟩
  have hdu := rdue_any hd a ca b cb now y ((w.alloc (.cells #[.int .i64 D.off, .slice a D.n ca, .slice b D.m cb] 24)).alloc (.cells #[.int .i64 0, .int .i64 0, .int .i64 0, .int .i64 0] 39)) (hS.kept B2) (hR.kept B2) y1
  have HB := Lib.hid B2
  have HS := Lib.hid (And.intro s1 sz)
  unfold calV at *
  clear B2 s0 s1 sz hS hR hd
  go_enter Try.func43, Try.ntmps43
  go_wp2_with fail
  generalize ((w.alloc (.cells #[.int .i64 D.off, .slice a D.n ca, .slice b D.m cb] 24)).alloc (.cells #[.int .i64 0, .int .i64 0, .int .i64 0, .int .i64 0] 39)) = W at HB HS hdu c0 c1 c2 ⊢
  refine hdu.mono ?_
  rintro e w3 ⟨⟨v, er, rfl, hv⟩, hb3⟩
  have t1 := (hb3.block (w.heap.size + 1) (by have := HS.out.2; omega)).trans HS.out.1
  have HB3 := Lib.hid (HB.out.trans (hb3.mono HB.out.size))
  have HV := Lib.hid hv
  obtain ⟨q0, q1, q2, q3, z0, z1, z2, z3⟩ := four_at t1
  have HT := Lib.hid t1
  obtain ⟨bf, ef⟩ : ∃ c, (er != 0) = c := ⟨_, rfl⟩
  clear hdu hb3 t1 c0 c1 c2 hv
  cases bf
  · obtain rfl : er = 0 := by simpa using ef
    clear ef
    go_wp2_with fail
    have ho := below_put4 HB3.out (N := w.heap.size + 1) (by omega) (.int .i64 lv) (.int .i64 now) (.int .i64 y) (.int .i64 v)
    obtain ⟨p0, p1, p2, p3⟩ := put4_cells HT.out (.int .i64 lv) (.int .i64 now) (.int .i64 y) (.int .i64 v)
    unfold put4 at p0 p1 p2 p3 ho
    exact bodyPost_ret (v := .tuple #[.agg #[.int .i64 lv, .int .i64 now, .int .i64 y, .int .i64 v], .int .i64 0]) (by simp [results, Try.results43, go_sem, p0, p1, p2, p3]) rfl ⟨lv, now, y, v, 0, rfl, ⟨v, 0, HV.out, .inl ⟨rfl, rfl, rfl, rfl, rfl, rfl⟩⟩, ho⟩
  · have HE := Lib.hid (show er ≠ 0 by simpa using ef)
    go_wp2_with fail
    have ho := below_put4 HB3.out (N := w.heap.size + 1) (by omega) (.int .i64 0) (.int .i64 0) (.int .i64 0) (.int .i64 0)
    obtain ⟨p0, p1, p2, p3⟩ := put4_cells HT.out (.int .i64 0) (.int .i64 0) (.int .i64 0) (.int .i64 0)
    unfold put4 at p0 p1 p2 p3 ho
    exact bodyPost_ret (v := .tuple #[.agg #[.int .i64 0, .int .i64 0, .int .i64 0, .int .i64 0], .int .i64 er]) (by simp [results, Try.results43, go_sem, p0, p1, p2, p3]) rfl ⟨0, 0, 0, 0, er, rfl, ⟨v, er, HV.out, .inr ⟨HE.out, rfl, rfl, rfl, rfl, rfl⟩⟩, ho⟩
set_option maxRecDepth 100000 in
set_option maxHeartbeats 4000000 in
theorem rfirst_bad (off : Int) (a0 : Option Addr) (n0 ca0 : Nat) (b0 : Option Addr) (m0 cb0 : Nat) (c : Int) (a : Option Addr) (n ca : Nat) (r b : Int) (B P : Nat → Int) (now : Int) (w : World) (hS : Sps w a n B P) (hg : goodC c n r b B P = false) :
    Calls Try.prog 14 #[calV off a0 n0 ca0 b0 m0 cb0, conV c a n ca r b, .int .i64 now] w fun e w' => e = .returned (.tuple #[stepV 0 0 0 0, .int .i64 2]) ∧ Below w.heap.size w w' := by
  obtain ⟨B2, s0, s1, s2, sz⟩ := box3 w #[.int .i64 off, .slice a0 n0 ca0, .slice b0 m0 cb0] #[.int .i64 c, .slice a n ca, .int .i64 r, .int .i64 b] #[.int .i64 0, .int .i64 0, .int .i64 0, .int .i64 0] 24 27 39
  obtain ⟨c0, c1, c2, c3, -⟩ := four_at s1
  have hck := rgood_any c a n ca r b B P (((w.alloc (.cells #[.int .i64 off, .slice a0 n0 ca0, .slice b0 m0 cb0] 24)).alloc (.cells #[.int .i64 c, .slice a n ca, .int .i64 r, .int .i64 b] 27)).alloc (.cells #[.int .i64 0, .int .i64 0, .int .i64 0, .int .i64 0] 39)) (hS.kept B2)
  rw [hg] at hck
  have HB := Lib.hid B2
  have HS := Lib.hid (And.intro s2 sz)
  unfold stepV
  unfold conV at *
  unfold calV
  clear B2 s0 s1 s2 sz hS hg
  go_enter Try.func14, Try.ntmps14
  go_wp2_with fail
  generalize (((w.alloc (.cells #[.int .i64 off, .slice a0 n0 ca0, .slice b0 m0 cb0] 24)).alloc (.cells #[.int .i64 c, .slice a n ca, .int .i64 r, .int .i64 b] 27)).alloc (.cells #[.int .i64 0, .int .i64 0, .int .i64 0, .int .i64 0] 39)) = W at HB HS hck c0 c1 c2 c3 ⊢
  refine hck.mono ?_
  rintro e w3 ⟨rfl, hb3⟩
  have t1 := (hb3.block (w.heap.size + 1 + 1) (by have := HS.out.2; omega)).trans HS.out.1
  have HB3 := Lib.hid (HB.out.trans (hb3.mono HB.out.size))
  obtain ⟨q0, q1, q2, q3, z0, z1, z2, z3⟩ := four_at t1
  have HT := Lib.hid t1
  clear hck hb3 t1 c0 c1 c2 c3
  go_wp2_with fail
  have ho := below_put4 HB3.out (N := w.heap.size + 1 + 1) (by omega) (.int .i64 0) (.int .i64 0) (.int .i64 0) (.int .i64 0)
  obtain ⟨p0, p1, p2, p3⟩ := put4_cells HT.out (.int .i64 0) (.int .i64 0) (.int .i64 0) (.int .i64 0)
  unfold put4 at p0 p1 p2 p3 ho
  exact bodyPost_ret (v := .tuple #[.agg #[.int .i64 0, .int .i64 0, .int .i64 0, .int .i64 0], .int .i64 2]) (by simp [results, Try.results14, go_sem, p0, p1, p2, p3]) rfl ⟨rfl, ho⟩
set_option maxRecDepth 100000 in
set_option maxHeartbeats 4000000 in
theorem rfirst_any {D : Cal} (hd : D.ok) (a0 : Option Addr) (ca0 : Nat) (b0 : Option Addr) (cb0 : Nat) (c : Int) (a : Option Addr) (n ca : Nat) (r b : Int) (B P : Nat → Int) (now : Int) (w : World) (hS0 : Sps w a0 D.n D.F D.T) (hR0 : Sps w b0 D.m D.G D.U) (hS : Sps w a n B P) (hg : goodC c n r b B P = true) :
    Calls Try.prog 14 #[calV D.off a0 D.n ca0 b0 D.m cb0, conV c a n ca r b, .int .i64 now] w (RGave w (Ran D 0 (B 0) now)) := by
  obtain ⟨_, _, n1, n6, hlv⟩ := goodC_n hg
  obtain ⟨b1, b2, _, _⟩ := lvs_at hlv (show 0 < n by omega)
  obtain ⟨ab, ao, rfl, habw, hcell⟩ := hS.2 (show 0 < n by omega)
  have d00 := (hcell 0 (by omega)).1
  rw [Nat.zero_mul, Nat.add_zero] at d00
  have HD0 := Lib.hid d00
  clear hcell d00
  obtain ⟨B2, s0, s1, s2, sz⟩ := box3 w #[.int .i64 D.off, .slice a0 D.n ca0, .slice b0 D.m cb0] #[.int .i64 c, .slice (some ⟨ab, ao, none⟩) n ca, .int .i64 r, .int .i64 b] #[.int .i64 0, .int .i64 0, .int .i64 0, .int .i64 0] 24 27 39
  obtain ⟨c0, c1, c2, c3, -⟩ := four_at s1
  have hck := rgood_any c (some ⟨ab, ao, none⟩) n ca r b B P (((w.alloc (.cells #[.int .i64 D.off, .slice a0 D.n ca0, .slice b0 D.m cb0] 24)).alloc (.cells #[.int .i64 c, .slice (some ⟨ab, ao, none⟩) n ca, .int .i64 r, .int .i64 b] 27)).alloc (.cells #[.int .i64 0, .int .i64 0, .int .i64 0, .int .i64 0] 39)) (hS.kept B2)
  rw [hg] at hck
  have HB := Lib.hid B2
  have HS := Lib.hid (And.intro s2 (And.intro sz (And.intro s0 s1)))
  have HBG := Lib.hid (fun W (hb : Below w.heap.size w W) (y : Int) (y1 : y ≤ 9223372036854775807) => begin_any hd a0 ca0 b0 cb0 0 y now W (hS0.kept hb) (hR0.kept hb) y1)
  unfold conV at *
  unfold calV at *
  clear B2 s0 s1 s2 sz hS hg hd hlv hS0 hR0
  obtain ⟨off, eo⟩ : ∃ x, D.off = x := ⟨_, rfl⟩
  obtain ⟨n0, en⟩ : ∃ x, D.n = x := ⟨_, rfl⟩
  obtain ⟨m0, em⟩ : ∃ x, D.m = x := ⟨_, rfl⟩
  rw [eo, en, em] at HB HS HBG hck c0 c1 c2 c3 ⊢
  clear eo en em
  obtain ⟨f0, hf0⟩ : ∃ f, B 0 = f := ⟨_, rfl⟩
  have HF := Lib.hid hf0
  rw [hf0] at b1 b2 ⊢
  go_enter Try.func14, Try.ntmps14
  go_wp2_with fail
  generalize (((w.alloc (.cells #[.int .i64 off, .slice a0 n0 ca0, .slice b0 m0 cb0] 24)).alloc (.cells #[.int .i64 c, .slice (some ⟨ab, ao, none⟩) n ca, .int .i64 r, .int .i64 b] 27)).alloc (.cells #[.int .i64 0, .int .i64 0, .int .i64 0, .int .i64 0] 39)) = W at HB HS hck c0 c1 c2 c3 ⊢
  refine hck.mono ?_
  rintro e w3 ⟨rfl, hb3⟩
  have t0 := (hb3.block w.heap.size (by have := HS.out.2.1; omega)).trans HS.out.2.2.1
  have t1 := (hb3.block (w.heap.size + 1) (by have := HS.out.2.1; omega)).trans HS.out.2.2.2
  have t2 := (hb3.block (w.heap.size + 1 + 1) (by have := HS.out.2.1; omega)).trans HS.out.1
  have z3 : w.heap.size + 1 + 1 < w3.heap.size := by have := hb3.size; have := HS.out.2.1; omega
  have HB3 := Lib.hid (HB.out.trans (hb3.mono HB.out.size))
  have d0 := (HB3.out.cell (p := ⟨ab, ao, none⟩) habw).trans HD0.out
  rw [hf0] at d0
  obtain ⟨_, k1, -⟩ := four_at t1
  have j0 : w3.cell? ⟨w.heap.size, 0, none⟩ = some (.int .i64 off) := cells_heap t0 0
  have j1 : w3.cell? ⟨w.heap.size, 1, none⟩ = some (.slice a0 n0 ca0) := cells_heap t0 1
  have j2 : w3.cell? ⟨w.heap.size, 2, none⟩ = some (.slice b0 m0 cb0) := cells_heap t0 2
  have HT := Lib.hid t2
  have n0' : (0 : Int) < (n : Int) := by omega
  have n00 : 0 < n := by omega
  have nd : decide ((0 : Int) < (n : Int)) = true := decide_eq_true n0'
  clear hck hb3 t0 t1 t2 c0 c1 c2 c3 hf0
  have h0 : w3.drew.cell? ⟨w.heap.size, 0, none⟩ = some (.int .i64 off) ∧ w3.drew.cell? ⟨w.heap.size, 1, none⟩ = some (.slice a0 n0 ca0) ∧ w3.drew.cell? ⟨w.heap.size, 2, none⟩ = some (.slice b0 m0 cb0) ∧ w3.drew.cell? ⟨w.heap.size + 1, 1, none⟩ = some (.slice (some ⟨ab, ao, none⟩) n ca) ∧ w3.drew.cell? ⟨ab, ao, none⟩ = some (.int .i64 f0) ∧ Below w.heap.size w w3.drew := ⟨j0, j1, j2, k1, d0, HB3.out.drew⟩
  have hBG : Hid (∀ w', (w'.cell? ⟨w.heap.size, 0, none⟩ = some (.int .i64 off) ∧ w'.cell? ⟨w.heap.size, 1, none⟩ = some (.slice a0 n0 ca0) ∧ w'.cell? ⟨w.heap.size, 2, none⟩ = some (.slice b0 m0 cb0) ∧ w'.cell? ⟨w.heap.size + 1, 1, none⟩ = some (.slice (some ⟨ab, ao, none⟩) n ca) ∧ w'.cell? ⟨ab, ao, none⟩ = some (.int .i64 f0) ∧ Below w.heap.size w w') →
      Calls Try.prog 43 #[.agg #[.int .i64 off, .slice a0 n0 ca0, .slice b0 m0 cb0], .int .i64 0, .int .i64 f0, .int .i64 now] w' fun e w'' => ∃ l f c d er, e = .returned (.tuple #[stepV l f c d, .int .i64 er]) ∧ Hid (Ran D 0 f0 now l f c d er) ∧ Below w'.heap.size w' w'' ∧ (w''.cell? ⟨w.heap.size, 0, none⟩ = some (.int .i64 off) ∧ w''.cell? ⟨w.heap.size, 1, none⟩ = some (.slice a0 n0 ca0) ∧ w''.cell? ⟨w.heap.size, 2, none⟩ = some (.slice b0 m0 cb0) ∧ w''.cell? ⟨w.heap.size + 1, 1, none⟩ = some (.slice (some ⟨ab, ao, none⟩) n ca) ∧ w''.cell? ⟨ab, ao, none⟩ = some (.int .i64 f0) ∧ Below w.heap.size w w'')) := Lib.hid (by
    rintro w' ⟨g0, g1, g2, g3, g4, g5⟩
    refine (HBG.out w' g5 f0 (by omega)).mono ?_
    rintro e w'' ⟨l, f, c, d, er, rfl, hR, hb⟩
    exact ⟨l, f, c, d, er, rfl, hR, hb, (hb.cell (p := ⟨w.heap.size, 0, none⟩) (cell_spot g0).2).trans g0, (hb.cell (p := ⟨w.heap.size, 1, none⟩) (cell_spot g1).2).trans g1, (hb.cell (p := ⟨w.heap.size, 2, none⟩) (cell_spot g2).2).trans g2, (hb.cell (p := ⟨w.heap.size + 1, 1, none⟩) (cell_spot g3).2).trans g3, (hb.cell (p := ⟨ab, ao, none⟩) (cell_spot g4).2).trans g4, g5.trans (hb.mono g5.size)⟩)
  go_wp2_with fail
  clear j0 j1 j2 k1 d0
  refine wp_region_held_drew (S := fun w' => w'.cell? ⟨w.heap.size, 0, none⟩ = some (.int .i64 off) ∧ w'.cell? ⟨w.heap.size, 1, none⟩ = some (.slice a0 n0 ca0) ∧ w'.cell? ⟨w.heap.size, 2, none⟩ = some (.slice b0 m0 cb0) ∧ w'.cell? ⟨w.heap.size + 1, 1, none⟩ = some (.slice (some ⟨ab, ao, none⟩) n ca) ∧ w'.cell? ⟨ab, ao, none⟩ = some (.int .i64 f0) ∧ Below w.heap.size w w') (by kernel_rfl) h0 (fun hHeld => ?_)
  refine wpAnyH_take (i := 0) (v := ?_) rfl (by kernel_rfl) (by kernel_rfl) (by kernel_rfl) (fun _ _ _ h => h) (Or.inl ⟨by rfl, ?_⟩) (by assumption) ?_
  case refine_2 => (intro w1 hS1; (try dsimp only at hS1); go_simp; try with_reducible rfl)
  try simp only [List.getElem_toArray, List.getElem_cons_zero, List.getElem_cons_succ, Act.put, List.setIfInBounds_toArray, List.set_cons_zero, List.set_cons_succ]
  refine wpAnyH_take (i := 1) (v := ?_) rfl (by kernel_rfl) (by kernel_rfl) (by kernel_rfl) (fun _ _ _ h => h) (Or.inl ⟨by rfl, ?_⟩) (by assumption) ?_
  case refine_2 => (intro w1 hS1; (try dsimp only at hS1); go_simp; try with_reducible rfl)
  try simp only [List.getElem_toArray, List.getElem_cons_zero, List.getElem_cons_succ, Act.put, List.setIfInBounds_toArray, List.set_cons_zero, List.set_cons_succ]
  refine wpAnyH_take (i := 2) (v := ?_) rfl (by kernel_rfl) (by kernel_rfl) (by kernel_rfl) (fun _ _ _ h => h) (Or.inl ⟨by rfl, ?_⟩) (by assumption) ?_
  case refine_2 => (intro w1 hS1; (try dsimp only at hS1); go_simp; try with_reducible rfl)
  try simp only [List.getElem_toArray, List.getElem_cons_zero, List.getElem_cons_succ, Act.put, List.setIfInBounds_toArray, List.set_cons_zero, List.set_cons_succ]
  refine wpAnyH_take (i := 3) (v := ?_) rfl (by kernel_rfl) (by kernel_rfl) (by kernel_rfl) (fun _ _ _ h => h) (Or.inl ⟨by rfl, ?_⟩) (by assumption) ?_
  case refine_2 => (intro w1 hS1; (try dsimp only at hS1); go_simp; try with_reducible rfl)
  try simp only [List.getElem_toArray, List.getElem_cons_zero, List.getElem_cons_succ, Act.put, List.setIfInBounds_toArray, List.set_cons_zero, List.set_cons_succ]
  refine wpAnyH_take (i := 4) (v := ?_) rfl (by kernel_rfl) (by kernel_rfl) (by kernel_rfl) (fun _ _ _ h => h) (Or.inl ⟨by rfl, ?_⟩) (by assumption) ?_
  case refine_2 => (intro w1 hS1; (try dsimp only at hS1); go_simp; try with_reducible rfl)
  try simp only [List.getElem_toArray, List.getElem_cons_zero, List.getElem_cons_succ, Act.put, List.setIfInBounds_toArray, List.set_cons_zero, List.set_cons_succ]
  refine wpAnyH_take (i := 5) (v := ?_) rfl (by kernel_rfl) (by kernel_rfl) (by kernel_rfl) (fun _ _ _ h => h) (Or.inl ⟨by rfl, ?_⟩) (by assumption) ?_
  case refine_2 => (intro w1 hS1; (try dsimp only at hS1); go_simp; try with_reducible rfl)
  try simp only [List.getElem_toArray, List.getElem_cons_zero, List.getElem_cons_succ, Act.put, List.setIfInBounds_toArray, List.set_cons_zero, List.set_cons_succ]
  refine wpAnyH_take (i := 6) (v := ?_) rfl (by kernel_rfl) (by kernel_rfl) (by kernel_rfl) (fun _ _ _ h => h) (Or.inl ⟨by rfl, ?_⟩) (by assumption) ?_
  case refine_2 => (intro w1 hS1; (try dsimp only at hS1); go_simp; try with_reducible rfl)
  try simp only [List.getElem_toArray, List.getElem_cons_zero, List.getElem_cons_succ, Act.put, List.setIfInBounds_toArray, List.set_cons_zero, List.set_cons_succ]
  refine wpAnyH_ready (rs := [7]) (by kernel_rfl) (by simp) ?_
  refine AllReadyH.cons rfl (fun K hK => ?_) AllReadyH.nil
  go_simp
  refine (hBG.out _ (by assumption)).mono ?_
  rintro e w8 ⟨l, f, cc, d, er, rfl, HRR, hb8, hS8⟩
  have t8 := (hb8.block (w.heap.size + 1 + 1) (show _ < w3.heap.size from z3)).trans HT.out
  obtain ⟨q0, q1, q2, q3, y0, y1, y2, y3⟩ := four_at t8
  have HT8 := Lib.hid t8
  have HB8 := Lib.hid hS8.2.2.2.2.2
  clear t8 hb8
  unfold stepV
  refine hK.out _ _ (hS8) (fun hHeld => ?_)
  clear hK K
  try simp only [List.getElem_toArray, List.getElem_cons_zero, List.getElem_cons_succ, Act.put, List.setIfInBounds_toArray, List.set_cons_zero, List.set_cons_succ]
  refine wpAnyH_take (i := 8) (v := ?_) rfl (by kernel_rfl) (by kernel_rfl) (by kernel_rfl) (fun _ _ _ h => h) (Or.inl ⟨by rfl, ?_⟩) (by assumption) ?_
  case refine_2 => (intro w1 hS1; (try dsimp only at hS1); go_simp; try with_reducible rfl)
  try simp only [List.getElem_toArray, List.getElem_cons_zero, List.getElem_cons_succ, Act.put, List.setIfInBounds_toArray, List.set_cons_zero, List.set_cons_succ]
  refine wpAnyH_take (i := 9) (v := ?_) rfl (by kernel_rfl) (by kernel_rfl) (by kernel_rfl) (fun _ _ _ h => h) (Or.inl ⟨by rfl, ?_⟩) (by assumption) ?_
  case refine_2 => (intro w1 hS1; (try dsimp only at hS1); go_simp; try with_reducible rfl)
  try simp only [List.getElem_toArray, List.getElem_cons_zero, List.getElem_cons_succ, Act.put, List.setIfInBounds_toArray, List.set_cons_zero, List.set_cons_succ]
  refine wpAnyH_ready (rs := [10]) (by kernel_rfl) (by simp) ?_
  refine AllReadyH.cons rfl (fun K hK => ?_) AllReadyH.nil
  go_simp
  refine hK.out _ _ (by obtain ⟨g0, g1, g2, g3, g4, g5⟩ := hHeld; exact ⟨(put4_other _ _ _ _ _ _ (by omega)).trans g0, (put4_other _ _ _ _ _ _ (by omega)).trans g1, (put4_other _ _ _ _ _ _ (by omega)).trans g2, (put4_other _ _ _ _ _ _ (by omega)).trans g3, (put4_other _ _ _ _ _ _ (by omega)).trans g4, below_put4 g5 (by omega) _ _ _ _⟩) (fun hHeld => ?_)
  clear hK K
  try simp only [List.getElem_toArray, List.getElem_cons_zero, List.getElem_cons_succ, Act.put, List.setIfInBounds_toArray, List.set_cons_zero, List.set_cons_succ]
  refine wpAnyH_take (i := 11) (v := ?_) rfl (by kernel_rfl) (by kernel_rfl) (by kernel_rfl) (fun _ _ _ h => h) (Or.inl ⟨by rfl, ?_⟩) (by assumption) ?_
  case refine_2 => (intro w1 hS1; (try dsimp only at hS1); go_simp; try with_reducible rfl)
  try simp only [List.getElem_toArray, List.getElem_cons_zero, List.getElem_cons_succ, Act.put, List.setIfInBounds_toArray, List.set_cons_zero, List.set_cons_succ]
  refine wpAnyH_done (by kernel_rfl) ?_ _
  go_wp2_with fail
  have ho := below_put4 HB8.out (N := w.heap.size + 1 + 1) (by omega) (.int .i64 l) (.int .i64 f) (.int .i64 cc) (.int .i64 d)
  obtain ⟨p0, p1, p2, p3⟩ := put4_cells HT8.out (.int .i64 l) (.int .i64 f) (.int .i64 cc) (.int .i64 d)
  unfold put4 at p0 p1 p2 p3 ho
  exact bodyPost_ret (v := .tuple #[.agg #[.int .i64 l, .int .i64 f, .int .i64 cc, .int .i64 d], .int .i64 er]) (by simp [results, Try.results14, go_sem, p0, p1, p2, p3]) rfl ⟨l, f, cc, d, er, rfl, HRR.out, ho⟩
end Go.Proofs.Ythnnbmofpmedhaa

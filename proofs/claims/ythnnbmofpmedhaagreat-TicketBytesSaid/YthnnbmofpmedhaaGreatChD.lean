/- The first step, both ways. -/
import Derived.Test.YthnnbmofpmedhaaGreatChC
namespace Go.Proofs.YthnnbmofpmedhaaGreat
open Go.RowKit
theorem Ran.case {D : Cal} {lv b now l f c d e : Int} (h : Ran D lv b now l f c d e) (hb : 0 < b) : 0 < D.n ∨ (l = 0 ∧ f = 0 ∧ c = 0 ∧ d = 0) := by
  have h0 := h
  obtain ⟨v, er, h1, h2⟩ := h
  rcases h2 with ⟨h2, _, _, _, _, h3⟩ | ⟨h2, h3, h4, h5, h6, _⟩
  · exact .inl (h0.n_pos hb h3)
  · exact .inr ⟨h3, h4, h5, h6⟩
theorem Ck.store {L : Loc} {D : Cal} {w0 w : World} {N : Nat} {t : TypeId} (h0 : Ck L D w0) (hN : w0.heap.size ≤ N) (h : Ck L D w) (hd : D.ok) (hz : w.heap[N]? = some (.cells #[.int .i64 0, .int .i64 0, .int .i64 0, .int .i64 0] t (0, 0))) (l f c d : Int) (hc : 0 < D.n ∨ (l = 0 ∧ f = 0 ∧ c = 0 ∧ d = 0)) :
    Ck L D (put4 w N (.int .i64 l) (.int .i64 f) (.int .i64 c) (.int .i64 d)) := by
  rcases hc with hn | ⟨rfl, rfl, rfl, rfl⟩
  · obtain ⟨_, u2, u3⟩ := put4_at hz (.int .i64 l) (.int .i64 f) (.int .i64 c) (.int .i64 d)
    exact h0.other hN h (h.ap0 hd hn (four_at hz).2.1) (fun k _ => u2 k) (by omega)
  · exact h.kept (put4_same hz)
set_option maxRecDepth 100000 in
set_option maxHeartbeats 4000000 in
theorem first_bad (k : Option Addr) (c : Int) (a : Option Addr) (n ca : Nat) (r b : Int) (B P : Nat → Int) (now : Int) (w : World) (hS : Sps w a n B P) (hg : goodC c n r b B P = false) :
    Calls Tryz.prog 72 #[.pointer k, conV c a n ca r b, .int .i64 now] w fun e w' => e = .returned (.tuple #[stepV 0 0 0 0, .int .i64 2]) ∧ Below w.heap.size w w' := by
  obtain ⟨B2, s0, s1, sz⟩ := box2 w #[.int .i64 c, .slice a n ca, .int .i64 r, .int .i64 b] #[.int .i64 0, .int .i64 0, .int .i64 0, .int .i64 0] 80 89
  obtain ⟨c0, c1, c2, c3, -⟩ := four_at s0
  have hck := check_any c a n ca r b B P ((w.alloc (.cells #[.int .i64 c, .slice a n ca, .int .i64 r, .int .i64 b] 80)).alloc (.cells #[.int .i64 0, .int .i64 0, .int .i64 0, .int .i64 0] 89)) (hS.kept B2)
  rw [hg] at hck
  have HB := Lib.hid B2
  have HS := Lib.hid (And.intro s1 sz)
  unfold stepV
  unfold conV at *
  clear B2 s0 s1 sz hS hg
  go_enter Tryz.func72, Tryz.ntmps72
  go_wp2_with fail
  generalize ((w.alloc (.cells #[.int .i64 c, .slice a n ca, .int .i64 r, .int .i64 b] 80)).alloc (.cells #[.int .i64 0, .int .i64 0, .int .i64 0, .int .i64 0] 89)) = W at HB HS hck c0 c1 c2 c3 ⊢
  refine hck.mono ?_
  rintro e w3 ⟨rfl, hb3⟩
  have t1 := (hb3.block (w.heap.size + 1) (by have := HS.out.2; omega)).trans HS.out.1
  have HB3 := Lib.hid (HB.out.trans (hb3.mono HB.out.size))
  obtain ⟨q0, q1, q2, q3, z0, z1, z2, z3⟩ := four_at t1
  have HT := Lib.hid t1
  clear hck hb3 t1 c0 c1 c2 c3
  simp only [errG]
  go_wp2_with fail
  have ho := below_put4 HB3.out (N := w.heap.size + 1) (by omega) (.int .i64 0) (.int .i64 0) (.int .i64 0) (.int .i64 0)
  obtain ⟨p0, p1, p2, p3⟩ := put4_cells HT.out (.int .i64 0) (.int .i64 0) (.int .i64 0) (.int .i64 0)
  unfold put4 at p0 p1 p2 p3 ho
  exact bodyPost_ret (v := .tuple #[.agg #[.int .i64 0, .int .i64 0, .int .i64 0, .int .i64 0], .int .i64 2]) (by simp [results, Tryz.results72, go_sem, p0, p1, p2, p3]) rfl ⟨rfl, ho⟩
set_option maxRecDepth 100000 in
set_option maxHeartbeats 4000000 in
theorem first_any {L : Loc} {D : Cal} {w : World} (h : Ck L D w) (hd : D.ok) (c : Int) (a : Option Addr) (n ca : Nat) (r b : Int) (B P : Nat → Int) (now : Int) (hS : Sps w a n B P) (hg : goodC c n r b B P = true) :
    Calls Tryz.prog 72 #[.pointer (some ⟨L.K, 0, none⟩), conV c a n ca r b, .int .i64 now] w (Gave L D w (Ran D 0 (B 0) now)) := by
  obtain ⟨B2, s0, s1, sz⟩ := box2 w #[.int .i64 c, .slice a n ca, .int .i64 r, .int .i64 b] #[.int .i64 0, .int .i64 0, .int .i64 0, .int .i64 0] 80 89
  obtain ⟨c0, c1, c2, c3, -⟩ := four_at s0
  have hck := check_any c a n ca r b B P ((w.alloc (.cells #[.int .i64 c, .slice a n ca, .int .i64 r, .int .i64 b] 80)).alloc (.cells #[.int .i64 0, .int .i64 0, .int .i64 0, .int .i64 0] 89)) (hS.kept B2)
  rw [hg] at hck
  obtain ⟨_, _, n1, n6, hlv⟩ := goodC_n hg
  obtain ⟨b1, b2, _, _⟩ := lvs_at hlv (show 0 < n by omega)
  have HB := Lib.hid B2
  have HS := Lib.hid (And.intro s1 (And.intro sz s0))
  have HR := Lib.hid (hS.kept B2)
  have H0 := Lib.hid h
  have HC := Lib.hid (h.kept B2)
  have HD := Lib.hid hd
  have hLC := h.pl.lt
  unfold conV at *
  clear B2 s0 s1 sz hS hg h hd hlv
  go_enter Tryz.func72, Tryz.ntmps72
  go_wp2_with fail
  generalize ((w.alloc (.cells #[.int .i64 c, .slice a n ca, .int .i64 r, .int .i64 b] 80)).alloc (.cells #[.int .i64 0, .int .i64 0, .int .i64 0, .int .i64 0] 89)) = W at HB HS HR HC hck c0 c1 c2 c3 ⊢
  refine hck.mono ?_
  rintro e w3 ⟨rfl, hb3⟩
  have t0 := (hb3.block w.heap.size (by have := HS.out.2.1; omega)).trans HS.out.2.2
  have t1 := (hb3.block (w.heap.size + 1) (by have := HS.out.2.1; omega)).trans HS.out.1
  have z3 := hb3.size
  have HB3 := Lib.hid (HB.out.trans (hb3.mono HB.out.size))
  have HC3 := Lib.hid (HC.out.kept hb3)
  obtain ⟨ab, ao, rfl, hab, d0, d1, e0, e1, _, _⟩ := HR.out.at hb3 0 (by omega)
  rw [Nat.zero_mul, Nat.add_zero] at d0
  obtain ⟨_, k1, _⟩ := four_at t0
  have HT := Lib.hid t1
  have n0 : (0 : Int) < (n : Int) := by omega
  obtain ⟨f0, hf0⟩ : ∃ f, B 0 = f := ⟨_, rfl⟩
  rw [hf0] at d0 b1 b2
  have HF := Lib.hid hf0
  clear hck hb3 t0 t1 c0 c1 c2 c3 d1 e0 e1 hf0
  simp only [errG]
  go_wp2_with fail
  refine (run_any HC3.out HD.out 0 0 f0 0 now (by omega) (by omega)).mono ?_
  rintro e w4 ⟨l, f, cc, d, er, rfl, hR, hC, ho⟩
  have t1 := (ho.block (w.heap.size + 1) (by have := HS.out.2.1; omega) (by show ¬ w.heap.size + 1 = L.C; omega)).trans HT.out
  have HO := Lib.hid ((Only.below (X := (· = L.C)) HB3.out).trans ho)
  have HC4 := Lib.hid hC
  have HRR := Lib.hid hR
  obtain ⟨q0, q1, q2, q3, y0, y1, y2, y3⟩ := four_at t1
  have HT := Lib.hid t1
  unfold stepV
  clear hR hC ho t1 d0 k1
  go_wp2_with fail
  have hk := H0.out.store (N := w.heap.size + 1) (by omega) HC4.out HD.out HT.out l f cc d (HRR.out.case (by omega))
  have ho := HO.out.put4 (N := w.heap.size + 1) (by omega) (.int .i64 l) (.int .i64 f) (.int .i64 cc) (.int .i64 d)
  obtain ⟨p0, p1, p2, p3⟩ := put4_cells HT.out (.int .i64 l) (.int .i64 f) (.int .i64 cc) (.int .i64 d)
  unfold put4 at p0 p1 p2 p3 hk ho
  exact bodyPost_ret (v := .tuple #[.agg #[.int .i64 l, .int .i64 f, .int .i64 cc, .int .i64 d], .int .i64 er]) (by simp [results, Tryz.results72, go_sem, p0, p1, p2, p3]) rfl ⟨l, f, cc, d, er, rfl, by rw [HF.out]; exact HRR.out, hk, ho⟩
end Go.Proofs.YthnnbmofpmedhaaGreat

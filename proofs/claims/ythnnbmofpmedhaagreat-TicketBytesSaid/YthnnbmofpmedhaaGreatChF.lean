/- The step behind a step: the program's. -/
import Derived.Test.YthnnbmofpmedhaaGreatChD
namespace Go.Proofs.YthnnbmofpmedhaaGreat
open Go.RowKit
/-- What Next tells of a contract that may be. -/
def Nxtd (D : Cal) (n : Nat) (B : Nat → Int) (lv now : Int) (l f c d : Int) (ok : Bool) (e : Int) : Prop :=
  (¬ (0 ≤ lv ∧ lv < n) ∧ l = 0 ∧ f = 0 ∧ c = 0 ∧ d = 0 ∧ ok = false ∧ e = 2) ∨ (0 ≤ lv ∧ lv + 1 = n ∧ l = 0 ∧ f = 0 ∧ c = 0 ∧ d = 0 ∧ ok = false ∧ e = 0) ∨ (0 ≤ lv ∧ lv + 1 < n ∧ Ran D (lv + 1) (B (lv + 1).toNat) now l f c d e ∧ ok = (e == 0))
theorem Nxtd.same {D : Cal} {n : Nat} {B : Nat → Int} {lv now l f c d e l' f' c' d' e' : Int} {ok ok' : Bool} (h : Nxtd D n B lv now l f c d ok e) (h' : Nxtd D n B lv now l' f' c' d' ok' e') : l = l' ∧ f = f' ∧ c = c' ∧ d = d' ∧ ok = ok' ∧ e = e' := by
  rcases h with ⟨h0, rfl, rfl, rfl, rfl, rfl, rfl⟩ | ⟨h0, h1, rfl, rfl, rfl, rfl, rfl, rfl⟩ | ⟨h0, h1, h2, rfl⟩ <;> rcases h' with ⟨k0, rfl, rfl, rfl, rfl, rfl, rfl⟩ | ⟨k0, k1, rfl, rfl, rfl, rfl, rfl, rfl⟩ | ⟨k0, k1, k2, rfl⟩ <;> first | exact ⟨rfl, rfl, rfl, rfl, rfl, rfl⟩ | omega | skip
  obtain ⟨rfl, rfl, rfl, rfl, rfl⟩ := h2.same k2
  exact ⟨rfl, rfl, rfl, rfl, rfl, rfl⟩
def Gave3 (L : Loc) (D : Cal) (w : World) (R : Int → Int → Int → Int → Bool → Int → Prop) (e : Ending) (w' : World) : Prop :=
  ∃ l f c d ok er, e = .returned (.tuple #[stepV l f c d, .bool ok, .int .i64 er]) ∧ R l f c d ok er ∧ Ck L D w' ∧ Only (· = L.C) w w'
def RGave3 (w : World) (R : Int → Int → Int → Int → Bool → Int → Prop) (e : Ending) (w' : World) : Prop :=
  ∃ l f c d ok er, e = .returned (.tuple #[stepV l f c d, .bool ok, .int .i64 er]) ∧ R l f c d ok er ∧ Below w.heap.size w w'
set_option maxRecDepth 100000 in
set_option maxHeartbeats 4000000 in
theorem next_bad (k : Option Addr) (c : Int) (a : Option Addr) (n ca : Nat) (r b : Int) (B P : Nat → Int) (lv x1 x2 x3 now : Int) (w : World) (hS : Sps w a n B P) (hg : goodC c n r b B P = false) :
    Calls Tryz.prog 76 #[.pointer k, conV c a n ca r b, stepV lv x1 x2 x3, .int .i64 now] w fun e w' => e = .returned (.tuple #[stepV 0 0 0 0, .bool false, .int .i64 2]) ∧ Below w.heap.size w w' := by
  obtain ⟨B2, s0, s1, s2, sz⟩ := box3 w #[.int .i64 c, .slice a n ca, .int .i64 r, .int .i64 b] #[.int .i64 lv, .int .i64 x1, .int .i64 x2, .int .i64 x3] #[.int .i64 0, .int .i64 0, .int .i64 0, .int .i64 0] 80 89 89
  obtain ⟨c0, c1, c2, c3, -⟩ := four_at s0
  have hck := check_any c a n ca r b B P (((w.alloc (.cells #[.int .i64 c, .slice a n ca, .int .i64 r, .int .i64 b] 80)).alloc (.cells #[.int .i64 lv, .int .i64 x1, .int .i64 x2, .int .i64 x3] 89)).alloc (.cells #[.int .i64 0, .int .i64 0, .int .i64 0, .int .i64 0] 89)) (hS.kept B2)
  rw [hg] at hck
  have HB := Lib.hid B2
  have HS := Lib.hid (And.intro s2 sz)
  unfold stepV at *
  unfold conV at *
  clear B2 s0 s1 s2 sz hS hg
  go_enter Tryz.func76, Tryz.ntmps76
  go_wp2_with fail
  generalize (((w.alloc (.cells #[.int .i64 c, .slice a n ca, .int .i64 r, .int .i64 b] 80)).alloc (.cells #[.int .i64 lv, .int .i64 x1, .int .i64 x2, .int .i64 x3] 89)).alloc (.cells #[.int .i64 0, .int .i64 0, .int .i64 0, .int .i64 0] 89)) = W at HB HS hck c0 c1 c2 c3 ⊢
  refine hck.mono ?_
  rintro e w3 ⟨rfl, hb3⟩
  have t1 := (hb3.block (w.heap.size + 1 + 1) (by have := HS.out.2; omega)).trans HS.out.1
  have HB3 := Lib.hid (HB.out.trans (hb3.mono HB.out.size))
  obtain ⟨q0, q1, q2, q3, z0, z1, z2, z3⟩ := four_at t1
  have HT := Lib.hid t1
  clear hck hb3 t1 c0 c1 c2 c3
  simp only [errG]
  go_wp2_with fail
  have ho := below_put4 HB3.out (N := w.heap.size + 1 + 1) (by omega) (.int .i64 0) (.int .i64 0) (.int .i64 0) (.int .i64 0)
  obtain ⟨p0, p1, p2, p3⟩ := put4_cells HT.out (.int .i64 0) (.int .i64 0) (.int .i64 0) (.int .i64 0)
  unfold put4 at p0 p1 p2 p3 ho
  exact bodyPost_ret (v := .tuple #[.agg #[.int .i64 0, .int .i64 0, .int .i64 0, .int .i64 0], .bool false, .int .i64 2]) (by simp [results, Tryz.results76, go_sem, p0, p1, p2, p3]) rfl ⟨rfl, ho⟩
set_option maxRecDepth 100000 in
set_option maxHeartbeats 4000000 in
theorem next_any {L : Loc} {D : Cal} {w : World} (h : Ck L D w) (hd : D.ok) (c : Int) (a : Option Addr) (n ca : Nat) (r b : Int) (B P : Nat → Int) (lv x1 x2 x3 now : Int) (hS : Sps w a n B P) (hg : goodC c n r b B P = true) :
    Calls Tryz.prog 76 #[.pointer (some ⟨L.K, 0, none⟩), conV c a n ca r b, stepV lv x1 x2 x3, .int .i64 now] w (Gave3 L D w (Nxtd D n B lv now)) := by
  obtain ⟨B2, s0, s1, s2, sz⟩ := box3 w #[.int .i64 c, .slice a n ca, .int .i64 r, .int .i64 b] #[.int .i64 lv, .int .i64 x1, .int .i64 x2, .int .i64 x3] #[.int .i64 0, .int .i64 0, .int .i64 0, .int .i64 0] 80 89 89
  obtain ⟨c0, c1, c2, c3, -⟩ := four_at s0
  have hck := check_any c a n ca r b B P (((w.alloc (.cells #[.int .i64 c, .slice a n ca, .int .i64 r, .int .i64 b] 80)).alloc (.cells #[.int .i64 lv, .int .i64 x1, .int .i64 x2, .int .i64 x3] 89)).alloc (.cells #[.int .i64 0, .int .i64 0, .int .i64 0, .int .i64 0] 89)) (hS.kept B2)
  rw [hg] at hck
  obtain ⟨_, _, n1, n6, hlv⟩ := goodC_n hg
  have HB := Lib.hid B2
  have HS := Lib.hid (And.intro s2 (And.intro sz (And.intro s0 s1)))
  have HR := Lib.hid (hS.kept B2)
  have H0 := Lib.hid h
  have HC := Lib.hid (h.kept B2)
  have HD := Lib.hid hd
  have HLV := Lib.hid hlv
  have hLC := h.pl.lt
  have e1 : IntKind.i64.wrap ((n : Int) - 1) = (n : Int) - 1 := IntWalk.i64_in _ (by omega)
  unfold stepV at *
  unfold conV at *
  clear B2 s0 s1 s2 sz hS hg h hd hlv
  go_enter Tryz.func76, Tryz.ntmps76
  go_wp2_with fail
  generalize (((w.alloc (.cells #[.int .i64 c, .slice a n ca, .int .i64 r, .int .i64 b] 80)).alloc (.cells #[.int .i64 lv, .int .i64 x1, .int .i64 x2, .int .i64 x3] 89)).alloc (.cells #[.int .i64 0, .int .i64 0, .int .i64 0, .int .i64 0] 89)) = W at HB HS HR HC hck c0 c1 c2 c3 ⊢
  refine hck.mono ?_
  rintro e w3 ⟨rfl, hb3⟩
  have t0 := (hb3.block w.heap.size (by have := HS.out.2.1; omega)).trans HS.out.2.2.1
  have t1 := (hb3.block (w.heap.size + 1) (by have := HS.out.2.1; omega)).trans HS.out.2.2.2
  have t2 := (hb3.block (w.heap.size + 1 + 1) (by have := HS.out.2.1; omega)).trans HS.out.1
  have z3 : w.heap.size + 1 + 1 < w3.heap.size := by have := hb3.size; have := HS.out.2.1; omega
  have HB3 := Lib.hid (HB.out.trans (hb3.mono HB.out.size))
  have HC3 := Lib.hid (HC.out.kept hb3)
  have HR3 := Lib.hid (HR.out.kept hb3)
  obtain ⟨_, k1, -⟩ := four_at t0
  obtain ⟨k2, -⟩ := four_at t1
  have HT := Lib.hid t2
  clear hck hb3 t0 t1 c0 c1 c2 c3
  simp only [errG]
  by_cases hin : 0 ≤ lv ∧ lv < n
  · obtain ⟨i0, i1⟩ := hin
    have d0 : decide (lv < 0) = false := decide_eq_false (by omega)
    have d1 : decide ((n : Int) - 1 < lv) = false := decide_eq_false (by omega)
    by_cases hla : lv + 1 = n
    · obtain rfl : lv = (n : Int) - 1 := by omega
      obtain ⟨q0, q1, q2, q3, y0, y1, y2, y3⟩ := four_at t2
      clear t2
      go_wp2_with fail
      have hk := HC3.out.kept (put4_same HT.out)
      have ho := (Only.below (X := (· = L.C)) HB3.out).put4 (N := w.heap.size + 1 + 1) (by omega) (.int .i64 0) (.int .i64 0) (.int .i64 0) (.int .i64 0)
      have hR : Nxtd D n B ((n : Int) - 1) now 0 0 0 0 false 0 := .inr (.inl ⟨i0, by omega, rfl, rfl, rfl, rfl, rfl, rfl⟩)
      obtain ⟨p0, p1, p2, p3⟩ := put4_cells HT.out (.int .i64 0) (.int .i64 0) (.int .i64 0) (.int .i64 0)
      unfold put4 at p0 p1 p2 p3 hk ho
      exact bodyPost_ret (v := .tuple #[.agg #[.int .i64 0, .int .i64 0, .int .i64 0, .int .i64 0], .bool false, .int .i64 0]) (by simp [results, Tryz.results76, go_sem, p0, p1, p2, p3]) rfl ⟨0, 0, 0, 0, false, 0, rfl, hR, hk, ho⟩
    · have d2 : (lv == (n : Int) - 1) = false := by simp; omega
      obtain ⟨ab, ao, rfl, hab, p0, _, e1', e2', _, _⟩ := HR3.out.at (Below.refl _ _) (lv + 1).toNat (by omega)
      obtain ⟨b1, b2, _, _⟩ := lvs_at HLV.out (show (lv + 1).toNat < n by omega)
      obtain ⟨u, hu⟩ : ∃ u, B (lv + 1).toNat = u := ⟨_, rfl⟩
      rw [hu] at p0 b1 b2
      have HU := Lib.hid hu
      obtain ⟨k, hk⟩ : ∃ k : Nat, lv + 1 = k := ⟨(lv + 1).toNat, by omega⟩
      have HK := Lib.hid hk
      have e3 : IntKind.i64.wrap (lv + 1) = (k : Int) := by rw [hk]; exact IntWalk.i64_in _ (by omega)
      rw [hk, Int.toNat_natCast] at p0
      have k0 : (0 : Int) ≤ (k : Int) := by omega
      have kn : (k : Int) < (n : Int) := by omega
      have kn' : k < n := by omega
      clear hu hk e1' e2' hab t2
      go_wp2_with fail
      refine (run_any HC3.out HD.out k 0 u 0 now (by omega) (by omega)).mono ?_
      rintro e w4 ⟨l, f, cc, d, er, rfl, hR, hC, ho⟩
      have t2 := (ho.block (w.heap.size + 1 + 1) z3 (by show ¬ w.heap.size + 1 + 1 = L.C; omega)).trans HT.out
      have HO := Lib.hid ((Only.below (X := (· = L.C)) HB3.out).trans ho)
      have HC4 := Lib.hid hC
      have HRR := Lib.hid hR
      have HZ := Lib.hid (Nat.lt_of_lt_of_le z3 ho.size)
      obtain ⟨bx, bn, bz⟩ := box1 w4 #[.int .i64 l, .int .i64 f, .int .i64 cc, .int .i64 d] 89
      have t3 := (heap_old w4 (.cells #[.int .i64 l, .int .i64 f, .int .i64 cc, .int .i64 d] 89) HZ.out).trans t2
      obtain ⟨q0, q1, q2, q3, y0, y1, y2, y3⟩ := four_at t3
      have HT4 := Lib.hid t3
      have HC5 := Lib.hid (HC4.out.kept bx)
      have HO5 := Lib.hid (HO.out.trans (Only.below (X := (· = L.C)) bx))
      obtain ⟨bf, ef⟩ : ∃ c, (er == 0) = c := ⟨_, rfl⟩
      have HE := Lib.hid ef
      unfold stepV
      clear hR hC ho t2 p0 k1 bx bn bz t3
      go_wp2_with fail
      have hk := H0.out.store (N := w.heap.size + 1 + 1) (by omega) HC5.out HD.out HT4.out l f cc d (HRR.out.case (by omega))
      have ho := HO5.out.put4 (N := w.heap.size + 1 + 1) (by omega) (.int .i64 l) (.int .i64 f) (.int .i64 cc) (.int .i64 d)
      have hR : Nxtd D n B lv now l f cc d bf er := .inr (.inr ⟨i0, by omega, by rw [HU.out, HK.out]; exact HRR.out, HE.out.symm⟩)
      obtain ⟨p0, p1, p2, p3⟩ := put4_cells HT4.out (.int .i64 l) (.int .i64 f) (.int .i64 cc) (.int .i64 d)
      unfold put4 at p0 p1 p2 p3 hk ho
      exact bodyPost_ret (v := .tuple #[.agg #[.int .i64 l, .int .i64 f, .int .i64 cc, .int .i64 d], .bool bf, .int .i64 er]) (by simp [results, Tryz.results76, go_sem, p0, p1, p2, p3]) rfl ⟨l, f, cc, d, bf, er, rfl, hR, hk, ho⟩
  · have hor : decide (lv < 0) = true ∨ (decide (lv < 0) = false ∧ decide ((n : Int) - 1 < lv) = true) := by
      by_cases h1 : lv < 0
      · exact .inl (decide_eq_true h1)
      · exact .inr ⟨decide_eq_false h1, decide_eq_true (by omega)⟩
    have hR : Nxtd D n B lv now 0 0 0 0 false 2 := .inl ⟨hin, rfl, rfl, rfl, rfl, rfl, rfl⟩
    have HRR := Lib.hid hR
    obtain ⟨q0, q1, q2, q3, y0, y1, y2, y3⟩ := four_at t2
    clear t2 hin hR
    rcases hor with d0 | ⟨d0, d1⟩
    all_goals
      go_wp2_with fail
      have hk := HC3.out.kept (put4_same HT.out)
      have ho := (Only.below (X := (· = L.C)) HB3.out).put4 (N := w.heap.size + 1 + 1) (by omega) (.int .i64 0) (.int .i64 0) (.int .i64 0) (.int .i64 0)
      obtain ⟨p0, p1, p2, p3⟩ := put4_cells HT.out (.int .i64 0) (.int .i64 0) (.int .i64 0) (.int .i64 0)
      unfold put4 at p0 p1 p2 p3 hk ho
      exact bodyPost_ret (v := .tuple #[.agg #[.int .i64 0, .int .i64 0, .int .i64 0, .int .i64 0], .bool false, .int .i64 2]) (by simp [results, Tryz.results76, go_sem, p0, p1, p2, p3]) rfl ⟨0, 0, 0, 0, false, 2, rfl, HRR.out, hk, ho⟩

end Go.Proofs.YthnnbmofpmedhaaGreat

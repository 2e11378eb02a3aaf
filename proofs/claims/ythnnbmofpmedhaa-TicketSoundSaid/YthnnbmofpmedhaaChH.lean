/- A step that stands, and one that goes on, both ways. -/
import Derived.Test.YthnnbmofpmedhaaChE
namespace Go.Proofs.Ythnnbmofpmedhaa
open Go.RowKit
def Went (D : Cal) (lv b d now : Int) (l f c x e : Int) : Prop :=
  (d ≠ 0 ∧ l = 0 ∧ f = 0 ∧ c = 0 ∧ x = 0 ∧ e = 33) ∨ (d = 0 ∧ b < 1 ∧ l = 0 ∧ f = 0 ∧ c = 0 ∧ x = 0 ∧ e = 2) ∨ (d = 0 ∧ 1 ≤ b ∧ Ran D lv b now l f c x e)
theorem Went.same {D : Cal} {lv b d now l f c x e l' f' c' x' e' : Int} (h : Went D lv b d now l f c x e) (h' : Went D lv b d now l' f' c' x' e') : l = l' ∧ f = f' ∧ c = c' ∧ x = x' ∧ e = e' := by
  rcases h with ⟨h0, rfl, rfl, rfl, rfl, rfl⟩ | ⟨h0, h1, rfl, rfl, rfl, rfl, rfl⟩ | ⟨h0, h1, h2⟩ <;> rcases h' with ⟨k0, rfl, rfl, rfl, rfl, rfl⟩ | ⟨k0, k1, rfl, rfl, rfl, rfl, rfl⟩ | ⟨k0, k1, k2⟩ <;> first | exact ⟨rfl, rfl, rfl, rfl, rfl⟩ | omega | exact h2.same k2
def RestIs (D : Cal) (x b y v e : Int) : Prop := ((b < 0 ∨ ¬ (instB x = true ∧ instB y = true ∧ x ≤ y)) ∧ v = 0 ∧ e = 2) ∨ (0 ≤ b ∧ (instB x = true ∧ instB y = true ∧ x ≤ y) ∧ v = max 0 (b - (D.g y - D.g x)) ∧ e = 0)
theorem RestIs.same {D : Cal} {x b y v e v' e' : Int} (h : RestIs D x b y v e) (h' : RestIs D x b y v' e') : v = v' ∧ e = e' := by
  rcases h with ⟨h1, rfl, rfl⟩ | ⟨h0, h1, rfl, rfl⟩ <;> rcases h' with ⟨k1, rfl, rfl⟩ | ⟨k0, k1, rfl, rfl⟩
  · exact ⟨rfl, rfl⟩
  · rcases h1 with h1 | h1
    · omega
    · exact absurd k1 h1
  · rcases k1 with k1 | k1
    · omega
    · exact absurd h1 k1
  · exact ⟨rfl, rfl⟩
theorem prest {L : Loc} {D : Cal} {w : World} (h : Ck L D w) (hd : D.ok) (x b y : Int) (b1 : b ≤ 9223372036854775807) : ∃ v e, RestIs D x b y v e ∧ Calls Try.prog 44 #[.pointer (some ⟨L.K, 0, none⟩), .int .i64 x, .int .i64 b, .int .i64 y] w (Asks L D (.tuple #[.int .i64 v, .int .i64 e]) w) := by
  by_cases b0 : b < 0
  · refine ⟨0, 2, .inl ⟨.inl b0, rfl, rfl⟩, (rest_arg h x b y b0).mono ?_⟩
    rintro en w' ⟨rfl, hb⟩
    exact ⟨rfl, h.kept hb, Only.below hb⟩
  · by_cases hb : instB x = true ∧ instB y = true ∧ x ≤ y
    · obtain ⟨x0, _⟩ := (instB_iff x).1 hb.1
      obtain ⟨_, y1⟩ := (instB_iff y).1 hb.2.1
      exact ⟨_, _, .inr ⟨by omega, hb, rfl, rfl⟩, rest_ok h hd x b y x0 hb.2.2 y1 (by omega) b1⟩
    · refine ⟨0, 2, .inl ⟨.inr hb, rfl, rfl⟩, (rest_bad h x b y b0 hb).mono ?_⟩
      rintro en w' ⟨rfl, hb⟩
      exact ⟨rfl, h.kept hb, Only.below hb⟩
theorem rrest {D : Cal} (hd : D.ok) (a : Option Addr) (ca : Nat) (b' : Option Addr) (cb : Nat) (x b y : Int) (w : World) (hS : Sps w a D.n D.F D.T) (hR : Sps w b' D.m D.G D.U) (b1 : b ≤ 9223372036854775807) :
    ∃ v e, RestIs D x b y v e ∧ Calls Try.prog 45 #[calV D.off a D.n ca b' D.m cb, .int .i64 x, .int .i64 b, .int .i64 y] w fun en w' => en = .returned (.tuple #[.int .i64 v, .int .i64 e]) ∧ Below w.heap.size w w' := by
  by_cases b0 : b < 0
  · exact ⟨0, 2, .inl ⟨.inl b0, rfl, rfl⟩, rrest_arg hd a ca b' cb x b y w hS hR b0⟩
  · by_cases hb : instB x = true ∧ instB y = true ∧ x ≤ y
    · obtain ⟨x0, _⟩ := (instB_iff x).1 hb.1
      obtain ⟨_, y1⟩ := (instB_iff y).1 hb.2.1
      exact ⟨_, _, .inr ⟨by omega, hb, rfl, rfl⟩, rrest_ok hd a ca b' cb x b y w hS hR x0 hb.2.2 y1 (by omega) b1⟩
    · exact ⟨0, 2, .inl ⟨.inr hb, rfl, rfl⟩, rrest_bad hd a ca b' cb x b y w hS hR b0 hb⟩
def Stood (D : Cal) (lv fr b d now : Int) (l f c x e : Int) : Prop :=
  (d = 0 ∧ l = 0 ∧ f = 0 ∧ c = 0 ∧ x = 0 ∧ e = 33) ∨ (d ≠ 0 ∧ d ≤ now ∧ l = 0 ∧ f = 0 ∧ c = 0 ∧ x = 0 ∧ e = 34) ∨
  (d ≠ 0 ∧ now < d ∧ ∃ v er, RestIs D fr b now v er ∧ ((er = 0 ∧ l = lv ∧ f = now ∧ c = v ∧ x = 0 ∧ e = 0) ∨ (er ≠ 0 ∧ l = 0 ∧ f = 0 ∧ c = 0 ∧ x = 0 ∧ e = er)))
theorem Stood.same {D : Cal} {lv fr b d now l f c x e l' f' c' x' e' : Int} (h : Stood D lv fr b d now l f c x e) (h' : Stood D lv fr b d now l' f' c' x' e') : l = l' ∧ f = f' ∧ c = c' ∧ x = x' ∧ e = e' := by
  rcases h with ⟨h0, rfl, rfl, rfl, rfl, rfl⟩ | ⟨h0, h1, rfl, rfl, rfl, rfl, rfl⟩ | ⟨h0, h1, v, er, h2, h3⟩ <;> rcases h' with ⟨k0, rfl, rfl, rfl, rfl, rfl⟩ | ⟨k0, k1, rfl, rfl, rfl, rfl, rfl⟩ | ⟨k0, k1, v', er', k2, k3⟩ <;> first | exact ⟨rfl, rfl, rfl, rfl, rfl⟩ | omega | skip
  obtain ⟨rfl, rfl⟩ := h2.same k2
  rcases h3 with ⟨h3, rfl, rfl, rfl, rfl, rfl⟩ | ⟨h3, rfl, rfl, rfl, rfl, rfl⟩ <;> rcases k3 with ⟨k3, rfl, rfl, rfl, rfl, rfl⟩ | ⟨k3, rfl, rfl, rfl, rfl, rfl⟩
  · exact ⟨rfl, rfl, rfl, rfl, rfl⟩
  · exact absurd h3 k3
  · exact absurd k3 h3
  · exact ⟨rfl, rfl, rfl, rfl, rfl⟩
def GaveC (C : Prop) (L : Loc) (D : Cal) (w : World) (R : Int → Int → Int → Int → Int → Prop) (e : Ending) (w' : World) : Prop :=
  ∃ l f c d er, e = .returned (.tuple #[stepV l f c d, .int .i64 er]) ∧ R l f c d er ∧ (C → Ck L D w') ∧ Only (· = L.C) w w'
set_option maxRecDepth 100000 in
set_option maxHeartbeats 4000000 in
theorem go_any {L : Loc} {D : Cal} {w : World} (h : Ck L D w) (hd : D.ok) (lv fr b d now : Int) (b1 : b ≤ 9223372036854775807) :
    Calls Try.prog 19 #[.pointer (some ⟨L.K, 0, none⟩), stepV lv fr b d, .int .i64 now] w (Gave L D w (Went D lv b d now)) := by
  obtain ⟨B2, s0, s1, sz⟩ := box2 w #[.int .i64 lv, .int .i64 fr, .int .i64 b, .int .i64 d] #[.int .i64 0, .int .i64 0, .int .i64 0, .int .i64 0] 29 29
  obtain ⟨c0, c1, c2, c3, -⟩ := four_at s0
  obtain ⟨q0, q1, q2, q3, y0, y1, y2, y3⟩ := four_at s1
  have HB := Lib.hid B2
  have HT := Lib.hid s1
  have HZ := Lib.hid sz
  have H0 := Lib.hid h
  have HC := Lib.hid (h.kept B2)
  have HD := Lib.hid hd
  have hLC := h.pl.lt
  unfold stepV
  clear B2 s0 s1 sz h hd
  by_cases hd0 : d = 0
  · have d0 : (d != 0) = false := by simpa using hd0
    have HD0 := Lib.hid hd0
    clear hd0
    by_cases hb : b < 1
    · have d1 : decide (b < 1) = true := decide_eq_true hb
      go_enter Try.func19, Try.ntmps19
      go_wp2_with fail
      exact bodyPost_ret (v := .tuple #[.agg #[.int .i64 0, .int .i64 0, .int .i64 0, .int .i64 0], .int .i64 2]) (by simp [results, Try.results19, go_sem, q0, q1, q2, q3]) rfl ⟨0, 0, 0, 0, 2, rfl, .inr (.inl ⟨HD0.out, hb, rfl, rfl, rfl, rfl, rfl⟩), HC.out, Only.below (X := (· = L.C)) HB.out⟩
    · have d1 : decide (b < 1) = false := decide_eq_false hb
      go_enter Try.func19, Try.ntmps19
      go_wp2_with fail
      generalize ((w.alloc (.cells #[.int .i64 lv, .int .i64 fr, .int .i64 b, .int .i64 d] 29)).alloc (.cells #[.int .i64 0, .int .i64 0, .int .i64 0, .int .i64 0] 29)) = W at HB HT HC HZ c0 c1 c2 c3 q0 q1 q2 q3 y0 y1 y2 y3 ⊢
      refine (run_any HC.out HD.out lv fr b d now (by omega) b1).mono ?_
      rintro e w4 ⟨l, f, cc, x, er, rfl, hR, hC, ho⟩
      have t1 := (ho.block (w.heap.size + 1) (by have := HZ.out; omega) (by show ¬ w.heap.size + 1 = L.C; omega)).trans HT.out
      have HO := Lib.hid ((Only.below (X := (· = L.C)) HB.out).trans ho)
      have HC4 := Lib.hid hC
      have HRR := Lib.hid hR
      clear q0 q1 q2 q3 y0 y1 y2 y3 c0 c1 c2 c3
      obtain ⟨q0, q1, q2, q3, y0, y1, y2, y3⟩ := four_at t1
      have HT4 := Lib.hid t1
      unfold stepV
      clear hR hC ho t1
      go_wp2_with fail
      have hk := H0.out.store (N := w.heap.size + 1) (by omega) HC4.out HD.out HT4.out l f cc x (HRR.out.case (by omega))
      have ho := HO.out.put4 (N := w.heap.size + 1) (by omega) (.int .i64 l) (.int .i64 f) (.int .i64 cc) (.int .i64 x)
      obtain ⟨p0, p1, p2, p3⟩ := put4_cells HT4.out (.int .i64 l) (.int .i64 f) (.int .i64 cc) (.int .i64 x)
      unfold put4 at p0 p1 p2 p3 hk ho
      exact bodyPost_ret (v := .tuple #[.agg #[.int .i64 l, .int .i64 f, .int .i64 cc, .int .i64 x], .int .i64 er]) (by simp [results, Try.results19, go_sem, p0, p1, p2, p3]) rfl ⟨l, f, cc, x, er, rfl, .inr (.inr ⟨HD0.out, by omega, HRR.out⟩), hk, ho⟩
  · have d0 : (d != 0) = true := by simpa using hd0
    go_enter Try.func19, Try.ntmps19
    go_wp2_with fail
    exact bodyPost_ret (v := .tuple #[.agg #[.int .i64 0, .int .i64 0, .int .i64 0, .int .i64 0], .int .i64 33]) (by simp [results, Try.results19, go_sem, q0, q1, q2, q3]) rfl ⟨0, 0, 0, 0, 33, rfl, .inl ⟨hd0, rfl, rfl, rfl, rfl, rfl⟩, HC.out, Only.below (X := (· = L.C)) HB.out⟩
set_option maxRecDepth 100000 in
set_option maxHeartbeats 4000000 in
theorem stand_any {L : Loc} {D : Cal} {w : World} (h : Ck L D w) (hd : D.ok) (lv fr b d now : Int) (b1 : b ≤ 9223372036854775807) :
    Calls Try.prog 17 #[.pointer (some ⟨L.K, 0, none⟩), stepV lv fr b d, .int .i64 now] w (GaveC (0 < D.n ∨ d = 0) L D w (Stood D lv fr b d now)) := by
  obtain ⟨B2, s0, s1, sz⟩ := box2 w #[.int .i64 lv, .int .i64 fr, .int .i64 b, .int .i64 d] #[.int .i64 0, .int .i64 0, .int .i64 0, .int .i64 0] 29 29
  obtain ⟨c0, c1, c2, c3, -⟩ := four_at s0
  obtain ⟨q0, q1, q2, q3, y0, y1, y2, y3⟩ := four_at s1
  have HB := Lib.hid B2
  have HT := Lib.hid s1
  have HS0 := Lib.hid s0
  have HZ := Lib.hid sz
  have H0 := Lib.hid h
  have HC := Lib.hid (h.kept B2)
  have HD := Lib.hid hd
  have hLC := h.pl.lt
  unfold stepV
  clear B2 s0 s1 sz h hd
  by_cases hd0 : d = 0
  · have d0 : (d == 0) = true := by simpa using hd0
    have HD0 := Lib.hid hd0
    clear hd0
    go_enter Try.func17, Try.ntmps17
    go_wp2_with fail
    exact bodyPost_ret (v := .tuple #[.agg #[.int .i64 0, .int .i64 0, .int .i64 0, .int .i64 0], .int .i64 33]) (by simp [results, Try.results17, go_sem, q0, q1, q2, q3]) rfl ⟨0, 0, 0, 0, 33, rfl, .inl ⟨HD0.out, rfl, rfl, rfl, rfl, rfl⟩, fun _ => HC.out, Only.below (X := (· = L.C)) HB.out⟩
  · have d0 : (d == 0) = false := by simpa using hd0
    by_cases hnow : d ≤ now
    · have d1 : decide (d ≤ now) = true := decide_eq_true hnow
      go_enter Try.func17, Try.ntmps17
      go_wp2_with fail
      exact bodyPost_ret (v := .tuple #[.agg #[.int .i64 0, .int .i64 0, .int .i64 0, .int .i64 0], .int .i64 34]) (by simp [results, Try.results17, go_sem, q0, q1, q2, q3]) rfl ⟨0, 0, 0, 0, 34, rfl, .inr (.inl ⟨hd0, hnow, rfl, rfl, rfl, rfl, rfl⟩), fun _ => HC.out, Only.below (X := (· = L.C)) HB.out⟩
    · have d1 : decide (d ≤ now) = false := decide_eq_false hnow
      go_enter Try.func17, Try.ntmps17
      go_wp2_with fail
      generalize ((w.alloc (.cells #[.int .i64 lv, .int .i64 fr, .int .i64 b, .int .i64 d] 29)).alloc (.cells #[.int .i64 0, .int .i64 0, .int .i64 0, .int .i64 0] 29)) = W at HB HT HS0 HC HZ c0 c1 c2 c3 q0 q1 q2 q3 y0 y1 y2 y3 ⊢
      obtain ⟨v, er, hri, hre⟩ := prest HC.out HD.out fr b now b1
      refine hre.mono ?_
      rintro e w4 ⟨rfl, hC, ho⟩
      have t0 := (ho.block w.heap.size (by have := HZ.out; omega) (by show ¬ w.heap.size = L.C; omega)).trans HS0.out
      have t1 := (ho.block (w.heap.size + 1) (by have := HZ.out; omega) (by show ¬ w.heap.size + 1 = L.C; omega)).trans HT.out
      have HO := Lib.hid ((Only.below (X := (· = L.C)) HB.out).trans ho)
      have HC4 := Lib.hid hC
      have HRI := Lib.hid hri
      clear q0 q1 q2 q3 y0 y1 y2 y3 c0 c1 c2 c3
      obtain ⟨c0, -⟩ := four_at t0
      obtain ⟨q0, q1, q2, q3, y0, y1, y2, y3⟩ := four_at t1
      have HT4 := Lib.hid t1
      obtain ⟨bf, ef⟩ : ∃ c, (er != 0) = c := ⟨_, rfl⟩
      clear hri hre hC ho t0 t1
      cases bf
      · obtain rfl : er = 0 := by simpa using ef
        clear ef
        go_wp2_with fail
        have hk : (0 < D.n ∨ d = 0) → Ck L D (put4 w4 (w.heap.size + 1) (.int .i64 lv) (.int .i64 now) (.int .i64 v) (.int .i64 0)) := fun hh => H0.out.store (N := w.heap.size + 1) (by omega) HC4.out HD.out HT4.out lv now v 0 (.inl (hh.resolve_right hd0))
        have ho := HO.out.put4 (N := w.heap.size + 1) (by omega) (.int .i64 lv) (.int .i64 now) (.int .i64 v) (.int .i64 0)
        obtain ⟨p0, p1, p2, p3⟩ := put4_cells HT4.out (.int .i64 lv) (.int .i64 now) (.int .i64 v) (.int .i64 0)
        unfold put4 at p0 p1 p2 p3 hk ho
        exact bodyPost_ret (v := .tuple #[.agg #[.int .i64 lv, .int .i64 now, .int .i64 v, .int .i64 0], .int .i64 0]) (by simp [results, Try.results17, go_sem, p0, p1, p2, p3]) rfl ⟨lv, now, v, 0, 0, rfl, .inr (.inr ⟨hd0, by omega, v, 0, HRI.out, .inl ⟨rfl, rfl, rfl, rfl, rfl, rfl⟩⟩), hk, ho⟩
      · have HE := Lib.hid (show er ≠ 0 by simpa using ef)
        go_wp2_with fail
        have hk := HC4.out.kept (put4_same HT4.out)
        have ho := HO.out.put4 (N := w.heap.size + 1) (by omega) (.int .i64 0) (.int .i64 0) (.int .i64 0) (.int .i64 0)
        obtain ⟨p0, p1, p2, p3⟩ := put4_cells HT4.out (.int .i64 0) (.int .i64 0) (.int .i64 0) (.int .i64 0)
        unfold put4 at p0 p1 p2 p3 hk ho
        exact bodyPost_ret (v := .tuple #[.agg #[.int .i64 0, .int .i64 0, .int .i64 0, .int .i64 0], .int .i64 er]) (by simp [results, Try.results17, go_sem, p0, p1, p2, p3]) rfl ⟨0, 0, 0, 0, er, rfl, .inr (.inr ⟨hd0, by omega, v, er, HRI.out, .inr ⟨HE.out, rfl, rfl, rfl, rfl, rfl⟩⟩), fun _ => hk, ho⟩
set_option maxRecDepth 100000 in
set_option maxHeartbeats 4000000 in
theorem rgo_any {D : Cal} (hd : D.ok) (a0 : Option Addr) (ca0 : Nat) (b0 : Option Addr) (cb0 : Nat) (lv fr b d now : Int) (w : World) (hS : Sps w a0 D.n D.F D.T) (hR : Sps w b0 D.m D.G D.U) (b1 : b ≤ 9223372036854775807) :
    Calls Try.prog 20 #[calV D.off a0 D.n ca0 b0 D.m cb0, stepV lv fr b d, .int .i64 now] w (RGave w (Went D lv b d now)) := by
  obtain ⟨B2, s0, s1, s2, sz⟩ := box3 w #[.int .i64 D.off, .slice a0 D.n ca0, .slice b0 D.m cb0] #[.int .i64 lv, .int .i64 fr, .int .i64 b, .int .i64 d] #[.int .i64 0, .int .i64 0, .int .i64 0, .int .i64 0] 24 39 39
  obtain ⟨c0, c1, c2, c3, -⟩ := four_at s1
  obtain ⟨q0, q1, q2, q3, y0, y1, y2, y3⟩ := four_at s2
  obtain ⟨j0, j1, j2⟩ : ((((w.alloc (.cells #[.int .i64 D.off, .slice a0 D.n ca0, .slice b0 D.m cb0] 24)).alloc (.cells #[.int .i64 lv, .int .i64 fr, .int .i64 b, .int .i64 d] 39)).alloc (.cells #[.int .i64 0, .int .i64 0, .int .i64 0, .int .i64 0] 39))).cell? ⟨w.heap.size, 0, none⟩ = some (.int .i64 D.off) ∧ ((((w.alloc (.cells #[.int .i64 D.off, .slice a0 D.n ca0, .slice b0 D.m cb0] 24)).alloc (.cells #[.int .i64 lv, .int .i64 fr, .int .i64 b, .int .i64 d] 39)).alloc (.cells #[.int .i64 0, .int .i64 0, .int .i64 0, .int .i64 0] 39))).cell? ⟨w.heap.size, 1, none⟩ = some (.slice a0 D.n ca0) ∧ ((((w.alloc (.cells #[.int .i64 D.off, .slice a0 D.n ca0, .slice b0 D.m cb0] 24)).alloc (.cells #[.int .i64 lv, .int .i64 fr, .int .i64 b, .int .i64 d] 39)).alloc (.cells #[.int .i64 0, .int .i64 0, .int .i64 0, .int .i64 0] 39))).cell? ⟨w.heap.size, 2, none⟩ = some (.slice b0 D.m cb0) := ⟨cells_heap s0 0, cells_heap s0 1, cells_heap s0 2⟩
  have HB := Lib.hid B2
  have HT := Lib.hid s2
  have HZ := Lib.hid sz
  have HBG := Lib.hid (begin_any hd a0 ca0 b0 cb0 lv b now (((w.alloc (.cells #[.int .i64 D.off, .slice a0 D.n ca0, .slice b0 D.m cb0] 24)).alloc (.cells #[.int .i64 lv, .int .i64 fr, .int .i64 b, .int .i64 d] 39)).alloc (.cells #[.int .i64 0, .int .i64 0, .int .i64 0, .int .i64 0] 39)) (hS.kept B2) (hR.kept B2) b1)
  unfold stepV
  unfold calV at *
  clear B2 s0 s1 s2 sz hd hS hR
  by_cases hd0 : d = 0
  · have d0 : (d != 0) = false := by simpa using hd0
    have HD0 := Lib.hid hd0
    clear hd0
    by_cases hb : b < 1
    · have d1 : decide (b < 1) = true := decide_eq_true hb
      go_enter Try.func20, Try.ntmps20
      go_wp2_with fail
      exact bodyPost_ret (v := .tuple #[.agg #[.int .i64 0, .int .i64 0, .int .i64 0, .int .i64 0], .int .i64 2]) (by simp [results, Try.results20, go_sem, q0, q1, q2, q3]) rfl ⟨0, 0, 0, 0, 2, rfl, .inr (.inl ⟨HD0.out, hb, rfl, rfl, rfl, rfl, rfl⟩), HB.out⟩
    · have d1 : decide (b < 1) = false := decide_eq_false hb
      go_enter Try.func20, Try.ntmps20
      go_wp2_with fail
      generalize (((w.alloc (.cells #[.int .i64 D.off, .slice a0 D.n ca0, .slice b0 D.m cb0] 24)).alloc (.cells #[.int .i64 lv, .int .i64 fr, .int .i64 b, .int .i64 d] 39)).alloc (.cells #[.int .i64 0, .int .i64 0, .int .i64 0, .int .i64 0] 39)) = W at HB HT HBG HZ c0 c1 c2 c3 q0 q1 q2 q3 y0 y1 y2 y3 j0 j1 j2 ⊢
      refine HBG.out.mono ?_
      rintro e w4 ⟨l, f, cc, x, er, rfl, hR, hb4⟩
      have t1 := (hb4.block (w.heap.size + 1 + 1) (by have := HZ.out; omega)).trans HT.out
      have HB4 := Lib.hid (HB.out.trans (hb4.mono HB.out.size))
      have HRR := Lib.hid hR
      clear q0 q1 q2 q3 y0 y1 y2 y3 c0 c1 c2 c3 j0 j1 j2
      obtain ⟨q0, q1, q2, q3, y0, y1, y2, y3⟩ := four_at t1
      have HT4 := Lib.hid t1
      unfold stepV
      clear hR hb4 t1
      go_wp2_with fail
      have ho := below_put4 HB4.out (N := w.heap.size + 1 + 1) (by omega) (.int .i64 l) (.int .i64 f) (.int .i64 cc) (.int .i64 x)
      obtain ⟨p0, p1, p2, p3⟩ := put4_cells HT4.out (.int .i64 l) (.int .i64 f) (.int .i64 cc) (.int .i64 x)
      unfold put4 at p0 p1 p2 p3 ho
      exact bodyPost_ret (v := .tuple #[.agg #[.int .i64 l, .int .i64 f, .int .i64 cc, .int .i64 x], .int .i64 er]) (by simp [results, Try.results20, go_sem, p0, p1, p2, p3]) rfl ⟨l, f, cc, x, er, rfl, .inr (.inr ⟨HD0.out, by omega, HRR.out⟩), ho⟩
  · have d0 : (d != 0) = true := by simpa using hd0
    go_enter Try.func20, Try.ntmps20
    go_wp2_with fail
    exact bodyPost_ret (v := .tuple #[.agg #[.int .i64 0, .int .i64 0, .int .i64 0, .int .i64 0], .int .i64 33]) (by simp [results, Try.results20, go_sem, q0, q1, q2, q3]) rfl ⟨0, 0, 0, 0, 33, rfl, .inl ⟨hd0, rfl, rfl, rfl, rfl, rfl⟩, HB.out⟩
set_option maxRecDepth 100000 in
set_option maxHeartbeats 4000000 in
theorem rstand_any {D : Cal} (hd : D.ok) (a0 : Option Addr) (ca0 : Nat) (b0 : Option Addr) (cb0 : Nat) (lv fr b d now : Int) (w : World) (hS : Sps w a0 D.n D.F D.T) (hR : Sps w b0 D.m D.G D.U) (b1 : b ≤ 9223372036854775807) :
    Calls Try.prog 18 #[calV D.off a0 D.n ca0 b0 D.m cb0, stepV lv fr b d, .int .i64 now] w (RGave w (Stood D lv fr b d now)) := by
  obtain ⟨B2, s0, s1, s2, sz⟩ := box3 w #[.int .i64 D.off, .slice a0 D.n ca0, .slice b0 D.m cb0] #[.int .i64 lv, .int .i64 fr, .int .i64 b, .int .i64 d] #[.int .i64 0, .int .i64 0, .int .i64 0, .int .i64 0] 24 39 39
  obtain ⟨c0, c1, c2, c3, -⟩ := four_at s1
  obtain ⟨q0, q1, q2, q3, y0, y1, y2, y3⟩ := four_at s2
  obtain ⟨j0, j1, j2⟩ : ((((w.alloc (.cells #[.int .i64 D.off, .slice a0 D.n ca0, .slice b0 D.m cb0] 24)).alloc (.cells #[.int .i64 lv, .int .i64 fr, .int .i64 b, .int .i64 d] 39)).alloc (.cells #[.int .i64 0, .int .i64 0, .int .i64 0, .int .i64 0] 39))).cell? ⟨w.heap.size, 0, none⟩ = some (.int .i64 D.off) ∧ ((((w.alloc (.cells #[.int .i64 D.off, .slice a0 D.n ca0, .slice b0 D.m cb0] 24)).alloc (.cells #[.int .i64 lv, .int .i64 fr, .int .i64 b, .int .i64 d] 39)).alloc (.cells #[.int .i64 0, .int .i64 0, .int .i64 0, .int .i64 0] 39))).cell? ⟨w.heap.size, 1, none⟩ = some (.slice a0 D.n ca0) ∧ ((((w.alloc (.cells #[.int .i64 D.off, .slice a0 D.n ca0, .slice b0 D.m cb0] 24)).alloc (.cells #[.int .i64 lv, .int .i64 fr, .int .i64 b, .int .i64 d] 39)).alloc (.cells #[.int .i64 0, .int .i64 0, .int .i64 0, .int .i64 0] 39))).cell? ⟨w.heap.size, 2, none⟩ = some (.slice b0 D.m cb0) := ⟨cells_heap s0 0, cells_heap s0 1, cells_heap s0 2⟩
  have HB := Lib.hid B2
  have HT := Lib.hid s2
  have HS1 := Lib.hid s1
  have HZ := Lib.hid sz
  have HBG := Lib.hid (rrest hd a0 ca0 b0 cb0 fr b now (((w.alloc (.cells #[.int .i64 D.off, .slice a0 D.n ca0, .slice b0 D.m cb0] 24)).alloc (.cells #[.int .i64 lv, .int .i64 fr, .int .i64 b, .int .i64 d] 39)).alloc (.cells #[.int .i64 0, .int .i64 0, .int .i64 0, .int .i64 0] 39)) (hS.kept B2) (hR.kept B2) b1)
  unfold stepV
  unfold calV at *
  clear B2 s0 s1 s2 sz hd hS hR
  by_cases hd0 : d = 0
  · have d0 : (d == 0) = true := by simpa using hd0
    have HD0 := Lib.hid hd0
    clear hd0
    go_enter Try.func18, Try.ntmps18
    go_wp2_with fail
    exact bodyPost_ret (v := .tuple #[.agg #[.int .i64 0, .int .i64 0, .int .i64 0, .int .i64 0], .int .i64 33]) (by simp [results, Try.results18, go_sem, q0, q1, q2, q3]) rfl ⟨0, 0, 0, 0, 33, rfl, .inl ⟨HD0.out, rfl, rfl, rfl, rfl, rfl⟩, HB.out⟩
  · have d0 : (d == 0) = false := by simpa using hd0
    by_cases hnow : d ≤ now
    · have d1 : decide (d ≤ now) = true := decide_eq_true hnow
      go_enter Try.func18, Try.ntmps18
      go_wp2_with fail
      exact bodyPost_ret (v := .tuple #[.agg #[.int .i64 0, .int .i64 0, .int .i64 0, .int .i64 0], .int .i64 34]) (by simp [results, Try.results18, go_sem, q0, q1, q2, q3]) rfl ⟨0, 0, 0, 0, 34, rfl, .inr (.inl ⟨hd0, hnow, rfl, rfl, rfl, rfl, rfl⟩), HB.out⟩
    · have d1 : decide (d ≤ now) = false := decide_eq_false hnow
      go_enter Try.func18, Try.ntmps18
      go_wp2_with fail
      generalize (((w.alloc (.cells #[.int .i64 D.off, .slice a0 D.n ca0, .slice b0 D.m cb0] 24)).alloc (.cells #[.int .i64 lv, .int .i64 fr, .int .i64 b, .int .i64 d] 39)).alloc (.cells #[.int .i64 0, .int .i64 0, .int .i64 0, .int .i64 0] 39)) = W at HB HT HS1 HBG HZ c0 c1 c2 c3 q0 q1 q2 q3 y0 y1 y2 y3 j0 j1 j2 ⊢
      obtain ⟨v, er, hri, hre⟩ := HBG.out
      refine hre.mono ?_
      rintro e w4 ⟨rfl, hb4⟩
      have t0 := (hb4.block (w.heap.size + 1) (by have := HZ.out; omega)).trans HS1.out
      have t1 := (hb4.block (w.heap.size + 1 + 1) (by have := HZ.out; omega)).trans HT.out
      have HB4 := Lib.hid (HB.out.trans (hb4.mono HB.out.size))
      have HRI := Lib.hid hri
      clear q0 q1 q2 q3 y0 y1 y2 y3 c0 c1 c2 c3 j0 j1 j2
      obtain ⟨c0, -⟩ := four_at t0
      obtain ⟨q0, q1, q2, q3, y0, y1, y2, y3⟩ := four_at t1
      have HT4 := Lib.hid t1
      obtain ⟨bf, ef⟩ : ∃ c, (er != 0) = c := ⟨_, rfl⟩
      clear hri hre hb4 t0 t1
      cases bf
      · obtain rfl : er = 0 := by simpa using ef
        clear ef
        go_wp2_with fail
        have ho := below_put4 HB4.out (N := w.heap.size + 1 + 1) (by omega) (.int .i64 lv) (.int .i64 now) (.int .i64 v) (.int .i64 0)
        obtain ⟨p0, p1, p2, p3⟩ := put4_cells HT4.out (.int .i64 lv) (.int .i64 now) (.int .i64 v) (.int .i64 0)
        unfold put4 at p0 p1 p2 p3 ho
        exact bodyPost_ret (v := .tuple #[.agg #[.int .i64 lv, .int .i64 now, .int .i64 v, .int .i64 0], .int .i64 0]) (by simp [results, Try.results18, go_sem, p0, p1, p2, p3]) rfl ⟨lv, now, v, 0, 0, rfl, .inr (.inr ⟨hd0, by omega, v, 0, HRI.out, .inl ⟨rfl, rfl, rfl, rfl, rfl, rfl⟩⟩), ho⟩
      · have HE := Lib.hid (show er ≠ 0 by simpa using ef)
        go_wp2_with fail
        have ho := below_put4 HB4.out (N := w.heap.size + 1 + 1) (by omega) (.int .i64 0) (.int .i64 0) (.int .i64 0) (.int .i64 0)
        obtain ⟨p0, p1, p2, p3⟩ := put4_cells HT4.out (.int .i64 0) (.int .i64 0) (.int .i64 0) (.int .i64 0)
        unfold put4 at p0 p1 p2 p3 ho
        exact bodyPost_ret (v := .tuple #[.agg #[.int .i64 0, .int .i64 0, .int .i64 0, .int .i64 0], .int .i64 er]) (by simp [results, Try.results18, go_sem, p0, p1, p2, p3]) rfl ⟨0, 0, 0, 0, er, rfl, .inr (.inr ⟨hd0, by omega, v, er, HRI.out, .inr ⟨HE.out, rfl, rfl, rfl, rfl, rfl⟩⟩), ho⟩
end Go.Proofs.Ythnnbmofpmedhaa

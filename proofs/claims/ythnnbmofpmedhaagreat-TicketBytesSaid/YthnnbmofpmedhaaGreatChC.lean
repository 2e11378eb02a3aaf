/- Steps: a step that runs, both ways. -/
import Derived.Test.YthnnbmofpmedhaaGreatCa4
import Derived.Test.YthnnbmofpmedhaaGreatRf1
import Derived.Test.YthnnbmofpmedhaaGreatChB
namespace Go.Proofs.YthnnbmofpmedhaaGreat
open Go.RowKit

/-- A step as it is handed on. -/
def stepV (l f b d : Int) : Value := .agg #[.int .i64 l, .int .i64 f, .int .i64 b, .int .i64 d]
/-- A step that runs from an instant on, or the number with which there is none. -/
def Ran (D : Cal) (lv b now : Int) (l f c d e : Int) : Prop := ∃ v er, D.Dues now b v er ∧ ((er = 0 ∧ l = lv ∧ f = now ∧ c = b ∧ d = v ∧ e = 0) ∨ (er ≠ 0 ∧ l = 0 ∧ f = 0 ∧ c = 0 ∧ d = 0 ∧ e = er))
theorem Ran.same {D : Cal} {lv b now l f c d e l' f' c' d' e' : Int} (h : Ran D lv b now l f c d e) (h' : Ran D lv b now l' f' c' d' e') : l = l' ∧ f = f' ∧ c = c' ∧ d = d' ∧ e = e' := by
  obtain ⟨v, er, h1, h2⟩ := h
  obtain ⟨v', er', h3, h4⟩ := h'
  obtain ⟨rfl, rfl⟩ := Cal.due_same h1 h3
  rcases h2 with ⟨h2, rfl, rfl, rfl, rfl, rfl⟩ | ⟨h2, rfl, rfl, rfl, rfl, rfl⟩ <;> rcases h4 with ⟨h4, rfl, rfl, rfl, rfl, rfl⟩ | ⟨h4, rfl, rfl, rfl, rfl, rfl⟩
  · exact ⟨rfl, rfl, rfl, rfl, rfl⟩
  · exact absurd h2 h4
  · exact absurd h4 h2
  · exact ⟨rfl, rfl, rfl, rfl, rfl⟩
theorem Ran.n_pos {D : Cal} {lv b now l f c d e : Int} (h : Ran D lv b now l f c d e) (hb : 0 < b) (he : e = 0) : 0 < D.n := by
  obtain ⟨v, er, h1, h2⟩ := h
  have her : er = 0 := by rcases h2 with ⟨h2, _⟩ | ⟨h2, _, _, _, _, h3⟩ <;> omega
  rcases h1 with ⟨_, _, h⟩ | ⟨_, _, h, _⟩ | ⟨_, _, _, _, _, h⟩ | ⟨_, _, _, h, _⟩
  · omega
  · omega
  · omega
  · refine Nat.pos_of_ne_zero fun h0 => h ?_
    rw [h0]; rfl

/-- What is written into a block of one's own leaves the clock. -/
theorem Ck.other {L : Loc} {D : Cal} {w0 w w' : World} {N : Nat} (h0 : Ck L D w0) (hN : w0.heap.size ≤ N) (h : Ck L D w) (hap : Ap L.C N w) (heq : ∀ k, k < w.heap.size → k ≠ N → w'.heap[k]? = w.heap[k]?) (hs : w.heap.size ≤ w'.heap.size) : Ck L D w' := by
  have hk := h0.ltK
  have ha := h0.ltA
  have hp := h0.pl.ltP
  have hc := h0.pl.lt
  have hr1 := sps_lt h0.cs
  have hr2 := sps_lt h0.pl.sps
  have cell : ∀ b o, b < w.heap.size → b ≠ N → w'.cell? ⟨b, o, none⟩ = w.cell? ⟨b, o, none⟩ := fun b o hl hne => World.cell?_of_block (heq _ hl hne)
  have spz : ∀ {a : Option Addr} {n : Nat} {F T : Nat → Int}, Sps w a n F T → (∀ z, 0 < n → a = some z → z.block ≠ N) → Sps w' a n F T := by
    intro a n F T h hx
    refine ⟨h.1, fun hp => ?_⟩
    obtain ⟨ab, ao, e, hl, hc⟩ := h.2 hp
    have hn := hx _ hp e
    exact ⟨ab, ao, e, Nat.lt_of_lt_of_le hl hs, fun k hk => ⟨(cell ab _ hl hn).trans (hc k hk).1, (cell ab _ hl hn).trans (hc k hk).2.1, (hc k hk).2.2⟩⟩
  refine ⟨(cell _ _ h.ltK (by omega)).trans h.k0, (cell _ _ h.ltK (by omega)).trans h.k1, (cell _ _ h.ltK (by omega)).trans h.k2, (cell _ _ h.ltA (by omega)).trans h.al, spz h.cs (fun z h2 h3 => by have := hr1 z h2 h3; omega), h.cap, ?_, h.neK, h.neA, h.far⟩
  refine ⟨h.pl.hP, h.pl.hC, h.pl.ne, Nat.lt_of_lt_of_le h.pl.lt hs, (cell _ _ h.pl.ltP (by omega)).trans h.pl.row, (cell _ _ h.pl.ltP (by omega)).trans h.pl.bef, spz h.pl.sps (fun z h2 h3 => by have := hr2 z h2 h3; omega), h.pl.far, ?_⟩
  have hC : w'.heap[L.C]? = w.heap[L.C]? := heq _ h.pl.lt (by omega)
  rcases h.pl.cel with ⟨k, hce⟩ | ⟨g, vc, k, hce, hg, hl, hkj⟩
  · exact .inl ⟨k, hce.of_block hC⟩
  · refine .inr ⟨g, vc, k, hce.of_block hC, ⟨hg.1, hg.2.same (heq _ hl (hap _ _ _ hce.value))⟩, Nat.lt_of_lt_of_le hl hs, fun j hj => ?_⟩
    exact (cell _ _ hl (hap _ _ _ hce.value)).trans (hkj j hj)
/-- A block with a 0 where the sums have more is not the sums'. -/
theorem Ck.ap0 {L : Loc} {D : Cal} {w : World} (h : Ck L D w) (hd : D.ok) (hn : 0 < D.n) {N : Nat} (hz : w.cell? ⟨N, 1, none⟩ = some (.int .i64 0)) : Ap L.C N w := by
  intro x n c hx
  rcases h.pl.cel with ⟨k, hce⟩ | ⟨g, vc, k, hce, hg, hl, hkj⟩
  · rw [hce.value] at hx; cases hx
  · rw [hce.value] at hx
    injection hx with hx
    injection hx with hx
    injection hx with hx
    subst hx
    rintro rfl
    have h1 := (hkj 1 (by omega)).symm.trans hz
    injection h1 with h1
    injection h1 with _ h1
    have h2 := good_at hd.wk.good hn
    have h3 : tsum D.F D.T 1 = D.T 0 - D.F 0 := by show (0 : Int) + (D.T 0 - D.F 0) = _; omega
    omega

/-- A block of another type is not the sums'. -/
theorem Ck.apT {L : Loc} {D : Cal} {w : World} (h : Ck L D w) {N : Nat} {cs : Array Value} {t : TypeId} {r : Nat × Nat} (hN : w.heap[N]? = some (.cells cs t r)) (ht : t ≠ 2) : Ap L.C N w := by
  intro x n c hx
  rcases h.pl.cel with ⟨k, hce⟩ | ⟨g, vc, k, hce, hg, hl, hkj⟩
  · rw [hce.value] at hx; cases hx
  · rw [hce.value] at hx
    injection hx with hx
    injection hx with hx
    injection hx with hx
    subst hx
    rintro rfl
    obtain ⟨cs', r', h'⟩ := hg.2
    have h'' := h'.symm.trans hN
    injection h'' with h''
    injection h'' with _ h''
    exact ht h''.symm
/-- Four cells are written. -/
def put4 (w : World) (N : Nat) (a b c d : Value) : World := (((w.setCell ⟨N, 0, none⟩ a).setCell ⟨N, 1, none⟩ b).setCell ⟨N, 2, none⟩ c).setCell ⟨N, 3, none⟩ d
theorem cells_heap {w : World} {N : Nat} {C : Array Value} {t : TypeId} (h : w.heap[N]? = some (.cells C t (0, 0))) (o : Nat) : w.cell? ⟨N, o, none⟩ = C[o]? := by
  simp [World.cell?, h]
theorem four_at {w : World} {N : Nat} {a b c d : Value} {t : TypeId} (h : w.heap[N]? = some (.cells #[a, b, c, d] t (0, 0))) :
    w.cell? ⟨N, 0, none⟩ = some a ∧ w.cell? ⟨N, 1, none⟩ = some b ∧ w.cell? ⟨N, 2, none⟩ = some c ∧ w.cell? ⟨N, 3, none⟩ = some d ∧ w.frozen? ⟨N, 0, none⟩ = false ∧ w.frozen? ⟨N, 1, none⟩ = false ∧ w.frozen? ⟨N, 2, none⟩ = false ∧ w.frozen? ⟨N, 3, none⟩ = false := by
  simp [World.cell?, World.frozen?, h]
theorem heap_put {w : World} {N : Nat} {C : Array Value} {t : TypeId} (h : w.heap[N]? = some (.cells C t (0, 0))) (j : Nat) (u : Value) : (w.setCell ⟨N, j, none⟩ u).heap[N]? = some (.cells (C.setIfInBounds j u) t (0, 0)) := by
  have hlt : N < w.heap.size := (Array.getElem?_eq_some_iff.mp h).1
  have h' : w.heap[N] = .cells C t (0, 0) := by simpa [Array.getElem?_eq_getElem hlt] using h
  show (w.heap.modify N _)[N]? = _
  rw [Array.getElem?_eq_getElem (by simpa using hlt), Array.getElem_modify_self, h']
  rfl
theorem put4_at {w : World} {N : Nat} {x0 x1 x2 x3 : Value} {t : TypeId} (h : w.heap[N]? = some (.cells #[x0, x1, x2, x3] t (0, 0))) (a b c d : Value) :
    (put4 w N a b c d).heap[N]? = some (.cells #[a, b, c, d] t (0, 0)) ∧ (∀ k, k ≠ N → (put4 w N a b c d).heap[k]? = w.heap[k]?) ∧ (put4 w N a b c d).heap.size = w.heap.size := by
  refine ⟨?_, fun k hk => ?_, by simp [put4]⟩
  · exact heap_put (heap_put (heap_put (heap_put h 0 a) 1 b) 2 c) 3 d
  · unfold put4
    rw [Below.heap_setCell _ _ _ _ (by exact hk), Below.heap_setCell _ _ _ _ (by exact hk), Below.heap_setCell _ _ _ _ (by exact hk), Below.heap_setCell _ _ _ _ (by exact hk)]
theorem put4_cells {w : World} {N : Nat} {x0 x1 x2 x3 : Value} {t : TypeId} (h : w.heap[N]? = some (.cells #[x0, x1, x2, x3] t (0, 0))) (a b c d : Value) :
    (put4 w N a b c d).cell? ⟨N, 0, none⟩ = some a ∧ (put4 w N a b c d).cell? ⟨N, 1, none⟩ = some b ∧ (put4 w N a b c d).cell? ⟨N, 2, none⟩ = some c ∧ (put4 w N a b c d).cell? ⟨N, 3, none⟩ = some d := by
  have h1 := (put4_at h a b c d).1
  exact ⟨cells_heap h1 0, cells_heap h1 1, cells_heap h1 2, cells_heap h1 3⟩
theorem put4_other (w : World) {N b : Nat} (o : Nat) (x0 x1 x2 x3 : Value) (h : b ≠ N) : (put4 w N x0 x1 x2 x3).cell? ⟨b, o, none⟩ = w.cell? ⟨b, o, none⟩ := by
  refine World.cell?_of_block ?_
  unfold put4
  rw [Below.heap_setCell _ _ _ _ (by exact h), Below.heap_setCell _ _ _ _ (by exact h), Below.heap_setCell _ _ _ _ (by exact h), Below.heap_setCell _ _ _ _ (by exact h)]
theorem put4_same {w : World} {N : Nat} {a b c d : Value} {t : TypeId} (h : w.heap[N]? = some (.cells #[a, b, c, d] t (0, 0))) : Below w.heap.size w (put4 w N a b c d) := by
  obtain ⟨h1, h2, h3⟩ := put4_at h a b c d
  refine ⟨rfl, rfl, rfl, by omega, fun k _ => ?_⟩
  by_cases e : k = N
  · subst e; rw [h1, h]
  · exact h2 k e
theorem Only.put4 {X : Nat → Prop} {w w' : World} (h : Only X w w') {N : Nat} (hN : w.heap.size ≤ N) (a b c d : Value) : Only X w (put4 w' N a b c d) :=
  (((h.setCell_new (p := ⟨N, 0, none⟩) hN a).setCell_new (p := ⟨N, 1, none⟩) hN b).setCell_new (p := ⟨N, 2, none⟩) hN c).setCell_new (p := ⟨N, 3, none⟩) hN d
theorem below_put4 {w w' : World} (h : Below w.heap.size w w') {N : Nat} (hN : w.heap.size ≤ N) (a b c d : Value) : Below w.heap.size w (put4 w' N a b c d) :=
  (((h.setCell (p := ⟨N, 0, none⟩) hN a).setCell (p := ⟨N, 1, none⟩) hN b).setCell (p := ⟨N, 2, none⟩) hN c).setCell (p := ⟨N, 3, none⟩) hN d

/-- What a function with a clock hands back: a step and a number. -/
def Gave (L : Loc) (D : Cal) (w : World) (R : Int → Int → Int → Int → Int → Prop) (e : Ending) (w' : World) : Prop :=
  ∃ l f c d er, e = .returned (.tuple #[stepV l f c d, .int .i64 er]) ∧ R l f c d er ∧ Ck L D w' ∧ Only (· = L.C) w w'
def RGave (w : World) (R : Int → Int → Int → Int → Int → Prop) (e : Ending) (w' : World) : Prop :=
  ∃ l f c d er, e = .returned (.tuple #[stepV l f c d, .int .i64 er]) ∧ R l f c d er ∧ Below w.heap.size w w'

theorem heap_old (w : World) (o : Obj) {k : Nat} (h : k < w.heap.size) : (w.alloc o).heap[k]? = w.heap[k]? := ((Below.refl _ w).alloc (Nat.le_refl _) o).block k h
/-- Boxes that a call makes first. -/
theorem box1 (w : World) (A : Array Value) (ta : TypeId) : Below w.heap.size w (w.alloc (.cells A ta)) ∧ (w.alloc (.cells A ta)).heap[w.heap.size]? = some (.cells A ta (0, 0)) ∧ (w.alloc (.cells A ta)).heap.size = w.heap.size + 1 :=
  ⟨(Below.refl _ _).alloc (Nat.le_refl _) _, World.alloc_heap_new w _, World.size_alloc ..⟩
theorem box2 (w : World) (A B : Array Value) (ta tb : TypeId) : Below w.heap.size w ((w.alloc (.cells A ta)).alloc (.cells B tb)) ∧
    ((w.alloc (.cells A ta)).alloc (.cells B tb)).heap[w.heap.size]? = some (.cells A ta (0, 0)) ∧ ((w.alloc (.cells A ta)).alloc (.cells B tb)).heap[w.heap.size + 1]? = some (.cells B tb (0, 0)) ∧ ((w.alloc (.cells A ta)).alloc (.cells B tb)).heap.size = w.heap.size + 1 + 1 := by
  obtain ⟨h1, h2, h3⟩ := box1 w A ta
  obtain ⟨k1, k2, k3⟩ := box1 (w.alloc (.cells A ta)) B tb
  rw [h3] at k2 k3
  exact ⟨h1.trans (k1.mono h1.size), (heap_old _ _ (by rw [h3]; omega)).trans h2, k2, k3⟩
theorem box3 (w : World) (A B C : Array Value) (ta tb tc : TypeId) : Below w.heap.size w (((w.alloc (.cells A ta)).alloc (.cells B tb)).alloc (.cells C tc)) ∧
    (((w.alloc (.cells A ta)).alloc (.cells B tb)).alloc (.cells C tc)).heap[w.heap.size]? = some (.cells A ta (0, 0)) ∧ (((w.alloc (.cells A ta)).alloc (.cells B tb)).alloc (.cells C tc)).heap[w.heap.size + 1]? = some (.cells B tb (0, 0)) ∧
    (((w.alloc (.cells A ta)).alloc (.cells B tb)).alloc (.cells C tc)).heap[w.heap.size + 1 + 1]? = some (.cells C tc (0, 0)) ∧ (((w.alloc (.cells A ta)).alloc (.cells B tb)).alloc (.cells C tc)).heap.size = w.heap.size + 1 + 1 + 1 := by
  obtain ⟨h1, h2, h2', h3⟩ := box2 w A B ta tb
  obtain ⟨k1, k2, k3⟩ := box1 ((w.alloc (.cells A ta)).alloc (.cells B tb)) C tc
  rw [h3] at k2 k3
  exact ⟨h1.trans (k1.mono h1.size), (heap_old _ _ (by rw [h3]; omega)).trans h2, (heap_old _ _ (by rw [h3]; omega)).trans h2', k2, k3⟩
theorem box4 (w : World) (A B C E : Array Value) (ta tb tc te : TypeId) : Below w.heap.size w ((((w.alloc (.cells A ta)).alloc (.cells B tb)).alloc (.cells C tc)).alloc (.cells E te)) ∧
    ((((w.alloc (.cells A ta)).alloc (.cells B tb)).alloc (.cells C tc)).alloc (.cells E te)).heap[w.heap.size]? = some (.cells A ta (0, 0)) ∧ ((((w.alloc (.cells A ta)).alloc (.cells B tb)).alloc (.cells C tc)).alloc (.cells E te)).heap[w.heap.size + 1]? = some (.cells B tb (0, 0)) ∧
    ((((w.alloc (.cells A ta)).alloc (.cells B tb)).alloc (.cells C tc)).alloc (.cells E te)).heap[w.heap.size + 1 + 1]? = some (.cells C tc (0, 0)) ∧ ((((w.alloc (.cells A ta)).alloc (.cells B tb)).alloc (.cells C tc)).alloc (.cells E te)).heap[w.heap.size + 1 + 1 + 1]? = some (.cells E te (0, 0)) ∧
    ((((w.alloc (.cells A ta)).alloc (.cells B tb)).alloc (.cells C tc)).alloc (.cells E te)).heap.size = w.heap.size + 1 + 1 + 1 + 1 := by
  obtain ⟨h1, h2, h2', h2'', h3⟩ := box3 w A B C ta tb tc
  obtain ⟨k1, k2, k3⟩ := box1 (((w.alloc (.cells A ta)).alloc (.cells B tb)).alloc (.cells C tc)) E te
  rw [h3] at k2 k3
  exact ⟨h1.trans (k1.mono h1.size), (heap_old _ _ (by rw [h3]; omega)).trans h2, (heap_old _ _ (by rw [h3]; omega)).trans h2', (heap_old _ _ (by rw [h3]; omega)).trans h2'', k2, k3⟩

set_option maxRecDepth 100000 in
set_option maxHeartbeats 4000000 in
theorem run_any {L : Loc} {D : Cal} {w : World} (h : Ck L D w) (hd : D.ok) (lv f0 b d0 now : Int) (b0 : 0 < b) (b1 : b ≤ 9223372036854775807) :
    Calls Tryz.prog 95 #[.pointer (some ⟨L.K, 0, none⟩), stepV lv f0 b d0, .int .i64 now] w (Gave L D w (Ran D lv b now)) := by
  obtain ⟨B2, s0, s1, sz⟩ := box2 w #[.int .i64 lv, .int .i64 f0, .int .i64 b, .int .i64 d0] #[.int .i64 0, .int .i64 0, .int .i64 0, .int .i64 0] 89 89
  have c2 := (four_at s0).2.2.1
  have HB := Lib.hid B2
  have H0 := Lib.hid h
  have HC := Lib.hid (h.kept B2)
  have HS := Lib.hid (And.intro s0 (And.intro s1 sz))
  have HD := Lib.hid hd
  unfold stepV
  clear h hd B2 s0 s1 sz
  go_enter Tryz.func95, Tryz.ntmps95
  go_wp2_with fail
  generalize ((w.alloc (.cells #[.int .i64 lv, .int .i64 f0, .int .i64 b, .int .i64 d0] 89)).alloc (.cells #[.int .i64 0, .int .i64 0, .int .i64 0, .int .i64 0] 89)) = W at HB HC HS c2 ⊢
  have hLC := H0.out.pl.lt
  refine (due_any HC.out HD.out now b b1).mono ?_
  rintro e w3 ⟨v, er, rfl, hv, hC, ho⟩
  have t0 := (ho.block w.heap.size (by have := HS.out.2.2; omega) (by show ¬ w.heap.size = L.C; omega)).trans HS.out.1
  have t1 := (ho.block (w.heap.size + 1) (by have := HS.out.2.2; omega) (by show ¬ w.heap.size + 1 = L.C; omega)).trans HS.out.2.1
  have HO := Lib.hid ((Only.below (X := (· = L.C)) HB.out).trans ho)
  have HC3 := Lib.hid hC
  have HV := Lib.hid hv
  obtain ⟨k0, _, k2, _⟩ := four_at t0
  obtain ⟨q0, q1, q2, q3, f0, f1, f2, f3⟩ := four_at t1
  have HT := Lib.hid t1
  obtain ⟨bf, ef⟩ : ∃ c, (er != 0) = c := ⟨_, rfl⟩
  clear hv hC ho t0 t1 c2
  cases bf
  · obtain rfl : er = 0 := by simpa using ef
    clear ef
    go_wp2_with fail
    have hR : Ran D lv b now lv now b v 0 := ⟨v, 0, HV.out, .inl ⟨rfl, rfl, rfl, rfl, rfl, rfl⟩⟩
    obtain ⟨_, u2, u3⟩ := put4_at HT.out (.int .i64 lv) (.int .i64 now) (.int .i64 b) (.int .i64 v)
    have hk := H0.out.other (N := w.heap.size + 1) (by omega) HC3.out (HC3.out.ap0 HD.out (hR.n_pos b0 rfl) q1) (fun k _ => u2 k) (by omega)
    have ho := HO.out.put4 (N := w.heap.size + 1) (by omega) (.int .i64 lv) (.int .i64 now) (.int .i64 b) (.int .i64 v)
    obtain ⟨p0, p1, p2, p3⟩ := put4_cells HT.out (.int .i64 lv) (.int .i64 now) (.int .i64 b) (.int .i64 v)
    unfold put4 at p0 p1 p2 p3 hk ho
    exact bodyPost_ret (v := .tuple #[.agg #[.int .i64 lv, .int .i64 now, .int .i64 b, .int .i64 v], .int .i64 0]) (by simp [results, Tryz.results95, go_sem, p0, p1, p2, p3]) rfl ⟨lv, now, b, v, 0, rfl, hR, hk, ho⟩
  · have HE := Lib.hid (show er ≠ 0 by simpa using ef)
    go_wp2_with fail
    have hR : Ran D lv b now 0 0 0 0 er := ⟨v, er, HV.out, .inr ⟨HE.out, rfl, rfl, rfl, rfl, rfl⟩⟩
    have hk := HC3.out.kept (put4_same HT.out)
    have ho := HO.out.put4 (N := w.heap.size + 1) (by omega) (.int .i64 0) (.int .i64 0) (.int .i64 0) (.int .i64 0)
    obtain ⟨p0, p1, p2, p3⟩ := put4_cells HT.out (.int .i64 0) (.int .i64 0) (.int .i64 0) (.int .i64 0)
    unfold put4 at p0 p1 p2 p3 hk ho
    exact bodyPost_ret (v := .tuple #[.agg #[.int .i64 0, .int .i64 0, .int .i64 0, .int .i64 0], .int .i64 er]) (by simp [results, Tryz.results95, go_sem, p0, p1, p2, p3]) rfl ⟨0, 0, 0, 0, er, rfl, hR, hk, ho⟩
end Go.Proofs.YthnnbmofpmedhaaGreat

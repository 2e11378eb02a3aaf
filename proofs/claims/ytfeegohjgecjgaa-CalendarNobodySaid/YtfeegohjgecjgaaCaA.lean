/- A clock in memory; its small functions. -/
import Derived.Test.YtfeegohjgecjgaaCaM
import Derived.Test.YtfeegohjgecjgaaWoA
namespace Go.Proofs.Ytfeegohjgecjgaa
open Go.RowKit

/-- Where a clock lies: its block, its almanac's, its plan's, the plan's cell's; the two rows. -/
structure Loc where
  base : Nat
  K : Nat
  A : Nat
  P : Nat
  C : Nat
  a : Option Addr
  ca : Nat
  b : Option Addr
  cb : Nat
structure Ck (L : Loc) (D : Cal) (w : World) : Prop where
  k0 : w.cell? ⟨L.K, 0, none⟩ = some (.pointer (some ⟨L.A, 0, none⟩))
  k1 : w.cell? ⟨L.K, 1, none⟩ = some (.pointer (some ⟨L.P, 0, none⟩))
  k2 : w.cell? ⟨L.K, 2, none⟩ = some (.int .i64 D.off)
  al : w.cell? ⟨L.A, 0, none⟩ = some (.slice L.b D.m L.cb)
  cs : Sps w L.b D.m D.G D.U
  cap : D.m ≤ L.cb
  pl : Pl L.base L.P L.C L.a D.n L.ca D.F D.T w
  neK : L.K ≠ L.C
  neA : L.A ≠ L.C
  far : ∀ x, 0 < D.m → L.b = some x → x.block ≠ L.C
theorem Ck.ltK {L : Loc} {D : Cal} {w : World} (h : Ck L D w) : L.K < w.heap.size := (cell_spot h.k0).2
theorem Ck.ltA {L : Loc} {D : Cal} {w : World} (h : Ck L D w) : L.A < w.heap.size := (cell_spot h.al).2
theorem Ck.alm {L : Loc} {D : Cal} {w : World} (h : Ck L D w) (hd : D.ok) : Alm (some ⟨L.A, 0, none⟩) L.b D.m L.cb D.G D.U w := ⟨.inr ⟨L.A, rfl, h.al⟩, h.cs, h.cap, hd.len, hd.good⟩
theorem Ck.kept {L : Loc} {D : Cal} {w w' : World} (h : Ck L D w) (hb : Below w.heap.size w w') : Ck L D w' :=
  ⟨(hb.cell (p := ⟨L.K, 0, none⟩) h.ltK).trans h.k0, (hb.cell (p := ⟨L.K, 1, none⟩) h.ltK).trans h.k1, (hb.cell (p := ⟨L.K, 2, none⟩) h.ltK).trans h.k2, (hb.cell (p := ⟨L.A, 0, none⟩) h.ltA).trans h.al, h.cs.kept hb, h.cap, h.pl.kept hb, h.neK, h.neA, h.far⟩
theorem Ck.only {L : Loc} {D : Cal} {w w' : World} (h : Ck L D w) (o : Only (· = L.C) w w') (hp : Pl L.base L.P L.C L.a D.n L.ca D.F D.T w') : Ck L D w' :=
  ⟨(o.cell (p := ⟨L.K, 0, none⟩) h.ltK h.neK).trans h.k0, (o.cell (p := ⟨L.K, 1, none⟩) h.ltK h.neK).trans h.k1, (o.cell (p := ⟨L.K, 2, none⟩) h.ltK h.neK).trans h.k2, (o.cell (p := ⟨L.A, 0, none⟩) h.ltA h.neA).trans h.al, h.cs.only o h.far, h.cap, hp, h.neK, h.neA, h.far⟩
theorem Ck.drewN {L : Loc} {D : Cal} {w : World} (h : Ck L D w) (q : Nat) : Ck L D (w.drewN q) := h.kept ⟨rfl, rfl, rfl, Nat.le_refl _, fun _ _ => rfl⟩

theorem ccreated_yes {L : Loc} {D : Cal} {w : World} (h : Ck L D w) : Calls Try.prog 58 #[.pointer (some ⟨L.K, 0, none⟩)] w fun e w' => e = .returned (.bool true) ∧ w = w' := by
  have k1 := h.k1
  clear h
  go_enter Try.func58, Try.ntmps58
  go_wp2
  go_ret
  exact ⟨rfl, rfl⟩
theorem ccreated_nil (w : World) : Calls Try.prog 58 #[.pointer none] w fun e w' => e = .returned (.bool false) ∧ w = w' := by
  go_enter Try.func58, Try.ntmps58
  go_wp2
  go_ret
  exact ⟨rfl, rfl⟩
theorem ccreated_no (K : Nat) (w : World) (h : w.cell? ⟨K, 1, none⟩ = some (.pointer none)) : Calls Try.prog 58 #[.pointer (some ⟨K, 0, none⟩)] w fun e w' => e = .returned (.bool false) ∧ w = w' := by
  go_enter Try.func58, Try.ntmps58
  go_wp2
  go_ret
  exact ⟨rfl, rfl⟩
theorem planned_any (K : Nat) (off t : Int) (w : World) (h : w.cell? ⟨K, 2, none⟩ = some (.int .i64 off)) (h0 : 0 ≤ off) (h1 : off < 604800) (t0 : 0 ≤ t) (t1 : t ≤ 1125899906842624) :
    Calls Try.prog 60 #[.pointer (some ⟨K, 0, none⟩), .int .i64 t] w fun e w' => e = .returned (.int .i64 (t - off + 604800)) ∧ w' = w := by
  go_enter Try.func60, Try.ntmps60
  go_wp2
  go_ret
  exact ⟨rfl, rfl⟩
def instB (t : Int) : Bool := decide (0 ≤ t) && decide (t ≤ 1125899906842624)
theorem instB_iff (t : Int) : instB t = true ↔ 0 ≤ t ∧ t ≤ 1125899906842624 := by simp [instB]
theorem instant_any (t : Int) (w : World) : Calls Try.prog 62 #[.int .i64 t] w fun e w' => e = .returned (.bool (instB t)) ∧ w = w' := by
  obtain ⟨c1, d1⟩ : ∃ c, decide (0 ≤ t) = c := ⟨_, rfl⟩
  obtain ⟨c2, d2⟩ : ∃ c, decide (t ≤ 1125899906842624) = c := ⟨_, rfl⟩
  have e : instB t = (c1 && c2) := by rw [← d1, ← d2]; rfl
  rw [e]
  clear e
  cases c1 <;> cases c2
  all_goals
    go_enter Try.func62, Try.ntmps62
    go_wp2
    go_ret
    exact ⟨rfl, rfl⟩
theorem rinstant_any (t : Int) (w : World) : Calls Try.prog 64 #[.int .i64 t] w fun e w' => e = .returned (.bool (instB t)) ∧ w = w' := by
  obtain ⟨c1, d1⟩ : ∃ c, decide (0 ≤ t) = c := ⟨_, rfl⟩
  obtain ⟨c2, d2⟩ : ∃ c, decide (t ≤ 1125899906842624) = c := ⟨_, rfl⟩
  have e : instB t = (c1 && c2) := by rw [← d1, ← d2]; rfl
  rw [e]
  clear e
  cases c1 <;> cases c2
  all_goals
    go_enter Try.func64, Try.ntmps64
    go_wp2
    go_ret
    exact ⟨rfl, rfl⟩

/-- What a clock's method leaves behind. -/
def Asks (L : Loc) (D : Cal) (v : Value) (w : World) (e : Ending) (w' : World) : Prop := e = .returned v ∧ Ck L D w' ∧ Only (· = L.C) w w'
set_option maxRecDepth 100000 in
set_option maxHeartbeats 4000000 in
theorem opened_any {L : Loc} {D : Cal} {w : World} (h : Ck L D w) (hd : D.ok) (x y : Int) (x0 : 0 ≤ x) (xy : x ≤ y) (y1 : y ≤ 1125899906842624) :
    Calls Try.prog 63 #[.pointer (some ⟨L.K, 0, none⟩), .agg #[.int .i64 x, .int .i64 y]] w (Asks L D (.int .i64 (D.V y - D.V x)) w) := by
  have B1 : Below w.heap.size w (w.alloc (.cells #[.int .i64 x, .int .i64 y] 30)) := (Below.refl _ _).alloc (Nat.le_refl _) _
  have h1 := h.kept B1
  have hval : betweenV D.F D.T D.n (x - D.off + 604800) (y - D.off + 604800) = D.V y - D.V x := by
    have := D.V_mono hd x0 xy y1
    show max 0 (D.V y - D.V x) = _
    omega
  have HO := Lib.hid (Only.below (X := (· = L.C)) B1)
  have k1 := h1.k1
  have k2 := h1.k2
  have s0 : (w.alloc (.cells #[.int .i64 x, .int .i64 y] 30)).cell? ⟨w.heap.size, 0, none⟩ = some (.int .i64 x) := by simp
  have s1 : (w.alloc (.cells #[.int .i64 x, .int .i64 y] 30)).cell? ⟨w.heap.size, 1, none⟩ = some (.int .i64 y) := by simp
  have hne : w.heap.size ≠ L.C := by have := h.pl.lt; omega
  have H1 := Lib.hid h1
  have HD := Lib.hid hd
  have HV := Lib.hid hval
  obtain ⟨off, ho⟩ : ∃ o, D.off = o := ⟨_, rfl⟩
  have hp := planned_any L.K off
  have o0 := hd.off0
  have o1 := hd.off1
  rw [ho] at k2 HV o0 o1
  have HOF := Lib.hid ho
  have HP := Lib.hid (fun t W (h : W.cell? ⟨L.K, 2, none⟩ = some (.int .i64 off)) (t0 : 0 ≤ t) (t1 : t ≤ 1125899906842624) => hp t W h o0 o1 t0 t1)
  clear h hd hval h1 B1 hp
  go_enter Try.func63, Try.ntmps63
  go_wp2_with fail
  generalize hW : (w.alloc (.cells #[.int .i64 x, .int .i64 y] 30)) = W at *
  obtain ⟨sz, hsz⟩ : ∃ s, w.heap.size = s := ⟨_, rfl⟩
  rw [hsz] at s0 s1 hne ⊢
  clear hW hsz
  have h0 : W.drew.cell? ⟨L.K, 1, none⟩ = some (.pointer (some ⟨L.P, 0, none⟩)) ∧ W.drew.cell? ⟨L.K, 2, none⟩ = some (.int .i64 off) ∧ W.drew.cell? ⟨sz, 0, none⟩ = some (.int .i64 x) ∧ W.drew.cell? ⟨sz, 1, none⟩ = some (.int .i64 y) ∧ Ck L D W.drew ∧ Only (· = L.C) w W.drew := ⟨k1, k2, s0, s1, H1.out.kept ((Below.refl _ _).drew), HO.out.drew⟩
  have HBT : Hid (∀ w', (w'.cell? ⟨L.K, 1, none⟩ = some (.pointer (some ⟨L.P, 0, none⟩)) ∧ w'.cell? ⟨L.K, 2, none⟩ = some (.int .i64 off) ∧ w'.cell? ⟨sz, 0, none⟩ = some (.int .i64 x) ∧ w'.cell? ⟨sz, 1, none⟩ = some (.int .i64 y) ∧ Ck L D w' ∧ Only (· = L.C) w w') →
      Calls Try.prog 82 #[.pointer (some ⟨L.P, 0, none⟩), .int .i64 (x - off + 604800), .int .i64 (y - off + 604800)] w' fun e w'' => e = .returned (.int .i64 (D.V y - D.V x)) ∧
        (w''.cell? ⟨L.K, 1, none⟩ = some (.pointer (some ⟨L.P, 0, none⟩)) ∧ w''.cell? ⟨L.K, 2, none⟩ = some (.int .i64 off) ∧ w''.cell? ⟨sz, 0, none⟩ = some (.int .i64 x) ∧ w''.cell? ⟨sz, 1, none⟩ = some (.int .i64 y) ∧ Ck L D w'' ∧ Only (· = L.C) w w'')) := Lib.hid (by
    rintro w' ⟨g1, g2, g3, g4, g5, g6⟩
    have := between_anyO (x - off + 604800) (y - off + 604800) g5.pl HD.out.wk (Nat.le_of_lt (Nat.lt_of_le_of_lt g5.pl.hP g5.pl.ltP))
    rw [HV.out] at this
    refine this.mono ?_
    rintro e w'' ⟨rfl, hp, ho⟩
    have hc := g5.only ho hp
    exact ⟨rfl, hc.k1, by rw [hc.k2, HOF.out], (ho.cell (p := ⟨sz, 0, none⟩) (cell_spot g3).2 hne).trans g3, (ho.cell (p := ⟨sz, 1, none⟩) (cell_spot g4).2 hne).trans g4, hc, g6.trans ho⟩)
  clear k1 k2 s0 s1
  go_region_held3 (fun w' => w'.cell? ⟨L.K, 1, none⟩ = some (.pointer (some ⟨L.P, 0, none⟩)) ∧ w'.cell? ⟨L.K, 2, none⟩ = some (.int .i64 off) ∧ w'.cell? ⟨sz, 0, none⟩ = some (.int .i64 x) ∧ w'.cell? ⟨sz, 1, none⟩ = some (.int .i64 y) ∧ Ck L D w' ∧ Only (· = L.C) w w')
    (first | exact h0 | assumption)
    (first
      | (go_at_call 82; refine (HBT.out _ (by assumption)).mono ?_; rintro e w8 ⟨rfl, hS8⟩)
      | (go_at_call 60; refine (HP.out _ _ (by simp [*]) (by omega) (by omega)).mono ?_; rintro e w8 ⟨rfl, rfl⟩))
  all_goals
    obtain ⟨_, _, _, _, hc8, ho8⟩ := hS8
    have HC8 := Lib.hid hc8
    have HO8 := Lib.hid ho8
    clear hc8 ho8 h0
    go_wp2_with fail
    go_ret
    exact ⟨rfl, HC8.out, HO8.out⟩

set_option maxRecDepth 100000 in
set_option maxHeartbeats 4000000 in
theorem nth_any {L : Loc} {D : Cal} {w : World} (h : Ck L D w) (hd : D.ok) (x y k : Int) (x0 : 0 ≤ x) (x1 : x ≤ 1125899906842624) (k0 : 0 ≤ k) (k1' : k ≤ 2251800000604800) (hv0 : 0 ≤ pnV D.F D.T D.n (D.V x + k)) (hv1 : pnV D.F D.T D.n (D.V x + k) ≤ 2251799813685248) :
    Calls Try.prog 67 #[.pointer (some ⟨L.K, 0, none⟩), .agg #[.int .i64 x, .int .i64 y], .int .i64 k] w (Asks L D (.int .i64 (pnV D.F D.T D.n (D.V x + k) + D.off - 604800)) w) := by
  have B1 : Below w.heap.size w (w.alloc (.cells #[.int .i64 x, .int .i64 y] 30)) := (Below.refl _ _).alloc (Nat.le_refl _) _
  have h1 := h.kept B1
  have HO := Lib.hid (Only.below (X := (· = L.C)) B1)
  have k1 := h1.k1
  have k2 := h1.k2
  have s0 : (w.alloc (.cells #[.int .i64 x, .int .i64 y] 30)).cell? ⟨w.heap.size, 0, none⟩ = some (.int .i64 x) := by simp
  have hne : w.heap.size ≠ L.C := by have := h.pl.lt; omega
  have H1 := Lib.hid h1
  have HD := Lib.hid hd
  have hvx : untilV D.F D.T D.n (x - D.off + 604800) = D.V x := rfl
  obtain ⟨_, _, u0, u1⟩ := until_bounds hd.wk (x - D.off + 604800)
  rw [hvx] at u0 u1
  obtain ⟨off, ho⟩ : ∃ o, D.off = o := ⟨_, rfl⟩
  have hp := planned_any L.K off
  have o0 := hd.off0
  have o1 := hd.off1
  rw [ho] at k2 hvx o0 o1 ⊢
  have HVX := Lib.hid hvx
  have HOF := Lib.hid ho
  obtain ⟨vx, hvv⟩ : ∃ v, D.V x = v := ⟨_, rfl⟩
  rw [hvv] at u0 u1 HVX hv0 hv1 ⊢
  obtain ⟨r, hr⟩ : ∃ v, pnV D.F D.T D.n (vx + k) = v := ⟨_, rfl⟩
  rw [hr] at hv0 hv1 ⊢
  have HR := Lib.hid hr
  have HP := Lib.hid (fun t W (h : W.cell? ⟨L.K, 2, none⟩ = some (.int .i64 off)) (t0 : 0 ≤ t) (t1 : t ≤ 1125899906842624) => hp t W h o0 o1 t0 t1)
  clear h hd hvx h1 B1 hp ho hvv hr
  go_enter Try.func67, Try.ntmps67
  go_wp2_with fail
  generalize hW : (w.alloc (.cells #[.int .i64 x, .int .i64 y] 30)) = W at *
  obtain ⟨sz, hsz⟩ : ∃ s, w.heap.size = s := ⟨_, rfl⟩
  rw [hsz] at s0 hne ⊢
  clear hW hsz
  have h0 : W.drew.cell? ⟨L.K, 1, none⟩ = some (.pointer (some ⟨L.P, 0, none⟩)) ∧ W.drew.cell? ⟨L.K, 2, none⟩ = some (.int .i64 off) ∧ W.drew.cell? ⟨sz, 0, none⟩ = some (.int .i64 x) ∧ Ck L D W.drew ∧ Only (· = L.C) w W.drew := ⟨k1, k2, s0, H1.out.kept ((Below.refl _ _).drew), HO.out.drew⟩
  have HUN : Hid (∀ w', (w'.cell? ⟨L.K, 1, none⟩ = some (.pointer (some ⟨L.P, 0, none⟩)) ∧ w'.cell? ⟨L.K, 2, none⟩ = some (.int .i64 off) ∧ w'.cell? ⟨sz, 0, none⟩ = some (.int .i64 x) ∧ Ck L D w' ∧ Only (· = L.C) w w') →
      Calls Try.prog 86 #[.pointer (some ⟨L.P, 0, none⟩), .int .i64 (x - off + 604800)] w' fun e w'' => e = .returned (.int .i64 vx) ∧
        (w''.cell? ⟨L.K, 1, none⟩ = some (.pointer (some ⟨L.P, 0, none⟩)) ∧ w''.cell? ⟨L.K, 2, none⟩ = some (.int .i64 off) ∧ w''.cell? ⟨sz, 0, none⟩ = some (.int .i64 x) ∧ Ck L D w'' ∧ Only (· = L.C) w w'')) := Lib.hid (by
    rintro w' ⟨g1, g2, g3, g5, g6⟩
    have := until_anyO (x - off + 604800) g5.pl HD.out.wk (Nat.le_of_lt (Nat.lt_of_le_of_lt g5.pl.hP g5.pl.ltP))
    rw [HVX.out] at this
    refine this.mono ?_
    rintro e w'' ⟨rfl, hp, ho⟩
    have hc := g5.only ho hp
    exact ⟨rfl, hc.k1, by rw [hc.k2, HOF.out], (ho.cell (p := ⟨sz, 0, none⟩) (cell_spot g3).2 hne).trans g3, hc, g6.trans ho⟩)
  have HNT : Hid (∀ w', (w'.cell? ⟨L.K, 1, none⟩ = some (.pointer (some ⟨L.P, 0, none⟩)) ∧ w'.cell? ⟨L.K, 2, none⟩ = some (.int .i64 off) ∧ w'.cell? ⟨sz, 0, none⟩ = some (.int .i64 x) ∧ Ck L D w' ∧ Only (· = L.C) w w') →
      Calls Try.prog 85 #[.pointer (some ⟨L.P, 0, none⟩), .int .i64 (vx + k)] w' fun e w'' => e = .returned (.tuple #[.int .i64 r, .int .i64 (pnE D.F D.T D.n (vx + k))]) ∧
        (w''.cell? ⟨L.K, 1, none⟩ = some (.pointer (some ⟨L.P, 0, none⟩)) ∧ w''.cell? ⟨L.K, 2, none⟩ = some (.int .i64 off) ∧ w''.cell? ⟨sz, 0, none⟩ = some (.int .i64 x) ∧ Ck L D w'' ∧ Only (· = L.C) w w'')) := Lib.hid (by
    rintro w' ⟨g1, g2, g3, g5, g6⟩
    have := nth_planO (vx + k) g5.pl HD.out.wk (Nat.le_of_lt (Nat.lt_of_le_of_lt g5.pl.hP g5.pl.ltP)) (by omega)
    rw [HR.out] at this
    refine this.mono ?_
    rintro e w'' ⟨rfl, hp, ho⟩
    have hc := g5.only ho hp
    exact ⟨rfl, hc.k1, by rw [hc.k2, HOF.out], (ho.cell (p := ⟨sz, 0, none⟩) (cell_spot g3).2 hne).trans g3, hc, g6.trans ho⟩)
  clear k1 k2 s0
  generalize pnE D.F D.T D.n (vx + k) = pe at *
  have hwk : IntKind.i64.wrap (vx + k) = vx + k := IntWalk.i64_in _ (by omega)
  go_region_held3 (fun w' => w'.cell? ⟨L.K, 1, none⟩ = some (.pointer (some ⟨L.P, 0, none⟩)) ∧ w'.cell? ⟨L.K, 2, none⟩ = some (.int .i64 off) ∧ w'.cell? ⟨sz, 0, none⟩ = some (.int .i64 x) ∧ Ck L D w' ∧ Only (· = L.C) w w')
    (first | exact h0 | assumption)
    (first
      | (go_at_call 86; refine (HUN.out _ (by assumption)).mono ?_; rintro e w8 ⟨rfl, hS8⟩)
      | (go_at_call 85; refine (HNT.out _ (by assumption)).mono ?_; rintro e w9 ⟨rfl, hS9⟩)
      | (go_at_call 60; refine (HP.out _ _ (by simp [*]) (by omega) (by omega)).mono ?_; rintro e w8 ⟨rfl, rfl⟩))
  all_goals
    obtain ⟨_, hk2, _, hc8, ho8⟩ := hS9
    have HC8 := Lib.hid hc8
    have HO8 := Lib.hid ho8
    clear hc8 ho8 h0
    go_wp2_with fail
    go_ret
    exact ⟨rfl, HC8.out, HO8.out⟩
end Go.Proofs.Ytfeegohjgecjgaa

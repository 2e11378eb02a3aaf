/- ChainPlans. -/
import Derived.Test.YthnnbmofpmedhaaChT
import Derived.Deep.QuietTactic
import Derived.BigQuiet
namespace Go.Proofs.Ythnnbmofpmedhaa
open Go.RowKit
set_option maxRecDepth 100000 in
set_option maxHeartbeats 4000000 in
theorem rplan_bad (off : Int) (a0 : Option Addr) (n0 ca0 : Nat) (b0 : Option Addr) (m0 cb0 : Nat) (c : Int) (a : Option Addr) (n ca : Nat) (r b : Int) (B P : Nat → Int) (now : Int) (w : World) (hS : Sps w a n B P) (hg : goodC c n r b B P = false) :
    Calls Try.prog 22 #[calV off a0 n0 ca0 b0 m0 cb0, conV c a n ca r b, .int .i64 now] w fun e w' => e = .returned (.tuple #[.slice none 0 0, .int .i64 2]) ∧ Below w.heap.size w w' := by
  obtain ⟨B2, s0, s1, sz⟩ := box2 w #[.int .i64 off, .slice a0 n0 ca0, .slice b0 m0 cb0] #[.int .i64 c, .slice a n ca, .int .i64 r, .int .i64 b] 24 27
  obtain ⟨c0, c1, c2, c3, -⟩ := four_at s1
  have j0 := cells_heap s0 0
  have j1 := cells_heap s0 1
  have j2 := cells_heap s0 2
  have HFI := Lib.hid (rfirst_bad off a0 n0 ca0 b0 m0 cb0 c a n ca r b B P now ((w.alloc (.cells #[.int .i64 off, .slice a0 n0 ca0, .slice b0 m0 cb0] 24)).alloc (.cells #[.int .i64 c, .slice a n ca, .int .i64 r, .int .i64 b] 27)) (hS.kept B2) hg)
  have HB := Lib.hid B2
  unfold stepV at *
  unfold conV at *
  unfold calV at *
  clear B2 s0 s1 sz hS hg
  go_enter Try.func22, Try.ntmps22
  go_wp2_with fail
  generalize ((w.alloc (.cells #[.int .i64 off, .slice a0 n0 ca0, .slice b0 m0 cb0] 24)).alloc (.cells #[.int .i64 c, .slice a n ca, .int .i64 r, .int .i64 b] 27)) = W at HB HFI c0 c1 c2 c3 j0 j1 j2 ⊢
  refine HFI.out.mono ?_
  rintro e w3 ⟨rfl, hb3⟩
  obtain ⟨bx, -, -⟩ := box1 w3 #[.int .i64 0, .int .i64 0, .int .i64 0, .int .i64 0] 39
  have HB4 := Lib.hid ((HB.out.trans (hb3.mono HB.out.size)).trans (bx.mono (Nat.le_trans HB.out.size hb3.size)))
  clear hb3 c0 c1 c2 c3 j0 j1 j2 bx
  go_wp2_with fail
  go_loopw [8, 10, 11] (fun s8 s10 s11 wr => s8 = .slice none 0 0 ∧ s10 = .int .i64 2 ∧ s11 = .bool true ∧ Hid (Below w.heap.size w wr)) (fun _ _ _ _ => 0)
  case atStart => exact ⟨rfl, rfl, rfl, HB4⟩
  case round =>
    obtain ⟨rfl, rfl, rfl, HBR⟩ := hrel
    go_wp2_with fail
    go_ret2
    exact ⟨rfl, HBR.out⟩
def PlanG (D : Cal) (g : Bool) (n : Nat) (B V E : Nat → Int) (now : Int) (ls : List Qd) (er : Int) : Prop := (g = false ∧ er = 2 ∧ ls = []) ∨ (g = true ∧ PlanDone D n B V E now ls er)
theorem PlanG.same {D : Cal} {g : Bool} {n : Nat} {B V E : Nat → Int} {now : Int} {ls ls' : List Qd} {er er' : Int} (hU : ∀ i v e, D.Dues (frm now V i) (B i) v e → v = V i ∧ e = E i) (h : PlanG D g n B V E now ls er) (h' : PlanG D g n B V E now ls' er') : ls = ls' ∧ er = er' := by
  rcases h with ⟨h0, rfl, rfl⟩ | ⟨h0, h1⟩ <;> rcases h' with ⟨k0, rfl, rfl⟩ | ⟨k0, k1⟩
  · exact ⟨rfl, rfl⟩
  · rw [h0] at k0; cases k0
  · rw [h0] at k0; cases k0
  · exact h1.same hU k1
theorem plan_all {L : Loc} {D : Cal} {w : World} (h : Ck L D w) (hd : D.ok) (c : Int) (a : Option Addr) (n ca : Nat) (r b : Int) (B P : Nat → Int) (now : Int) (hS : Sps w a n B P) (hfar : ∀ x, 0 < n → a = some x → x.block ≠ L.C) (V E : Nat → Int) (hU : ∀ i v e, D.Dues (frm now V i) (B i) v e → v = V i ∧ e = E i) :
    Calls Try.prog 21 #[.pointer (some ⟨L.K, 0, none⟩), conV c a n ca r b, .int .i64 now] w fun e w' => ∃ v er ls, e = .returned (.tuple #[v, .int .i64 er]) ∧ OQ 29 w' w.heap.size v ls ∧ PlanG D (goodC c n r b B P) n B V E now ls er ∧ Ck L D w' ∧ Only (· = L.C) w w' := by
  cases hg : goodC c n r b B P
  · refine (plan_err (some ⟨L.K, 0, none⟩) c a n ca r b now 2 w (by decide) (fun W hb => first_bad _ c a n ca r b B P now W (hS.kept hb) hg)).mono ?_
    rintro e w' ⟨rfl, hb⟩
    exact ⟨_, _, _, rfl, OQ.nil _ _ _, .inl ⟨rfl, rfl, rfl⟩, h.kept hb, Only.below hb⟩
  · refine (plan_any h hd c a n ca r b B P now hS hg hfar V E hU).mono ?_
    rintro e w' ⟨v, er, ls, rfl, h1, h2, h3⟩
    exact ⟨v, er, ls, rfl, h1, .inr ⟨rfl, h2⟩, h3⟩
theorem rplan_all {D : Cal} (hd : D.ok) (a0 : Option Addr) (ca0 : Nat) (b0 : Option Addr) (cb0 : Nat) (c : Int) (a : Option Addr) (n ca : Nat) (r b : Int) (B P : Nat → Int) (now : Int) (w : World) (hS0 : Sps w a0 D.n D.F D.T) (hR0 : Sps w b0 D.m D.G D.U) (hS : Sps w a n B P) (V E : Nat → Int) (hU : ∀ i v e, D.Dues (frm now V i) (B i) v e → v = V i ∧ e = E i) :
    Calls Try.prog 22 #[calV D.off a0 D.n ca0 b0 D.m cb0, conV c a n ca r b, .int .i64 now] w fun e w' => ∃ v er ls, e = .returned (.tuple #[v, .int .i64 er]) ∧ OQ 39 w' w.heap.size v ls ∧ PlanG D (goodC c n r b B P) n B V E now ls er ∧ Below w.heap.size w w' := by
  cases hg : goodC c n r b B P
  · refine (rplan_bad D.off a0 D.n ca0 b0 D.m cb0 c a n ca r b B P now w hS hg).mono ?_
    rintro e w' ⟨rfl, hb⟩
    exact ⟨_, _, _, rfl, OQ.nil _ _ _, .inl ⟨rfl, rfl, rfl⟩, hb⟩
  · refine (rplan_any hd a0 ca0 b0 cb0 c a n ca r b B P now w hS0 hR0 hS hg V E hU).mono ?_
    rintro e w' ⟨v, er, ls, rfl, h1, h2, h3⟩
    exact ⟨v, er, ls, rfl, h1, .inr ⟨rfl, h2⟩, h3⟩
def bsum (B : Nat → Int) : Nat → Int
  | 0 => 0
  | k + 1 => bsum B k + B k
theorem bsum_bounds {B P : Nat → Int} {n : Nat} (h : lvs B P n = true) (k : Nat) (hk : k ≤ n) : 0 ≤ bsum B k ∧ bsum B k ≤ k * 1125899906842624 := by
  induction k with
  | zero => exact ⟨Int.le_refl 0, by show (0 : Int) ≤ _; omega⟩
  | succ k ih =>
    obtain ⟨h1, h2⟩ := ih (by omega)
    obtain ⟨h3, h4, _⟩ := lvs_at h (show k < n by omega)
    show 0 ≤ bsum B k + B k ∧ bsum B k + B k ≤ _
    omega
/-- How far a plan's dues lie. -/
theorem Seq.far {D : Cal} {now : Int} {B V P : Nat → Int} {n : Nat} (h : Seq D now B V n) (hl : lvs B P n = true) : ∀ k, k < n → 0 ≤ now ∧ now < V k ∧ V k ≤ 1125899906842624 ∧ D.g (V k) - D.g now = bsum B (k + 1) := by
  have one : ∀ k, k < n → 0 ≤ frm now V k ∧ frm now V k < V k ∧ V k ≤ 1125899906842624 ∧ D.g (V k) = D.g (frm now V k) + B k := by
    intro k hk
    have hb := (lvs_at hl hk).1
    rcases h k hk with ⟨_, _, h⟩ | ⟨_, _, h, _⟩ | ⟨_, _, _, _, _, h⟩ | ⟨s0, s1, _, ht, h⟩
    · omega
    · omega
    · omega
    rcases h with ⟨h, _, _⟩ | ⟨_, h2, h3, h4, h5⟩
    · omega
    · exact ⟨s0, h4, h5, h2⟩
  intro k
  induction k with
  | zero =>
    intro hk
    obtain ⟨h1, h2, h3, h4⟩ := one 0 hk
    have h1 : 0 ≤ now := h1
    have h2 : now < V 0 := h2
    have h4 : D.g (V 0) = D.g now + B 0 := h4
    exact ⟨h1, h2, h3, by show _ = (0 : Int) + B 0; omega⟩
  | succ k ih =>
    intro hk
    obtain ⟨h1, h2, h3, h4⟩ := one (k + 1) hk
    have h2 : V k < V (k + 1) := h2
    have h4 : D.g (V (k + 1)) = D.g (V k) + B (k + 1) := h4
    obtain ⟨k1, k2, k3, k4⟩ := ih (by omega)
    exact ⟨k1, by omega, h3, by show _ = bsum B (k + 1) + B (k + 1); omega⟩
set_option maxRecDepth 100000 in
set_option maxHeartbeats 16000000 in
theorem plans_skip (off : Int) (a0 : Option Addr) (n0 ca0 : Nat) (b0 : Option Addr) (m0 cb0 : Nat) (F T G U : Nat → Int) (c : Int) (a : Option Addr) (n ca : Nat) (r b : Int) (B P : Nat → Int) (now : Int) (w : World) (hS0 : Sps w a0 n0 F T) (hR0 : Sps w b0 m0 G U) (hS : Sps w a n B P) (hz : ¬ ((n0 ≤ 60 ∧ m0 ≤ 60) ∧ n ≤ 60) ∨ checkE off F T n0 G U m0 ≠ 0) :
    Calls Try.prog 5 #[calV off a0 n0 ca0 b0 m0 cb0, conV c a n ca r b, .int .i64 now] w fun e w' => e = .returned (.bool true) ∧ Below w.heap.size w w' := by
  obtain ⟨B2, s0, s1, sz⟩ := box2 w #[.int .i64 off, .slice a0 n0 ca0, .slice b0 m0 cb0] #[.int .i64 c, .slice a n ca, .int .i64 r, .int .i64 b] 24 27
  have HE0_0 := Lib.hid s0
  have HE1_0 := Lib.hid s1
  have HB0 := Lib.hid B2
  have HZ0 := Lib.hid sz
  have hli := light15 off a0 n0 ca0 b0 m0 cb0 c a n ca r b ((w.alloc (.cells #[.int .i64 off, .slice a0 n0 ca0, .slice b0 m0 cb0] 24)).alloc (.cells #[.int .i64 c, .slice a n ca, .int .i64 r, .int .i64 b] 27)) hS0.1 hR0.1 hS.1
  have HCK := Lib.hid (fun W (hb : Below w.heap.size w W) => rcheck10 off a0 n0 ca0 F T b0 m0 cb0 G U W (hS0.kept hb) (hR0.kept hb))
  obtain ⟨x, hx⟩ : ∃ x, (decide (n0 ≤ 60 ∧ m0 ≤ 60) && decide (n ≤ 60)) = x := ⟨_, rfl⟩
  obtain ⟨z0, ez⟩ : ∃ z, checkE off F T n0 G U m0 = z := ⟨_, rfl⟩
  have hor : x = false ∨ (x = true ∧ (z0 != 0) = true) := by
    rw [← hx, ← ez]
    by_cases hl : (n0 ≤ 60 ∧ m0 ≤ 60) ∧ n ≤ 60
    · exact .inr ⟨by rw [decide_eq_true hl.1, decide_eq_true hl.2]; rfl, by simpa using hz.resolve_left (fun h => h hl)⟩
    · refine .inl ?_
      by_cases h1 : n0 ≤ 60 ∧ m0 ≤ 60
      · rw [decide_eq_false (fun h => hl ⟨h1, h⟩), Bool.and_false]
      · rw [decide_eq_false h1]; rfl
  rw [hx] at hli
  rw [ez] at HCK
  clear hx ez hz
  have e0_0 := cells_heap HE0_0.out 0
  have e0_1 := cells_heap HE0_0.out 1
  have e0_2 := cells_heap HE0_0.out 2
  obtain ⟨e1_0, e1_1, e1_2, e1_3, -⟩ := four_at HE1_0.out
  clear B2 sz s0 s1
  clear hS0 hR0 hS
  unfold conV at *
  unfold calV at *
  rcases hor with rfl | ⟨rfl, hzz⟩
  · go_enter Try.func5, Try.ntmps5
    go_wp2_with fail
    generalize ((w.alloc (.cells #[.int .i64 off, .slice a0 n0 ca0, .slice b0 m0 cb0] 24)).alloc (.cells #[.int .i64 c, .slice a n ca, .int .i64 r, .int .i64 b] 27)) = W0 at HB0 HZ0 HE0_0 HE1_0 e0_0 e0_1 e0_2 e1_0 e1_1 e1_2 e1_3 hli ⊢
    refine (hli).mono ?_
    rintro e W1 ⟨rfl, hb⟩
    have HB1 := Lib.hid (HB0.out.trans (hb.mono HB0.out.size))
    have HE0_1 := Lib.hid (ex_below HE0_0.out hb)
    have HE1_1 := Lib.hid (ex_below HE1_0.out hb)
    clear e0_0 e0_1 e0_2 e1_0 e1_1 e1_2 e1_3 hb
    have e0_0 := cells_heap HE0_1.out 0
    have e0_1 := cells_heap HE0_1.out 1
    have e0_2 := cells_heap HE0_1.out 2
    obtain ⟨e1_0, e1_1, e1_2, e1_3, -⟩ := four_at HE1_1.out
    go_wp2_with fail
    refine (lives15 W1).mono ?_
    rintro e wl ⟨rfl, hb⟩
    have HBL := Lib.hid (HB1.out.trans (hb.mono HB1.out.size))
    clear e0_0 e0_1 e0_2 e1_0 e1_1 e1_2 e1_3 hb
    go_wp2_with fail
    go_ret
    exact ⟨rfl, HBL.out⟩
  · go_enter Try.func5, Try.ntmps5
    go_wp2_with fail
    generalize ((w.alloc (.cells #[.int .i64 off, .slice a0 n0 ca0, .slice b0 m0 cb0] 24)).alloc (.cells #[.int .i64 c, .slice a n ca, .int .i64 r, .int .i64 b] 27)) = W0 at HB0 HZ0 HE0_0 HE1_0 e0_0 e0_1 e0_2 e1_0 e1_1 e1_2 e1_3 hli ⊢
    refine (hli).mono ?_
    rintro e W1 ⟨rfl, hb⟩
    have HB1 := Lib.hid (HB0.out.trans (hb.mono HB0.out.size))
    have HE0_1 := Lib.hid (ex_below HE0_0.out hb)
    have HE1_1 := Lib.hid (ex_below HE1_0.out hb)
    clear e0_0 e0_1 e0_2 e1_0 e1_1 e1_2 e1_3 hb
    have e0_0 := cells_heap HE0_1.out 0
    have e0_1 := cells_heap HE0_1.out 1
    have e0_2 := cells_heap HE0_1.out 2
    obtain ⟨e1_0, e1_1, e1_2, e1_3, -⟩ := four_at HE1_1.out
    go_wp2_with fail
    refine (HCK.out W1 HB1.out).mono ?_
    rintro e W2 ⟨rfl, hb⟩
    have HB2 := Lib.hid (HB1.out.trans (hb.mono HB1.out.size))
    have HE0_2 := Lib.hid (ex_below HE0_1.out hb)
    have HE1_2 := Lib.hid (ex_below HE1_1.out hb)
    clear e0_0 e0_1 e0_2 e1_0 e1_1 e1_2 e1_3 hb
    have e0_0 := cells_heap HE0_2.out 0
    have e0_1 := cells_heap HE0_2.out 1
    have e0_2 := cells_heap HE0_2.out 2
    obtain ⟨e1_0, e1_1, e1_2, e1_3, -⟩ := four_at HE1_2.out
    go_wp2_with fail
    refine (lives15 W2).mono ?_
    rintro e wl ⟨rfl, hb⟩
    have HBL := Lib.hid (HB2.out.trans (hb.mono HB2.out.size))
    clear e0_0 e0_1 e0_2 e1_0 e1_1 e1_2 e1_3 hb
    go_wp2_with fail
    go_ret
    exact ⟨rfl, HBL.out⟩
set_option maxRecDepth 100000 in
set_option maxHeartbeats 16000000 in
theorem plans_ok (off : Int) (a0 : Option Addr) (n0 ca0 : Nat) (b0 : Option Addr) (m0 cb0 : Nat) (F T G U : Nat → Int) (c : Int) (a : Option Addr) (n ca : Nat) (r b : Int) (B P : Nat → Int) (now : Int) (w : World) (hS0 : Sps w a0 n0 F T) (hR0 : Sps w b0 m0 G U) (hS : Sps w a n B P) (hl : n0 ≤ 60 ∧ m0 ≤ 60) (hl2 : n ≤ 60) (hz : checkE off F T n0 G U m0 = 0) :
    Calls Try.prog 5 #[calV off a0 n0 ca0 b0 m0 cb0, conV c a n ca r b, .int .i64 now] w fun e w' => e = .returned (.bool true) ∧ Below w.heap.size w w' := by
  obtain ⟨B2, s0, s1, sz⟩ := box2 w #[.int .i64 off, .slice a0 n0 ca0, .slice b0 m0 cb0] #[.int .i64 c, .slice a n ca, .int .i64 r, .int .i64 b] 24 27
  have HE0_0 := Lib.hid s0
  have HE1_0 := Lib.hid s1
  have HB0 := Lib.hid B2
  have HZ0 := Lib.hid sz
  have hli := light15 off a0 n0 ca0 b0 m0 cb0 c a n ca r b ((w.alloc (.cells #[.int .i64 off, .slice a0 n0 ca0, .slice b0 m0 cb0] 24)).alloc (.cells #[.int .i64 c, .slice a n ca, .int .i64 r, .int .i64 b] 27)) hS0.1 hR0.1 hS.1
  rw [decide_eq_true hl, decide_eq_true hl2] at hli
  have hd := checkE_ok hz
  obtain ⟨V, E, hU⟩ := Cal.track (⟨F, T, n0, G, U, m0, off⟩ : Cal) B now
  have HCK := Lib.hid (fun W (hb : Below w.heap.size w W) => rcheck10 off a0 n0 ca0 F T b0 m0 cb0 G U W (hS0.kept hb) (hR0.kept hb))
  have HNW := Lib.hid (fun W (hb : Below w.heap.size w W) => clock_in off a0 n0 ca0 b0 m0 cb0 F T G U W (hS0.kept hb) (hR0.kept hb) hz)
  have HLF := Lib.hid (sps_lt hS)
  have HPL := Lib.hid (fun W L (hb : Below w.heap.size w W) (hC : Ck L (⟨F, T, n0, G, U, m0, off⟩ : Cal) W) (hL : w.heap.size ≤ L.C) => plan_all hC hd c a n ca r b B P now (hS.kept hb) (fun x h1 h2 => by have := sps_lt hS x h1 h2; omega) V E hU)
  have HRP : Hid (∀ W, Below w.heap.size w W → Calls Try.prog 22 #[calV off a0 n0 ca0 b0 m0 cb0, conV c a n ca r b, .int .i64 now] W (fun e w' => ∃ v er ls, e = .returned (.tuple #[v, .int .i64 er]) ∧ OQ 39 w' W.heap.size v ls ∧ PlanG (⟨F, T, n0, G, U, m0, off⟩ : Cal) (goodC c n r b B P) n B V E now ls er ∧ Below W.heap.size W w')) := Lib.hid (fun W hb => rplan_all (D := (⟨F, T, n0, G, U, m0, off⟩ : Cal)) hd a0 ca0 b0 cb0 c a n ca r b B P now W (hS0.kept hb) (hR0.kept hb) (hS.kept hb) V E hU)
  have HEL := Lib.hid (fun W L (hC : Ck L (⟨F, T, n0, G, U, m0, off⟩ : Cal) W) (y : Int) (x0 : 0 ≤ now) (xy : now ≤ y) (y1 : y ≤ 1125899906842624) => elapsed_ok hC hd now y x0 xy y1)
  have HSP := Lib.hid hS
  have HU := Lib.hid hU
  rw [hz] at HCK
  obtain ⟨D, eD⟩ : ∃ D : Cal, (⟨F, T, n0, G, U, m0, off⟩ : Cal) = D := ⟨_, rfl⟩
  rw [eD] at HNW HPL HRP HU HEL
  clear hz eD hd hU
  have e0_0 := cells_heap HE0_0.out 0
  have e0_1 := cells_heap HE0_0.out 1
  have e0_2 := cells_heap HE0_0.out 2
  obtain ⟨e1_0, e1_1, e1_2, e1_3, -⟩ := four_at HE1_0.out
  clear B2 sz s0 s1
  clear hS0 hR0 hS hl hl2
  unfold conV at *
  unfold calV at *
  go_enter Try.func5, Try.ntmps5
  go_wp2_with fail
  generalize ((w.alloc (.cells #[.int .i64 off, .slice a0 n0 ca0, .slice b0 m0 cb0] 24)).alloc (.cells #[.int .i64 c, .slice a n ca, .int .i64 r, .int .i64 b] 27)) = W0 at HB0 HZ0 HE0_0 HE1_0 e0_0 e0_1 e0_2 e1_0 e1_1 e1_2 e1_3 hli ⊢
  refine (hli).mono ?_
  rintro e W1 ⟨rfl, hb⟩
  have HB1 := Lib.hid (HB0.out.trans (hb.mono HB0.out.size))
  have HE0_1 := Lib.hid (ex_below HE0_0.out hb)
  have HE1_1 := Lib.hid (ex_below HE1_0.out hb)
  clear e0_0 e0_1 e0_2 e1_0 e1_1 e1_2 e1_3 hb
  have e0_0 := cells_heap HE0_1.out 0
  have e0_1 := cells_heap HE0_1.out 1
  have e0_2 := cells_heap HE0_1.out 2
  obtain ⟨e1_0, e1_1, e1_2, e1_3, -⟩ := four_at HE1_1.out
  go_wp2_with fail
  refine (HCK.out W1 HB1.out).mono ?_
  rintro e W2 ⟨rfl, hb⟩
  have HB2 := Lib.hid (HB1.out.trans (hb.mono HB1.out.size))
  have HE0_2 := Lib.hid (ex_below HE0_1.out hb)
  have HE1_2 := Lib.hid (ex_below HE1_1.out hb)
  clear e0_0 e0_1 e0_2 e1_0 e1_1 e1_2 e1_3 hb
  have e0_0 := cells_heap HE0_2.out 0
  have e0_1 := cells_heap HE0_2.out 1
  have e0_2 := cells_heap HE0_2.out 2
  obtain ⟨e1_0, e1_1, e1_2, e1_3, -⟩ := four_at HE1_2.out
  go_wp2_with fail
  refine (HNW.out W2 HB2.out).mono ?_
  rintro e W3 ⟨L, rfl, hC, hle, hb⟩
  have HB3 := Lib.hid (HB2.out.trans (hb.mono HB2.out.size))
  have HE0_3 := Lib.hid (ex_below HE0_2.out hb)
  have HE1_3 := Lib.hid (ex_below HE1_2.out hb)
  have HN0 : Hid (w.heap.size ≠ L.C) := Lib.hid (by have := ex_lt HE0_2.out; omega)
  have HN1 : Hid (w.heap.size + 1 ≠ L.C) := Lib.hid (by have := ex_lt HE1_2.out; omega)
  have HC3 := Lib.hid hC
  have HM3 := Lib.hid hC.pl.lt
  have HL : Hid (w.heap.size ≤ L.C) := Lib.hid (Nat.le_trans HB2.out.size hle)
  clear e0_0 e0_1 e0_2 e1_0 e1_1 e1_2 e1_3 hb hC hle
  have e0_0 := cells_heap HE0_3.out 0
  have e0_1 := cells_heap HE0_3.out 1
  have e0_2 := cells_heap HE0_3.out 2
  obtain ⟨e1_0, e1_1, e1_2, e1_3, -⟩ := four_at HE1_3.out
  go_wp2_with fail
  refine (HPL.out W3 L HB3.out HC3.out HL.out).mono ?_
  rintro e W4 ⟨v, er, ls, rfl, hQ, hP, hC, ho⟩
  have HB4 := Lib.hid (HB3.out.trans (ho.toBelow HB3.out.size (fun k hk => hk ▸ HL.out)))
  have HE0_4 := Lib.hid (ex_only HE0_3.out ho HN0.out)
  have HE1_4 := Lib.hid (ex_only HE1_3.out ho HN1.out)
  have HM4 := Lib.hid (Nat.lt_of_lt_of_le HM3.out ho.size)
  have HC4 := Lib.hid hC
  have HQ4 := Lib.hid hQ
  have HP4 := Lib.hid hP
  clear hQ hP
  clear e0_0 e0_1 e0_2 e1_0 e1_1 e1_2 e1_3 ho hC
  have e0_0 := cells_heap HE0_4.out 0
  have e0_1 := cells_heap HE0_4.out 1
  have e0_2 := cells_heap HE0_4.out 2
  obtain ⟨e1_0, e1_1, e1_2, e1_3, -⟩ := four_at HE1_4.out
  go_wp2_with fail
  refine (HRP.out W4 HB4.out).mono ?_
  rintro e W5 ⟨v', er', ls', rfl, hQ', hP', hb⟩
  have HB5 := Lib.hid (HB4.out.trans (hb.mono HB4.out.size))
  have HE0_5 := Lib.hid (ex_below HE0_4.out hb)
  have HE1_5 := Lib.hid (ex_below HE1_4.out hb)
  have HM5 := Lib.hid (Nat.lt_of_lt_of_le HM4.out hb.size)
  have HC5 := Lib.hid (HC4.out.kept hb)
  have HQ5 := Lib.hid (HQ4.out.kept hb)
  have HR5 := Lib.hid hQ'
  obtain ⟨rfl, rfl⟩ := PlanG.same HU.out HP4.out hP'
  clear hQ' hP'
  clear e0_0 e0_1 e0_2 e1_0 e1_1 e1_2 e1_3 hb
  have e0_0 := cells_heap HE0_5.out 0
  have e0_1 := cells_heap HE0_5.out 1
  have e0_2 := cells_heap HE0_5.out 2
  obtain ⟨e1_0, e1_1, e1_2, e1_3, -⟩ := four_at HE1_5.out
  obtain ⟨va, vc, hsh, hml, -⟩ := HQ5.out.shape
  subst hsh
  obtain ⟨ra, rc, hsh, -, -⟩ := HR5.out.shape
  subst hsh
  have HKK : Hid (((er != 0) = true ∧ ls.length = 0) ∨ (er = 0 ∧ ls = rows now B V n ∧ Seq D now B V n ∧ lvs B P n = true ∧ n ≤ 6)) := Lib.hid (by
    rcases HP4.out with ⟨_, rfl, rfl⟩ | ⟨hg, ⟨rfl, rfl, h1⟩ | ⟨h0, rfl, _⟩⟩
    · exact .inl ⟨by decide, rfl⟩
    · exact .inr ⟨rfl, rfl, h1, (goodC_n hg).2.2.2.2, (goodC_n hg).2.2.2.1⟩
    · exact .inl ⟨by simpa using h0, rfl⟩)
  obtain ⟨K, hK⟩ : ∃ K, ls.length = K := ⟨_, rfl⟩
  have HK := Lib.hid hK
  unfold maxLen at hml
  rw [hK] at HKK hml ⊢
  have HB3s := Lib.hid HB3.out.size
  have HLC3 := Lib.hid HM3.out
  clear hK
  go_wp2_with fail
  clear e0_0 e0_1 e0_2 e1_0 e1_1 e1_2 e1_3
  go_loopw [13, 58] (fun s i wr => ∃ q : Nat, q ≤ K ∧ i = .int .i64 q ∧ s = .int .i64 (bsum B q) ∧ Hid (Below w.heap.size w wr) ∧ Hid (Ck L D wr) ∧ Hid (OQ 29 wr W3.heap.size (.slice va K vc) ls) ∧ Hid (OQ 39 wr W4.heap.size (.slice ra K rc) ls) ∧ Hid (wr.heap[w.heap.size + 1]? = some (.cells #[.int .i64 c, .slice a n ca, .int .i64 r, .int .i64 b] 27 (0, 0)))) (fun _ i _ => K - (intOf i).toNat)
  case atStart => exact ⟨0, Nat.zero_le _, rfl, rfl, HB5, HC5, by rw [HK.out] at HQ5; exact HQ5, by rw [HK.out] at HR5; exact HR5, HE1_5⟩
  case round =>
    obtain ⟨q, hq, rfl, rfl, HBq, HCq, HQq, HRq, HEq⟩ := hrel
    by_cases hlt : q < K
    · have hs := HKK.out.resolve_left (fun h => by omega)
      obtain ⟨h0, hls, hsq, hlv, hn6'⟩ := hs
      have hKn : K = n := by rw [← HK.out, hls, rows_len]
      obtain ⟨f0, f1, f2, f3⟩ := hsq.far hlv q (by omega)
      obtain ⟨s0, s1⟩ := bsum_bounds hlv q (by omega)
      obtain ⟨l1, l2, _, _⟩ := lvs_at hlv (show q < n by omega)
      have hn6 : q < 60 := by omega
      obtain ⟨ab, ao, hab, habl, d0, -⟩ := HSP.out.at HBq.out q (by omega)
      subst hab
      obtain ⟨_, k1, -⟩ := four_at HEq.out
      have hget := rows_get now B V n q (by omega)
      rw [← hls] at hget
      obtain ⟨a1, c1, e1, -, hr1⟩ := HQq.out.shape
      injection e1 with e1 e1b e1c
      subst e1
      clear e1b e1c
      obtain ⟨g1, hg1, hgb1, hgl1, hc1⟩ := hr1 (by rw [HK.out]; omega)
      obtain ⟨u0, u1, u2, u3⟩ := hc1 q (by rw [HK.out]; exact hlt)
      obtain ⟨a2, c2, e2, -, hr2⟩ := HRq.out.shape
      injection e2 with e2 e2b e2c
      subst e2
      clear e2b e2c
      obtain ⟨g2, hg2, hgb2, hgl2, hc2⟩ := hr2 (by rw [HK.out]; omega)
      obtain ⟨t0, t1, t2, t3⟩ := hc2 q (by rw [HK.out]; exact hlt)
      subst hg1 hg2
      rw [hget] at u0 u1 u2 u3 t0 t1 t2 t3
      simp only at u0 u1 u2 u3 t0 t1 t2 t3
      have HEE := Lib.hid (HEL.out wr L HCq.out (V q) f0 (by omega) f2)
      rw [f3] at HEE
      have HSB := Lib.hid (show bsum B q + B q = bsum B (q + 1) from rfl)
      obtain ⟨bq, hbq⟩ : ∃ x, B q = x := ⟨_, rfl⟩
      obtain ⟨sq, hsqq⟩ : ∃ x, bsum B q = x := ⟨_, rfl⟩
      obtain ⟨vq, hvq⟩ : ∃ x, V q = x := ⟨_, rfl⟩
      obtain ⟨fq, hfq⟩ : ∃ x, frm now V q = x := ⟨_, rfl⟩
      obtain ⟨s2, hs2⟩ : ∃ x, bsum B (q + 1) = x := ⟨_, rfl⟩
      rw [hbq] at d0 u2 t2 l1 l2 HSB
      rw [hsqq] at s0 s1 HSB ⊢
      rw [hvq] at u3 t3 HEE
      rw [hfq] at u1 t1
      rw [hs2] at HEE HSB
      have w1 : IntKind.i64.wrap (sq + bq) = s2 := by rw [← HSB.out]; exact IntWalk.i64_in _ (by omega)
      have q0 : (0 : Int) ≤ (q : Int) := by omega
      have ql : (q : Int) < (K : Int) := by omega
      have qn : (q : Int) < (n : Int) := by omega
      have qn' : q < n := by omega
      have HS2 := Lib.hid hs2
      have U4 := Lib.hid (And.intro u0 (And.intro u1 (And.intro u2 u3)))
      have T4 := Lib.hid (And.intro t0 (And.intro t1 (And.intro t2 t3)))
      clear h0 hls hsq hlv hKn f0 f1 f2 f3 s0 s1 l1 l2 hget hr1 hr2 hc1 hc2 hbq hsqq hvq hfq hs2 t0 t1 t2 t3 u0 u1 u2
      have hn1 : ¬ g1 = L.C := by have := HLC3.out; omega
      have hn2 : ¬ g2 = L.C := by have := HM4.out; omega
      have qe := fun (w : World) => neq_rstep (q : Int) fq bq vq w
      have ge := guard_rstep .neq
      go_wp2_with fail
      refine HEE.out.mono ?_
      rintro e w9 ⟨rfl, hC9, ho9⟩
      have HB9 := Lib.hid (HBq.out.trans (ho9.toBelow HBq.out.size (fun k hk => hk ▸ HL.out)))
      have HC9 := Lib.hid hC9
      have HQ9 := Lib.hid (HQq.out.only ho9 HLC3.out)
      have HR9 := Lib.hid (HRq.out.only ho9 HM4.out)
      have HE9 := Lib.hid (ex_only HEq.out ho9 HN1.out)
      have v0 := (ho9.cell (p := ⟨g1, q * 4, none⟩) hgl1 hn1).trans U4.out.1
      have v1 := (ho9.cell (p := ⟨g1, q * 4 + 1, none⟩) hgl1 hn1).trans U4.out.2.1
      have v2 := (ho9.cell (p := ⟨g1, q * 4 + 2, none⟩) hgl1 hn1).trans U4.out.2.2.1
      have v3 := (ho9.cell (p := ⟨g1, q * 4 + 3, none⟩) hgl1 hn1).trans U4.out.2.2.2
      have x0 := (ho9.cell (p := ⟨g2, q * 4, none⟩) hgl2 hn2).trans T4.out.1
      have x1 := (ho9.cell (p := ⟨g2, q * 4 + 1, none⟩) hgl2 hn2).trans T4.out.2.1
      have x2 := (ho9.cell (p := ⟨g2, q * 4 + 2, none⟩) hgl2 hn2).trans T4.out.2.2.1
      have x3 := (ho9.cell (p := ⟨g2, q * 4 + 3, none⟩) hgl2 hn2).trans T4.out.2.2.2
      clear hC9 ho9 d0 k1 u3 w1
      go_wp2_with fail
      go_quiet (fail)
      all_goals
        go_wp2_with fail
        go_roundw
        case rel => exact ⟨q + 1, hlt, by go_num, by rw [HS2.out], Lib.hid (below_drewN' HB9.out _), Lib.hid (HC9.out.drewN _), Lib.hid (HQ9.out.keep (fun _ _ _ => rfl)), Lib.hid (HR9.out.keep (fun _ _ _ => rfl)), HE9⟩
        case measure => simp [intOf]; omega
    · obtain rfl : q = K := by omega
      obtain ⟨_, k1, -⟩ := four_at HEq.out
      have ql : decide ((q : Int) < (q : Int)) = false := decide_eq_false (by omega)
      have hfi : (er != 0) = true ∨ ((er != 0) = false ∧ ((q : Int) == (n : Int)) = true) := by
        rcases HKK.out with ⟨he, _⟩ | ⟨he, hls, _⟩
        · exact .inl he
        · refine .inr ⟨by simpa using he, ?_⟩
          have : q = n := by rw [← HK.out, hls, rows_len]
          simp [this]
      have hlv := lives15 wr
      rcases hfi with f1 | ⟨f1, f2⟩
      all_goals
        go_wp2_with fail
        refine hlv.mono ?_
        rintro e wl ⟨rfl, hb⟩
        have HBL := Lib.hid (HBq.out.trans (hb.mono HBq.out.size))
        clear hb hlv
        go_wp2_with fail
        go_ret
        exact ⟨rfl, HBL.out⟩
theorem plans_walk (off : Int) (a0 : Option Addr) (n0 ca0 : Nat) (b0 : Option Addr) (m0 cb0 : Nat) (F T G U : Nat → Int) (c : Int) (a : Option Addr) (n ca : Nat) (r b : Int) (B P : Nat → Int) (now : Int) (w : World) (hS0 : Sps w a0 n0 F T) (hR0 : Sps w b0 m0 G U) (hS : Sps w a n B P) :
    Calls Try.prog 5 #[calV off a0 n0 ca0 b0 m0 cb0, conV c a n ca r b, .int .i64 now] w fun e w' => e = .returned (.bool true) ∧ Below w.heap.size w w' := by
  by_cases hz : ¬ ((n0 ≤ 60 ∧ m0 ≤ 60) ∧ n ≤ 60) ∨ checkE off F T n0 G U m0 ≠ 0
  · exact plans_skip off a0 n0 ca0 b0 m0 cb0 F T G U c a n ca r b B P now w hS0 hR0 hS hz
  · simp only [not_or, Decidable.not_not] at hz
    exact plans_ok off a0 n0 ca0 b0 m0 cb0 F T G U c a n ca r b B P now w hS0 hR0 hS hz.1.1 hz.1.2 hz.2
end Go.Proofs.Ythnnbmofpmedhaa

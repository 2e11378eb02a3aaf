/- Tickets: Fire. -/
import Derived.Test.YthnnbmofpmedhaaGreatTkD
namespace Go.Proofs.YthnnbmofpmedhaaGreat
open Go.RowKit
structure FireS (L : Loc) (D : Cal) (w w' : World) (X C Z : Array Value) : Prop where
  ck : Ck L D w'
  only : Only (· = L.C) w w'
  tk : w'.heap[w.heap.size]? = some (.cells X 48 (0, 0))
  con : w'.heap[w.heap.size + 1]? = some (.cells C 80 (0, 0))
  res : w'.heap[w.heap.size + 1 + 1]? = some (.cells Z 48 (0, 0))
theorem FireS.below {L : Loc} {D : Cal} {w w' w'' : World} {X C Z : Array Value} (h : FireS L D w w' X C Z) (hb : Below w'.heap.size w' w'') : FireS L D w w'' X C Z :=
  ⟨h.ck.kept hb, h.only.trans (Only.below hb), ex_below h.tk hb, ex_below h.con hb, ex_below h.res hb⟩
theorem FireS.go {L : Loc} {D : Cal} {w w' w'' : World} {X C Z : Array Value} (h : FireS L D w w' X C Z) (hL : L.C < w.heap.size) (hC : Ck L D w'') (ho : Only (· = L.C) w' w'') : FireS L D w w'' X C Z :=
  ⟨hC, h.only.trans ho, ex_only h.tk ho (by omega), ex_only h.con ho (by omega), ex_only h.res ho (by omega)⟩
theorem FireS.put4 {L : Loc} {D : Cal} {w w' : World} {X C Z : Array Value} (h : FireS L D w w' X C Z) (h0 : Ck L D w) {M : Nat} (hM : w.heap.size + 1 + 1 < M) {x0 x1 x2 x3 : Value} {t : TypeId} (hz : w'.heap[M]? = some (.cells #[x0, x1, x2, x3] t (0, 0))) (ht : t ≠ 2) (a b c d : Value) : FireS L D w (put4 w' M a b c d) X C Z := by
  obtain ⟨_, u2, u3⟩ := put4_at hz a b c d
  exact ⟨h0.other (by omega) h.ck (h.ck.apT hz ht) (fun k _ => u2 k) (by omega), h.only.put4 (by omega) a b c d, (u2 _ (by omega)).trans h.tk, (u2 _ (by omega)).trans h.con, (u2 _ (by omega)).trans h.res⟩
/-- What becomes of a ticket that fires. -/
def GaveF (L : Loc) (D : Cal) (w : World) (R : Int → Int → Int → Int → Bool → Int → Prop) (id cn lv tl : Int) (e : Ending) (w' : World) : Prop :=
  ∃ l f c d ok er, R l f c d ok er ∧ ((ok = true ∧ e = .returned (.tuple #[tkV id cn 1 l 0 f c d tl, .int .i64 lv, .int .i64 0])) ∨ (ok = false ∧ e = .returned (.tuple #[tkV id cn 3 lv 0 0 0 0 tl, .int .i64 lv, .int .i64 0]))) ∧ Ck L D w' ∧ Only (· = L.C) w w'
set_option maxRecDepth 100000 in
set_option maxHeartbeats 4000000 in
theorem fire_no (k : Option Addr) (id cn st lv ge fr lf du tl : Int) (c : Int) (a : Option Addr) (n ca : Nat) (r b : Int) (now : Int) (w : World) (hst : (st == 1) = false) :
    Calls Tryz.prog 46 #[tkV id cn st lv ge fr lf du tl, .pointer k, conV c a n ca r b, .int .i64 now] w fun e w' => e = .returned (.tuple #[tkV 0 0 0 0 0 0 0 0 0, .int .i64 0, .int .i64 33]) ∧ Below w.heap.size w w' := by
  obtain ⟨B2, s0, s1, s2, sz⟩ := box3 w #[.int .u64 id, .int .i64 cn, .int .i64 st, .int .i64 lv, .int .u64 ge, .int .i64 fr, .int .i64 lf, .int .i64 du, .int .i64 tl] #[.int .i64 c, .slice a n ca, .int .i64 r, .int .i64 b] #[.int .u64 0, .int .i64 0, .int .i64 0, .int .i64 0, .int .u64 0, .int .i64 0, .int .i64 0, .int .i64 0, .int .i64 0] 48 80 48
  obtain ⟨c0, c1, c2, c3, c4, c5, c6, c7, c8⟩ := nine_at s0
  obtain ⟨z0, z1, z2, z3, z4, z5, z6, z7, z8⟩ := nine_at s2
  obtain ⟨y0, y1, y2, y3, y4, y5, y6, y7, y8⟩ := nine_fr s2
  have HB := Lib.hid B2
  have HAL := Lib.hid (fun w => al_fire st false hst w)
  unfold tkV conV
  clear B2 s0 s1 s2 sz hst
  go_enter Tryz.func46, Tryz.ntmps46
  go_wp2_with (go_at_call 74; (with_reducible refine (HAL.out _).mono ?_); rintro e w' ⟨rfl, rfl⟩)
  exact bodyPost_ret (v := .tuple #[.agg #[.int .u64 0, .int .i64 0, .int .i64 0, .int .i64 0, .int .u64 0, .int .i64 0, .int .i64 0, .int .i64 0, .int .i64 0], .int .i64 0, .int .i64 33]) (by simp [results, Tryz.results46, go_sem, z0, z1, z2, z3, z4, z5, z6, z7, z8]) rfl ⟨rfl, HB.out⟩
set_option maxRecDepth 100000 in
set_option maxHeartbeats 4000000 in
theorem fire_busy (k : Option Addr) (id cn st lv ge fr lf du tl : Int) (c : Int) (a : Option Addr) (n ca : Nat) (r b : Int) (now : Int) (w : World) (hst : (st == 1) = true) (hdu : decide (now < du) = true) :
    Calls Tryz.prog 46 #[tkV id cn st lv ge fr lf du tl, .pointer k, conV c a n ca r b, .int .i64 now] w fun e w' => e = .returned (.tuple #[tkV 0 0 0 0 0 0 0 0 0, .int .i64 0, .int .i64 52]) ∧ Below w.heap.size w w' := by
  obtain ⟨B2, s0, s1, s2, sz⟩ := box3 w #[.int .u64 id, .int .i64 cn, .int .i64 st, .int .i64 lv, .int .u64 ge, .int .i64 fr, .int .i64 lf, .int .i64 du, .int .i64 tl] #[.int .i64 c, .slice a n ca, .int .i64 r, .int .i64 b] #[.int .u64 0, .int .i64 0, .int .i64 0, .int .i64 0, .int .u64 0, .int .i64 0, .int .i64 0, .int .i64 0, .int .i64 0] 48 80 48
  obtain ⟨c0, c1, c2, c3, c4, c5, c6, c7, c8⟩ := nine_at s0
  obtain ⟨z0, z1, z2, z3, z4, z5, z6, z7, z8⟩ := nine_at s2
  obtain ⟨y0, y1, y2, y3, y4, y5, y6, y7, y8⟩ := nine_fr s2
  have HB := Lib.hid B2
  have HAL := Lib.hid (fun w => al_fire st true hst w)
  unfold tkV conV
  clear B2 s0 s1 s2 sz hst
  go_enter Tryz.func46, Tryz.ntmps46
  go_wp2_with (go_at_call 74; (with_reducible refine (HAL.out _).mono ?_); rintro e w' ⟨rfl, rfl⟩)
  exact bodyPost_ret (v := .tuple #[.agg #[.int .u64 0, .int .i64 0, .int .i64 0, .int .i64 0, .int .u64 0, .int .i64 0, .int .i64 0, .int .i64 0, .int .i64 0], .int .i64 0, .int .i64 52]) (by simp [results, Tryz.results46, go_sem, z0, z1, z2, z3, z4, z5, z6, z7, z8]) rfl ⟨rfl, HB.out⟩
set_option maxRecDepth 100000 in
set_option maxHeartbeats 4000000 in
theorem fire_any {L : Loc} {D : Cal} {w : World} (h : Ck L D w) (hd : D.ok) (id cn lv ge fr lf du tl : Int) (c : Int) (a : Option Addr) (n ca : Nat) (r b : Int) (B P : Nat → Int) (now : Int) (hS : Sps w a n B P) (hg : goodC c n r b B P = true) (hfar : ∀ x, 0 < n → a = some x → x.block ≠ L.C) (l0 : 0 ≤ lv) (l1 : lv < n) (hdu : decide (now < du) = false) (t0 : 0 ≤ tl) (t1 : tl < 2147483648) :
    Calls Tryz.prog 46 #[tkV id cn 1 lv ge fr lf du tl, .pointer (some ⟨L.K, 0, none⟩), conV c a n ca r b, .int .i64 now] w (GaveF L D w (Nxtd D n B lv now) id cn lv (tl + 1)) := by
  obtain ⟨B2, s0, s1, s2, sz⟩ := box3 w #[.int .u64 id, .int .i64 cn, .int .i64 1, .int .i64 lv, .int .u64 ge, .int .i64 fr, .int .i64 lf, .int .i64 du, .int .i64 tl] #[.int .i64 c, .slice a n ca, .int .i64 r, .int .i64 b] #[.int .u64 0, .int .i64 0, .int .i64 0, .int .i64 0, .int .u64 0, .int .i64 0, .int .i64 0, .int .i64 0, .int .i64 0] 48 80 48
  obtain ⟨c0, c1, c2, c3, c4, c5, c6, c7, c8⟩ := nine_at s0
  obtain ⟨g0, g1, g2, g3, -⟩ := four_at s1
  have hck := fun (W : World) (hW : Below w.heap.size w W) => check_any c a n ca r b B P W (hS.kept hW)
  rw [hg] at hck
  obtain ⟨_, _, n1, n6, _⟩ := goodC_n hg
  have HCK := Lib.hid hck
  have HAL := Lib.hid (fun w => al_fire 1 true rfl w)
  have HIN := Lib.hid (fun w => tin_i lv 0 ((n : Int) - 1) true (by simp [rngB]; omega) w)
  have HSP := Lib.hid (fun (W : World) => tk_step id cn 1 lv ge fr lf du (tl + 1) W)
  have HEN := Lib.hid (fun (W : World) => tk_ended id cn 1 lv ge fr lf du (tl + 1) W)
  have HAT := Lib.hid (fun (sn l f c d : Int) (W : World) => tk_at id cn 1 lv ge fr lf du (tl + 1) sn l f c d W)
  have hLC := h.pl.lt
  have HFI := Lib.hid (show FireS L D w _ #[.int .u64 id, .int .i64 cn, .int .i64 1, .int .i64 lv, .int .u64 ge, .int .i64 fr, .int .i64 lf, .int .i64 du, .int .i64 tl] #[.int .i64 c, .slice a n ca, .int .i64 r, .int .i64 b] #[.int .u64 0, .int .i64 0, .int .i64 0, .int .i64 0, .int .u64 0, .int .i64 0, .int .i64 0, .int .i64 0, .int .i64 0] from ⟨h.kept B2, Only.below B2, s0, s1, s2⟩)
  have HNX : Hid (∀ W, FireS L D w W #[.int .u64 id, .int .i64 cn, .int .i64 1, .int .i64 lv, .int .u64 ge, .int .i64 fr, .int .i64 lf, .int .i64 du, .int .i64 (tl + 1)] #[.int .i64 c, .slice a n ca, .int .i64 r, .int .i64 b] #[.int .u64 0, .int .i64 0, .int .i64 0, .int .i64 0, .int .u64 0, .int .i64 0, .int .i64 0, .int .i64 0, .int .i64 0] → Calls Tryz.prog 76 #[.pointer (some ⟨L.K, 0, none⟩), conV c a n ca r b, stepV lv fr lf du, .int .i64 now] W (Gave3 L D W (Nxtd D n B lv now))) := Lib.hid (fun W hW => next_any hW.ck hd c a n ca r b B P lv fr lf du now (hS.only hW.only (fun x h1 h2 => hfar x h1 h2)) hg)
  have HB := Lib.hid B2
  have H0 := Lib.hid h
  have e1 : IntKind.i64.wrap ((n : Int) - 1) = (n : Int) - 1 := IntWalk.i64_in _ (by omega)
  have e2 : IntKind.i64.wrap (tl + 1) = tl + 1 := IntWalk.i64_in _ (by omega)
  have d2 : decide (tl < 2147483648) = true := decide_eq_true t1
  unfold tkV conV stepV at *
  clear B2 s0 s1 s2 sz hck h hS hg hd hfar
  go_enter Tryz.func46, Tryz.ntmps46
  go_wp2_with (go_at_call 74; (with_reducible refine (HAL.out _).mono ?_); rintro e w' ⟨rfl, rfl⟩)
  generalize (((w.alloc (.cells #[.int .u64 id, .int .i64 cn, .int .i64 1, .int .i64 lv, .int .u64 ge, .int .i64 fr, .int .i64 lf, .int .i64 du, .int .i64 tl] 48)).alloc (.cells #[.int .i64 c, .slice a n ca, .int .i64 r, .int .i64 b] 80)).alloc (.cells #[.int .u64 0, .int .i64 0, .int .i64 0, .int .i64 0, .int .u64 0, .int .i64 0, .int .i64 0, .int .i64 0, .int .i64 0] 48)) = W at HB HFI c0 c1 c2 c3 c4 c5 c6 c7 c8 g0 g1 g2 g3 ⊢
  refine (HCK.out W HB.out).mono ?_
  rintro e w3 ⟨rfl, hb3⟩
  have HF3 := Lib.hid (HFI.out.below hb3)
  clear hb3 c0 c1 c2 c3 c4 c5 c6 c7 c8 g0 g1 g2 g3 HFI HB
  obtain ⟨c0, c1, c2, c3, c4, c5, c6, c7, c8⟩ := nine_at HF3.out.tk
  obtain ⟨f0, f1, f2, f3, f4, f5, f6, f7, f8⟩ := nine_fr HF3.out.tk
  obtain ⟨g0, g1, g2, g3, -⟩ := four_at HF3.out.con
  simp only [errG]
  go_wp2_with (go_at_call 47; (with_reducible refine (HIN.out _).mono ?_); rintro e w' ⟨rfl, rfl⟩)
  have HF : Hid (FireS L D w (w3.setCell ⟨w.heap.size, 8, none⟩ (.int .i64 (tl + 1))) #[.int .u64 id, .int .i64 cn, .int .i64 1, .int .i64 lv, .int .u64 ge, .int .i64 fr, .int .i64 lf, .int .i64 du, .int .i64 (tl + 1)] #[.int .i64 c, .slice a n ca, .int .i64 r, .int .i64 b] #[.int .u64 0, .int .i64 0, .int .i64 0, .int .i64 0, .int .u64 0, .int .i64 0, .int .i64 0, .int .i64 0, .int .i64 0]) := Lib.hid (by
    have hh := heap_put HF3.out.tk 8 (.int .i64 (tl + 1))
    simp only [List.setIfInBounds_toArray, List.set_cons_zero, List.set_cons_succ] at hh
    exact ⟨H0.out.other (Nat.le_refl _) HF3.out.ck (HF3.out.ck.apT HF3.out.tk (by decide)) (fun k _ hk => Below.heap_setCell _ _ _ _ (by exact hk)) (by simp), HF3.out.only.setCell_new (p := ⟨w.heap.size, 8, none⟩) (Nat.le_refl _) _, hh, (Below.heap_setCell _ _ _ _ (by show _ ≠ w.heap.size; omega)).trans HF3.out.con, (Below.heap_setCell _ _ _ _ (by show _ ≠ w.heap.size; omega)).trans HF3.out.res⟩)
  clear c0 c1 c2 c3 c4 c5 c6 c7 c8 f0 f1 f2 f3 f4 f5 f6 f7 f8 g0 g1 g2 g3 HF3
  generalize w3.setCell ⟨w.heap.size, 8, none⟩ (.int .i64 (tl + 1)) = W1 at HF ⊢
  have h0 : FireS L D w W1.drew #[.int .u64 id, .int .i64 cn, .int .i64 1, .int .i64 lv, .int .u64 ge, .int .i64 fr, .int .i64 lf, .int .i64 du, .int .i64 (tl + 1)] #[.int .i64 c, .slice a n ca, .int .i64 r, .int .i64 b] #[.int .u64 0, .int .i64 0, .int .i64 0, .int .i64 0, .int .u64 0, .int .i64 0, .int .i64 0, .int .i64 0, .int .i64 0] := HF.out.below (Below.refl _ _).drew
  refine wp_region_held_drew (S := fun w' => FireS L D w w' #[.int .u64 id, .int .i64 cn, .int .i64 1, .int .i64 lv, .int .u64 ge, .int .i64 fr, .int .i64 lf, .int .i64 du, .int .i64 (tl + 1)] #[.int .i64 c, .slice a n ca, .int .i64 r, .int .i64 b] #[.int .u64 0, .int .i64 0, .int .i64 0, .int .i64 0, .int .u64 0, .int .i64 0, .int .i64 0, .int .i64 0, .int .i64 0]) (by kernel_rfl) h0 (fun hHeld => ?_)
  refine wpAnyH_take (i := 0) (v := ?_) rfl (by kernel_rfl) (by kernel_rfl) (by kernel_rfl) (fun _ _ _ h => h) (Or.inl ⟨by rfl, ?_⟩) (by assumption) ?_
  case refine_2 => (intro w1 hS1; (try dsimp only at hS1); skip; go_simp; try with_reducible rfl)
  try simp only [List.getElem_toArray, List.getElem_cons_zero, List.getElem_cons_succ, Act.put, List.setIfInBounds_toArray, List.set_cons_zero, List.set_cons_succ]
  refine wpAnyH_take (i := 1) (v := ?_) rfl (by kernel_rfl) (by kernel_rfl) (by kernel_rfl) (fun _ _ _ h => h) (Or.inl ⟨by rfl, ?_⟩) (by assumption) ?_
  case refine_2 => (intro w1 hS1; (try dsimp only at hS1); obtain ⟨g0, g1, g2, g3, -⟩ := four_at hS1.con; go_simp; try with_reducible rfl)
  try simp only [List.getElem_toArray, List.getElem_cons_zero, List.getElem_cons_succ, Act.put, List.setIfInBounds_toArray, List.set_cons_zero, List.set_cons_succ]
  refine wpAnyH_take (i := 2) (v := ?_) rfl (by kernel_rfl) (by kernel_rfl) (by kernel_rfl) (fun _ _ _ h => h) (Or.inl ⟨by rfl, ?_⟩) (by assumption) ?_
  case refine_2 => (intro w1 hS1; (try dsimp only at hS1); obtain ⟨c0, c1, c2, c3, c4, c5, c6, c7, c8⟩ := nine_at hS1.tk; go_simp; try with_reducible rfl)
  try simp only [List.getElem_toArray, List.getElem_cons_zero, List.getElem_cons_succ, Act.put, List.setIfInBounds_toArray, List.set_cons_zero, List.set_cons_succ]
  refine wpAnyH_take (i := 4) (v := ?_) rfl (by kernel_rfl) (by kernel_rfl) (by kernel_rfl) (fun _ _ _ h => h) (Or.inl ⟨by rfl, ?_⟩) (by assumption) ?_
  case refine_2 => (intro w1 hS1; (try dsimp only at hS1); skip; go_simp; try with_reducible rfl)
  try simp only [List.getElem_toArray, List.getElem_cons_zero, List.getElem_cons_succ, Act.put, List.setIfInBounds_toArray, List.set_cons_zero, List.set_cons_succ]
  refine wpAnyH_ready (rs := [3, 10]) (by kernel_rfl) (by simp) ?_
  refine AllReadyH.cons rfl (fun K hK => ?_) (AllReadyH.cons rfl (fun K hK => ?_) AllReadyH.nil)
  · go_simp
    refine (HSP.out _).mono ?_
    rintro e w4 ⟨rfl, hb4⟩
    have HF4 := Lib.hid ((HF.out.below (Below.refl _ _).drew).below hb4)
    clear hb4
    refine hK.out _ _ (HF4.out) (fun hHeld => ?_)
    clear hK K
    try simp only [List.getElem_toArray, List.getElem_cons_zero, List.getElem_cons_succ, Act.put, List.setIfInBounds_toArray, List.set_cons_zero, List.set_cons_succ]
    refine wpAnyH_ready (rs := [5, 10]) (by kernel_rfl) (by simp) ?_
    refine AllReadyH.cons rfl (fun K hK => ?_) (AllReadyH.cons rfl (fun K hK => ?_) AllReadyH.nil)
    · go_simp
      refine (HNX.out _ HF4.out).mono ?_
      rintro e w5 ⟨l, f, cc, d, ok, er, rfl, hR, hC, ho⟩
      have HRR := Lib.hid hR
      have HF5 := Lib.hid (HF4.out.go hLC hC ho)
      clear hR hC ho
      unfold stepV
      refine hK.out _ _ (HF5.out) (fun hHeld => ?_)
      clear hK K
      try simp only [List.getElem_toArray, List.getElem_cons_zero, List.getElem_cons_succ, Act.put, List.setIfInBounds_toArray, List.set_cons_zero, List.set_cons_succ]
      refine wpAnyH_take (i := 6) (v := ?_) rfl (by kernel_rfl) (by kernel_rfl) (by kernel_rfl) (fun _ _ _ h => h) (Or.inl ⟨by rfl, ?_⟩) (by assumption) ?_
      case refine_2 => (intro w1 hS1; (try dsimp only at hS1); skip; go_simp; try with_reducible rfl)
      try simp only [List.getElem_toArray, List.getElem_cons_zero, List.getElem_cons_succ, Act.put, List.setIfInBounds_toArray, List.set_cons_zero, List.set_cons_succ]
      refine wpAnyH_take (i := 7) (v := ?_) rfl (by kernel_rfl) (by kernel_rfl) (by kernel_rfl) (fun _ _ _ h => h) (Or.inl ⟨by rfl, ?_⟩) (by assumption) ?_
      case refine_2 => (intro w1 hS1; (try dsimp only at hS1); skip; go_simp; try with_reducible rfl)
      try simp only [List.getElem_toArray, List.getElem_cons_zero, List.getElem_cons_succ, Act.put, List.setIfInBounds_toArray, List.set_cons_zero, List.set_cons_succ]
      refine wpAnyH_take (i := 8) (v := ?_) rfl (by kernel_rfl) (by kernel_rfl) (by kernel_rfl) (fun _ _ _ h => h) (Or.inl ⟨by rfl, ?_⟩) (by assumption) ?_
      case refine_2 => (intro w1 hS1; (try dsimp only at hS1); skip; go_simp; try with_reducible rfl)
      try simp only [List.getElem_toArray, List.getElem_cons_zero, List.getElem_cons_succ, Act.put, List.setIfInBounds_toArray, List.set_cons_zero, List.set_cons_succ]
      refine wpAnyH_take (i := 9) (v := ?_) rfl (by kernel_rfl) (by kernel_rfl) (by kernel_rfl) (fun _ _ _ h => h) (Or.inl ⟨by rfl, ?_⟩) (by assumption) ?_
      case refine_2 => (intro w1 hS1; (try dsimp only at hS1); skip; go_simp; try with_reducible rfl)
      try simp only [List.getElem_toArray, List.getElem_cons_zero, List.getElem_cons_succ, Act.put, List.setIfInBounds_toArray, List.set_cons_zero, List.set_cons_succ]
      refine wpAnyH_ready (rs := [10]) (by kernel_rfl) (by simp) ?_
      refine AllReadyH.cons rfl (fun K hK => ?_) AllReadyH.nil
      go_simp
      refine hK.out _ _ (HF5.out.below ((Below.refl _ _).alloc (Nat.le_refl _) _)) (fun hHeld => ?_)
      clear hK K
      try simp only [List.getElem_toArray, List.getElem_cons_zero, List.getElem_cons_succ, Act.put, List.setIfInBounds_toArray, List.set_cons_zero, List.set_cons_succ]
      refine wpAnyH_ready (rs := [11]) (by kernel_rfl) (by simp) ?_
      refine AllReadyH.cons rfl (fun K hK => ?_) AllReadyH.nil
      go_simp
      refine hK.out _ _ (HF5.out.below ((Below.refl _ _).alloc (Nat.le_refl _) _)) (fun hHeld => ?_)
      clear hK K
      try simp only [List.getElem_toArray, List.getElem_cons_zero, List.getElem_cons_succ, Act.put, List.setIfInBounds_toArray, List.set_cons_zero, List.set_cons_succ]
      refine wpAnyH_take (i := 12) (v := ?_) rfl (by kernel_rfl) (by kernel_rfl) (by kernel_rfl) (fun _ _ _ h => h) (Or.inl ⟨by rfl, ?_⟩) (by assumption) ?_
      case refine_2 => (intro w1 hS1; (try dsimp only at hS1); skip; go_simp; try with_reducible rfl)
      try simp only [List.getElem_toArray, List.getElem_cons_zero, List.getElem_cons_succ, Act.put, List.setIfInBounds_toArray, List.set_cons_zero, List.set_cons_succ]
      refine wpAnyH_take (i := 13) (v := ?_) rfl (by kernel_rfl) (by kernel_rfl) (by kernel_rfl) (fun _ _ _ h => h) (Or.inl ⟨by rfl, ?_⟩) (by assumption) ?_
      case refine_2 => (intro w1 hS1; (try dsimp only at hS1); skip; go_simp; try with_reducible rfl)
      try simp only [List.getElem_toArray, List.getElem_cons_zero, List.getElem_cons_succ, Act.put, List.setIfInBounds_toArray, List.set_cons_zero, List.set_cons_succ]
      refine wpAnyH_done (by kernel_rfl) ?_ _
      have HF8 := Lib.hid (HF5.out.below ((Below.refl _ _).alloc (Nat.le_refl _) (.cells #[.int .i64 l, .int .i64 f, .int .i64 cc, .int .i64 d] 89)))
      have HV : Hid ((w5.alloc (.cells #[.int .i64 l, .int .i64 f, .int .i64 cc, .int .i64 d] 89)).heap[w5.heap.size]? = some (.cells #[.int .i64 l, .int .i64 f, .int .i64 cc, .int .i64 d] 89 (0, 0))) := Lib.hid (World.alloc_heap_new w5 _)
      have HM : Hid (w.heap.size + 1 + 1 < w5.heap.size) := Lib.hid (ex_lt HF5.out.res)
      clear HF HF4 HF5
      have HF := HF8
      clear HF8
      have HW := Lib.hid (show w.heap.size + 1 + 1 < w5.heap.size from HM.out)
      clear hHeld
      generalize w5.alloc (.cells #[.int .i64 l, .int .i64 f, .int .i64 cc, .int .i64 d] 89) = U at HF HV ⊢
      obtain ⟨c0, c1, c2, c3, c4, c5, c6, c7, c8⟩ := nine_at HF.out.tk
      obtain ⟨v0, v1, v2, v3, -⟩ := four_at HV.out
      cases ok
      · go_wp2_with fail
        clear c0 c1 c2 c3 c4 c5 c6 c7 c8 v0 v1 v2 v3
        have h0 : U.drew.heap[w.heap.size]? = some (.cells #[.int .u64 id, .int .i64 cn, .int .i64 1, .int .i64 lv, .int .u64 ge, .int .i64 fr, .int .i64 lf, .int .i64 du, .int .i64 (tl + 1)] 48 (0, 0)) := HF.out.tk
        refine wp_region_held_drew (S := fun w' => w'.heap[w.heap.size]? = some (.cells #[.int .u64 id, .int .i64 cn, .int .i64 1, .int .i64 lv, .int .u64 ge, .int .i64 fr, .int .i64 lf, .int .i64 du, .int .i64 (tl + 1)] 48 (0, 0))) (by kernel_rfl) h0 (fun hHeld => ?_)
        refine wpAnyH_take (i := 0) (v := ?_) rfl (by kernel_rfl) (by kernel_rfl) (by kernel_rfl) (fun _ _ _ h => h) (Or.inl ⟨by rfl, ?_⟩) (by assumption) ?_
        case refine_2 => (intro w1 hS1; (try dsimp only at hS1); obtain ⟨c0, c1, c2, c3, c4, c5, c6, c7, c8⟩ := nine_at hS1; go_simp; try with_reducible rfl)
        try simp only [List.getElem_toArray, List.getElem_cons_zero, List.getElem_cons_succ, Act.put, List.setIfInBounds_toArray, List.set_cons_zero, List.set_cons_succ]
        refine wpAnyH_take (i := 1) (v := ?_) rfl (by kernel_rfl) (by kernel_rfl) (by kernel_rfl) (fun _ _ _ h => h) (Or.inl ⟨by rfl, ?_⟩) (by assumption) ?_
        case refine_2 => (intro w1 hS1; (try dsimp only at hS1); obtain ⟨c0, c1, c2, c3, c4, c5, c6, c7, c8⟩ := nine_at hS1; go_simp; try with_reducible rfl)
        try simp only [List.getElem_toArray, List.getElem_cons_zero, List.getElem_cons_succ, Act.put, List.setIfInBounds_toArray, List.set_cons_zero, List.set_cons_succ]
        refine wpAnyH_take (i := 4) (v := ?_) rfl (by kernel_rfl) (by kernel_rfl) (by kernel_rfl) (fun _ _ _ h => h) (Or.inl ⟨by rfl, ?_⟩) (by assumption) ?_
        case refine_2 => (intro w1 hS1; (try dsimp only at hS1); obtain ⟨c0, c1, c2, c3, c4, c5, c6, c7, c8⟩ := nine_at hS1; go_simp; try with_reducible rfl)
        try simp only [List.getElem_toArray, List.getElem_cons_zero, List.getElem_cons_succ, Act.put, List.setIfInBounds_toArray, List.set_cons_zero, List.set_cons_succ]
        refine wpAnyH_take (i := 5) (v := ?_) rfl (by kernel_rfl) (by kernel_rfl) (by kernel_rfl) (fun _ _ _ h => h) (Or.inl ⟨by rfl, ?_⟩) (by assumption) ?_
        case refine_2 => (intro w1 hS1; (try dsimp only at hS1); obtain ⟨c0, c1, c2, c3, c4, c5, c6, c7, c8⟩ := nine_at hS1; go_simp; try with_reducible rfl)
        try simp only [List.getElem_toArray, List.getElem_cons_zero, List.getElem_cons_succ, Act.put, List.setIfInBounds_toArray, List.set_cons_zero, List.set_cons_succ]
        refine wpAnyH_ready (rs := [2]) (by kernel_rfl) (by simp) ?_
        refine AllReadyH.cons rfl (fun K hK => ?_) AllReadyH.nil
        go_simp
        refine (HEN.out _).mono ?_
        rintro e w6 ⟨rfl, hb6⟩
        have HF6 := Lib.hid ((HF.out.below (Below.refl _ _).drew).below hb6)
        clear hb6
        refine hK.out _ _ (HF6.out.tk) (fun hHeld => ?_)
        clear hK K
        try simp only [List.getElem_toArray, List.getElem_cons_zero, List.getElem_cons_succ, Act.put, List.setIfInBounds_toArray, List.set_cons_zero, List.set_cons_succ]
        refine wpAnyH_ready (rs := [3]) (by kernel_rfl) (by simp) ?_
        refine AllReadyH.cons rfl (fun K hK => ?_) AllReadyH.nil
        go_simp
        refine (HAT.out 3 lv 0 0 0 _).mono ?_
        rintro e w7 ⟨rfl, hb7⟩
        have HF7 := Lib.hid (HF6.out.below hb7)
        clear hb7
        obtain ⟨z0, z1, z2, z3, z4, z5, z6, z7, z8⟩ := nine_at HF7.out.res
        obtain ⟨y0, y1, y2, y3, y4, y5, y6, y7, y8⟩ := nine_fr HF7.out.res

        refine hK.out _ _ (HF7.out.tk) (fun hHeld => ?_)
        clear hK K
        try simp only [List.getElem_toArray, List.getElem_cons_zero, List.getElem_cons_succ, Act.put, List.setIfInBounds_toArray, List.set_cons_zero, List.set_cons_succ]
        refine wpAnyH_ready (rs := [6]) (by kernel_rfl) (by simp) ?_
        refine AllReadyH.cons rfl (fun K hK => ?_) AllReadyH.nil
        go_simp
        skip
        refine hK.out _ _ (((put9_at HF7.out.res (.int .u64 id) (.int .i64 cn) (.int .i64 3) (.int .i64 lv) (.int .u64 0) (.int .i64 0) (.int .i64 0) (.int .i64 0) (.int .i64 (tl + 1))).2.1 _ (by omega)).trans HF7.out.tk) (fun hHeld => ?_)
        clear hK K
        try simp only [List.getElem_toArray, List.getElem_cons_zero, List.getElem_cons_succ, Act.put, List.setIfInBounds_toArray, List.set_cons_zero, List.set_cons_succ]
        refine wpAnyH_take (i := 7) (v := ?_) rfl (by kernel_rfl) (by kernel_rfl) (by kernel_rfl) (fun _ _ _ h => h) (Or.inl ⟨by rfl, ?_⟩) (by assumption) ?_
        case refine_2 => (intro w1 hS1; (try dsimp only at hS1); go_simp; try with_reducible rfl)
        try simp only [List.getElem_toArray, List.getElem_cons_zero, List.getElem_cons_succ, Act.put, List.setIfInBounds_toArray, List.set_cons_zero, List.set_cons_succ]
        refine wpAnyH_take (i := 8) (v := ?_) rfl (by kernel_rfl) (by kernel_rfl) (by kernel_rfl) (fun _ _ _ h => h) (Or.inl ⟨by rfl, ?_⟩) (by assumption) ?_
        case refine_2 => (intro w1 hS1; (try dsimp only at hS1); go_simp; try with_reducible rfl)
        try simp only [List.getElem_toArray, List.getElem_cons_zero, List.getElem_cons_succ, Act.put, List.setIfInBounds_toArray, List.set_cons_zero, List.set_cons_succ]
        refine wpAnyH_done (by kernel_rfl) ?_ _
        go_wp2_with fail
        have hk := Ck.put9 H0.out (N := w.heap.size + 1 + 1) (by omega) HF7.out.ck HF7.out.res (by decide) (.int .u64 id) (.int .i64 cn) (.int .i64 3) (.int .i64 lv) (.int .u64 0) (.int .i64 0) (.int .i64 0) (.int .i64 0) (.int .i64 (tl + 1))
        have ho := HF7.out.only.put9 (N := w.heap.size + 1 + 1) (by omega) (.int .u64 id) (.int .i64 cn) (.int .i64 3) (.int .i64 lv) (.int .u64 0) (.int .i64 0) (.int .i64 0) (.int .i64 0) (.int .i64 (tl + 1))
        obtain ⟨hp9, -, -⟩ := put9_at HF7.out.res (.int .u64 id) (.int .i64 cn) (.int .i64 3) (.int .i64 lv) (.int .u64 0) (.int .i64 0) (.int .i64 0) (.int .i64 0) (.int .i64 (tl + 1))
        obtain ⟨p0, p1, p2, p3, p4, p5, p6, p7, p8⟩ := nine_at hp9
        unfold put9 at p0 p1 p2 p3 p4 p5 p6 p7 p8 hk ho
        exact bodyPost_ret (v := .tuple #[.agg #[.int .u64 id, .int .i64 cn, .int .i64 3, .int .i64 lv, .int .u64 0, .int .i64 0, .int .i64 0, .int .i64 0, .int .i64 (tl + 1)], .int .i64 lv, .int .i64 0]) (by simp [results, Tryz.results46, go_sem, p0, p1, p2, p3, p4, p5, p6, p7, p8]) rfl ⟨l, f, cc, d, false, er, HRR.out, .inr ⟨rfl, rfl⟩, hk, ho⟩
      · go_wp2_with fail
        clear c0 c1 c2 c3 c4 c5 c6 c7 c8 v0 v1 v2 v3
        have h0 : U.drew.heap[w.heap.size]? = some (.cells #[.int .u64 id, .int .i64 cn, .int .i64 1, .int .i64 lv, .int .u64 ge, .int .i64 fr, .int .i64 lf, .int .i64 du, .int .i64 (tl + 1)] 48 (0, 0)) ∧ U.drew.heap[w5.heap.size]? = some (.cells #[.int .i64 l, .int .i64 f, .int .i64 cc, .int .i64 d] 89 (0, 0)) := ⟨HF.out.tk, HV.out⟩
        refine wp_region_held_drew (S := fun w' => w'.heap[w.heap.size]? = some (.cells #[.int .u64 id, .int .i64 cn, .int .i64 1, .int .i64 lv, .int .u64 ge, .int .i64 fr, .int .i64 lf, .int .i64 du, .int .i64 (tl + 1)] 48 (0, 0)) ∧ w'.heap[w5.heap.size]? = some (.cells #[.int .i64 l, .int .i64 f, .int .i64 cc, .int .i64 d] 89 (0, 0))) (by kernel_rfl) h0 (fun hHeld => ?_)
        refine wpAnyH_take (i := 0) (v := ?_) rfl (by kernel_rfl) (by kernel_rfl) (by kernel_rfl) (fun _ _ _ h => h) (Or.inl ⟨by rfl, ?_⟩) (by assumption) ?_
        case refine_2 => (intro w1 hS1; (try dsimp only at hS1); obtain ⟨c0, c1, c2, c3, c4, c5, c6, c7, c8⟩ := nine_at hS1.1; obtain ⟨v0, v1, v2, v3, -⟩ := four_at hS1.2; go_simp; try with_reducible rfl)
        try simp only [List.getElem_toArray, List.getElem_cons_zero, List.getElem_cons_succ, Act.put, List.setIfInBounds_toArray, List.set_cons_zero, List.set_cons_succ]
        refine wpAnyH_take (i := 1) (v := ?_) rfl (by kernel_rfl) (by kernel_rfl) (by kernel_rfl) (fun _ _ _ h => h) (Or.inl ⟨by rfl, ?_⟩) (by assumption) ?_
        case refine_2 => (intro w1 hS1; (try dsimp only at hS1); obtain ⟨c0, c1, c2, c3, c4, c5, c6, c7, c8⟩ := nine_at hS1.1; obtain ⟨v0, v1, v2, v3, -⟩ := four_at hS1.2; go_simp; try with_reducible rfl)
        try simp only [List.getElem_toArray, List.getElem_cons_zero, List.getElem_cons_succ, Act.put, List.setIfInBounds_toArray, List.set_cons_zero, List.set_cons_succ]
        refine wpAnyH_take (i := 3) (v := ?_) rfl (by kernel_rfl) (by kernel_rfl) (by kernel_rfl) (fun _ _ _ h => h) (Or.inl ⟨by rfl, ?_⟩) (by assumption) ?_
        case refine_2 => (intro w1 hS1; (try dsimp only at hS1); obtain ⟨c0, c1, c2, c3, c4, c5, c6, c7, c8⟩ := nine_at hS1.1; obtain ⟨v0, v1, v2, v3, -⟩ := four_at hS1.2; go_simp; try with_reducible rfl)
        try simp only [List.getElem_toArray, List.getElem_cons_zero, List.getElem_cons_succ, Act.put, List.setIfInBounds_toArray, List.set_cons_zero, List.set_cons_succ]
        refine wpAnyH_take (i := 4) (v := ?_) rfl (by kernel_rfl) (by kernel_rfl) (by kernel_rfl) (fun _ _ _ h => h) (Or.inl ⟨by rfl, ?_⟩) (by assumption) ?_
        case refine_2 => (intro w1 hS1; (try dsimp only at hS1); obtain ⟨c0, c1, c2, c3, c4, c5, c6, c7, c8⟩ := nine_at hS1.1; obtain ⟨v0, v1, v2, v3, -⟩ := four_at hS1.2; go_simp; try with_reducible rfl)
        try simp only [List.getElem_toArray, List.getElem_cons_zero, List.getElem_cons_succ, Act.put, List.setIfInBounds_toArray, List.set_cons_zero, List.set_cons_succ]
        refine wpAnyH_ready (rs := [2]) (by kernel_rfl) (by simp) ?_
        refine AllReadyH.cons rfl (fun K hK => ?_) AllReadyH.nil
        go_simp
        refine (HAT.out 1 l f cc d _).mono ?_
        rintro e w7 ⟨rfl, hb7⟩
        have HF7 := Lib.hid ((HF.out.below (Below.refl _ _).drew).below hb7)
        have HV7 := Lib.hid (ex_below (show U.drew.heap[w5.heap.size]? = _ from HV.out) hb7)
        clear hb7
        obtain ⟨z0, z1, z2, z3, z4, z5, z6, z7, z8⟩ := nine_at HF7.out.res
        obtain ⟨y0, y1, y2, y3, y4, y5, y6, y7, y8⟩ := nine_fr HF7.out.res

        refine hK.out _ _ (⟨HF7.out.tk, HV7.out⟩) (fun hHeld => ?_)
        clear hK K
        try simp only [List.getElem_toArray, List.getElem_cons_zero, List.getElem_cons_succ, Act.put, List.setIfInBounds_toArray, List.set_cons_zero, List.set_cons_succ]
        refine wpAnyH_ready (rs := [5]) (by kernel_rfl) (by simp) ?_
        refine AllReadyH.cons rfl (fun K hK => ?_) AllReadyH.nil
        go_simp
        skip
        refine hK.out _ _ (⟨((put9_at HF7.out.res (.int .u64 id) (.int .i64 cn) (.int .i64 1) (.int .i64 l) (.int .u64 0) (.int .i64 f) (.int .i64 cc) (.int .i64 d) (.int .i64 (tl + 1))).2.1 _ (by omega)).trans HF7.out.tk, ((put9_at HF7.out.res (.int .u64 id) (.int .i64 cn) (.int .i64 1) (.int .i64 l) (.int .u64 0) (.int .i64 f) (.int .i64 cc) (.int .i64 d) (.int .i64 (tl + 1))).2.1 _ (by have := HW.out; omega)).trans HV7.out⟩) (fun hHeld => ?_)
        clear hK K
        try simp only [List.getElem_toArray, List.getElem_cons_zero, List.getElem_cons_succ, Act.put, List.setIfInBounds_toArray, List.set_cons_zero, List.set_cons_succ]
        refine wpAnyH_take (i := 6) (v := ?_) rfl (by kernel_rfl) (by kernel_rfl) (by kernel_rfl) (fun _ _ _ h => h) (Or.inl ⟨by rfl, ?_⟩) (by assumption) ?_
        case refine_2 => (intro w1 hS1; (try dsimp only at hS1); go_simp; try with_reducible rfl)
        try simp only [List.getElem_toArray, List.getElem_cons_zero, List.getElem_cons_succ, Act.put, List.setIfInBounds_toArray, List.set_cons_zero, List.set_cons_succ]
        refine wpAnyH_take (i := 7) (v := ?_) rfl (by kernel_rfl) (by kernel_rfl) (by kernel_rfl) (fun _ _ _ h => h) (Or.inl ⟨by rfl, ?_⟩) (by assumption) ?_
        case refine_2 => (intro w1 hS1; (try dsimp only at hS1); go_simp; try with_reducible rfl)
        try simp only [List.getElem_toArray, List.getElem_cons_zero, List.getElem_cons_succ, Act.put, List.setIfInBounds_toArray, List.set_cons_zero, List.set_cons_succ]
        refine wpAnyH_done (by kernel_rfl) ?_ _
        go_wp2_with fail
        have hk := Ck.put9 H0.out (N := w.heap.size + 1 + 1) (by omega) HF7.out.ck HF7.out.res (by decide) (.int .u64 id) (.int .i64 cn) (.int .i64 1) (.int .i64 l) (.int .u64 0) (.int .i64 f) (.int .i64 cc) (.int .i64 d) (.int .i64 (tl + 1))
        have ho := HF7.out.only.put9 (N := w.heap.size + 1 + 1) (by omega) (.int .u64 id) (.int .i64 cn) (.int .i64 1) (.int .i64 l) (.int .u64 0) (.int .i64 f) (.int .i64 cc) (.int .i64 d) (.int .i64 (tl + 1))
        obtain ⟨hp9, -, -⟩ := put9_at HF7.out.res (.int .u64 id) (.int .i64 cn) (.int .i64 1) (.int .i64 l) (.int .u64 0) (.int .i64 f) (.int .i64 cc) (.int .i64 d) (.int .i64 (tl + 1))
        obtain ⟨p0, p1, p2, p3, p4, p5, p6, p7, p8⟩ := nine_at hp9
        unfold put9 at p0 p1 p2 p3 p4 p5 p6 p7 p8 hk ho
        exact bodyPost_ret (v := .tuple #[.agg #[.int .u64 id, .int .i64 cn, .int .i64 1, .int .i64 l, .int .u64 0, .int .i64 f, .int .i64 cc, .int .i64 d, .int .i64 (tl + 1)], .int .i64 lv, .int .i64 0]) (by simp [results, Tryz.results46, go_sem, p0, p1, p2, p3, p4, p5, p6, p7, p8]) rfl ⟨l, f, cc, d, true, er, HRR.out, .inl ⟨rfl, rfl⟩, hk, ho⟩
    · go_simp
      refine hK.out _ _ (HF4.out.below ((Below.refl _ _).alloc (Nat.le_refl _) _)) (fun hHeld => ?_)
      clear hK K
      try simp only [List.getElem_toArray, List.getElem_cons_zero, List.getElem_cons_succ, Act.put, List.setIfInBounds_toArray, List.set_cons_zero, List.set_cons_succ]
      refine wpAnyH_ready (rs := [5]) (by kernel_rfl) (by simp) ?_
      refine AllReadyH.cons rfl (fun K hK => ?_) AllReadyH.nil
      go_simp
      have HZ4 := Lib.hid (World.alloc_heap_new w4 (.cells #[.int .i64 0, .int .i64 0, .int .i64 0, .int .i64 0] 89))
      have HF4' := Lib.hid (HF4.out.below ((Below.refl _ _).alloc (Nat.le_refl _) (.cells #[.int .i64 0, .int .i64 0, .int .i64 0, .int .i64 0] 89)))
      have HM : Hid (w.heap.size + 1 + 1 < w4.heap.size) := Lib.hid (ex_lt HF4.out.res)
      refine (HNX.out _ HF4'.out).mono ?_
      rintro e w5 ⟨l, f, cc, d, ok, er, rfl, hR, hC, ho⟩
      have HRR := Lib.hid hR
      have HF5 := Lib.hid (HF4'.out.go hLC hC ho)
      have HZ5 := Lib.hid (ex_only HZ4.out ho (by have := HM.out; omega))
      clear hR hC ho
      unfold stepV
      clear HZ4 HF4' HF4
      refine hK.out _ _ (HF5.out) (fun hHeld => ?_)
      clear hK K
      try simp only [List.getElem_toArray, List.getElem_cons_zero, List.getElem_cons_succ, Act.put, List.setIfInBounds_toArray, List.set_cons_zero, List.set_cons_succ]
      refine wpAnyH_take (i := 6) (v := ?_) rfl (by kernel_rfl) (by kernel_rfl) (by kernel_rfl) (fun _ _ _ h => h) (Or.inl ⟨by rfl, ?_⟩) (by assumption) ?_
      case refine_2 => (intro w1 hS1; (try dsimp only at hS1); skip; go_simp; try with_reducible rfl)
      try simp only [List.getElem_toArray, List.getElem_cons_zero, List.getElem_cons_succ, Act.put, List.setIfInBounds_toArray, List.set_cons_zero, List.set_cons_succ]
      refine wpAnyH_take (i := 7) (v := ?_) rfl (by kernel_rfl) (by kernel_rfl) (by kernel_rfl) (fun _ _ _ h => h) (Or.inl ⟨by rfl, ?_⟩) (by assumption) ?_
      case refine_2 => (intro w1 hS1; (try dsimp only at hS1); skip; go_simp; try with_reducible rfl)
      try simp only [List.getElem_toArray, List.getElem_cons_zero, List.getElem_cons_succ, Act.put, List.setIfInBounds_toArray, List.set_cons_zero, List.set_cons_succ]
      refine wpAnyH_take (i := 8) (v := ?_) rfl (by kernel_rfl) (by kernel_rfl) (by kernel_rfl) (fun _ _ _ h => h) (Or.inl ⟨by rfl, ?_⟩) (by assumption) ?_
      case refine_2 => (intro w1 hS1; (try dsimp only at hS1); skip; go_simp; try with_reducible rfl)
      try simp only [List.getElem_toArray, List.getElem_cons_zero, List.getElem_cons_succ, Act.put, List.setIfInBounds_toArray, List.set_cons_zero, List.set_cons_succ]
      refine wpAnyH_take (i := 9) (v := ?_) rfl (by kernel_rfl) (by kernel_rfl) (by kernel_rfl) (fun _ _ _ h => h) (Or.inl ⟨by rfl, ?_⟩) (by assumption) ?_
      case refine_2 => (intro w1 hS1; (try dsimp only at hS1); skip; go_simp; try with_reducible rfl)
      try simp only [List.getElem_toArray, List.getElem_cons_zero, List.getElem_cons_succ, Act.put, List.setIfInBounds_toArray, List.set_cons_zero, List.set_cons_succ]
      obtain ⟨u0, u1, u2, u3, r0, r1, r2, r3⟩ := four_at HZ5.out
      refine wpAnyH_ready (rs := [11]) (by kernel_rfl) (by simp) ?_
      refine AllReadyH.cons rfl (fun K hK => ?_) AllReadyH.nil
      go_simp
      refine hK.out _ _ (HF5.out.put4 H0.out HM.out HZ5.out (by decide) _ _ _ _) (fun hHeld => ?_)
      clear hK K
      try simp only [List.getElem_toArray, List.getElem_cons_zero, List.getElem_cons_succ, Act.put, List.setIfInBounds_toArray, List.set_cons_zero, List.set_cons_succ]
      refine wpAnyH_take (i := 12) (v := ?_) rfl (by kernel_rfl) (by kernel_rfl) (by kernel_rfl) (fun _ _ _ h => h) (Or.inl ⟨by rfl, ?_⟩) (by assumption) ?_
      case refine_2 => (intro w1 hS1; (try dsimp only at hS1); skip; go_simp; try with_reducible rfl)
      try simp only [List.getElem_toArray, List.getElem_cons_zero, List.getElem_cons_succ, Act.put, List.setIfInBounds_toArray, List.set_cons_zero, List.set_cons_succ]
      refine wpAnyH_take (i := 13) (v := ?_) rfl (by kernel_rfl) (by kernel_rfl) (by kernel_rfl) (fun _ _ _ h => h) (Or.inl ⟨by rfl, ?_⟩) (by assumption) ?_
      case refine_2 => (intro w1 hS1; (try dsimp only at hS1); skip; go_simp; try with_reducible rfl)
      try simp only [List.getElem_toArray, List.getElem_cons_zero, List.getElem_cons_succ, Act.put, List.setIfInBounds_toArray, List.set_cons_zero, List.set_cons_succ]
      refine wpAnyH_done (by kernel_rfl) ?_ _
      have HF8 : Hid (FireS L D w ((((w5.setCell ⟨w4.heap.size, 0, none⟩ (.int .i64 l)).setCell ⟨w4.heap.size, 1, none⟩ (.int .i64 f)).setCell ⟨w4.heap.size, 2, none⟩ (.int .i64 cc)).setCell ⟨w4.heap.size, 3, none⟩ (.int .i64 d)) #[.int .u64 id, .int .i64 cn, .int .i64 1, .int .i64 lv, .int .u64 ge, .int .i64 fr, .int .i64 lf, .int .i64 du, .int .i64 (tl + 1)] #[.int .i64 c, .slice a n ca, .int .i64 r, .int .i64 b] #[.int .u64 0, .int .i64 0, .int .i64 0, .int .i64 0, .int .u64 0, .int .i64 0, .int .i64 0, .int .i64 0, .int .i64 0]) := Lib.hid (HF5.out.put4 H0.out HM.out HZ5.out (by decide) _ _ _ _)
      have HV : Hid (((((w5.setCell ⟨w4.heap.size, 0, none⟩ (.int .i64 l)).setCell ⟨w4.heap.size, 1, none⟩ (.int .i64 f)).setCell ⟨w4.heap.size, 2, none⟩ (.int .i64 cc)).setCell ⟨w4.heap.size, 3, none⟩ (.int .i64 d)).heap[w4.heap.size]? = some (.cells #[.int .i64 l, .int .i64 f, .int .i64 cc, .int .i64 d] 89 (0, 0))) := Lib.hid (put4_at HZ5.out _ _ _ _).1
      clear HF HF5 HZ5 u0 u1 u2 u3 r0 r1 r2 r3
      have HF := HF8
      clear HF8
      have HW := Lib.hid (show w.heap.size + 1 + 1 < w4.heap.size from HM.out)
      clear hHeld
      generalize (((w5.setCell ⟨w4.heap.size, 0, none⟩ (.int .i64 l)).setCell ⟨w4.heap.size, 1, none⟩ (.int .i64 f)).setCell ⟨w4.heap.size, 2, none⟩ (.int .i64 cc)).setCell ⟨w4.heap.size, 3, none⟩ (.int .i64 d) = U at HF HV ⊢
      obtain ⟨c0, c1, c2, c3, c4, c5, c6, c7, c8⟩ := nine_at HF.out.tk
      obtain ⟨v0, v1, v2, v3, -⟩ := four_at HV.out
      cases ok
      · go_wp2_with fail
        clear c0 c1 c2 c3 c4 c5 c6 c7 c8 v0 v1 v2 v3
        have h0 : U.drew.heap[w.heap.size]? = some (.cells #[.int .u64 id, .int .i64 cn, .int .i64 1, .int .i64 lv, .int .u64 ge, .int .i64 fr, .int .i64 lf, .int .i64 du, .int .i64 (tl + 1)] 48 (0, 0)) := HF.out.tk
        refine wp_region_held_drew (S := fun w' => w'.heap[w.heap.size]? = some (.cells #[.int .u64 id, .int .i64 cn, .int .i64 1, .int .i64 lv, .int .u64 ge, .int .i64 fr, .int .i64 lf, .int .i64 du, .int .i64 (tl + 1)] 48 (0, 0))) (by kernel_rfl) h0 (fun hHeld => ?_)
        refine wpAnyH_take (i := 0) (v := ?_) rfl (by kernel_rfl) (by kernel_rfl) (by kernel_rfl) (fun _ _ _ h => h) (Or.inl ⟨by rfl, ?_⟩) (by assumption) ?_
        case refine_2 => (intro w1 hS1; (try dsimp only at hS1); obtain ⟨c0, c1, c2, c3, c4, c5, c6, c7, c8⟩ := nine_at hS1; go_simp; try with_reducible rfl)
        try simp only [List.getElem_toArray, List.getElem_cons_zero, List.getElem_cons_succ, Act.put, List.setIfInBounds_toArray, List.set_cons_zero, List.set_cons_succ]
        refine wpAnyH_take (i := 1) (v := ?_) rfl (by kernel_rfl) (by kernel_rfl) (by kernel_rfl) (fun _ _ _ h => h) (Or.inl ⟨by rfl, ?_⟩) (by assumption) ?_
        case refine_2 => (intro w1 hS1; (try dsimp only at hS1); obtain ⟨c0, c1, c2, c3, c4, c5, c6, c7, c8⟩ := nine_at hS1; go_simp; try with_reducible rfl)
        try simp only [List.getElem_toArray, List.getElem_cons_zero, List.getElem_cons_succ, Act.put, List.setIfInBounds_toArray, List.set_cons_zero, List.set_cons_succ]
        refine wpAnyH_take (i := 4) (v := ?_) rfl (by kernel_rfl) (by kernel_rfl) (by kernel_rfl) (fun _ _ _ h => h) (Or.inl ⟨by rfl, ?_⟩) (by assumption) ?_
        case refine_2 => (intro w1 hS1; (try dsimp only at hS1); obtain ⟨c0, c1, c2, c3, c4, c5, c6, c7, c8⟩ := nine_at hS1; go_simp; try with_reducible rfl)
        try simp only [List.getElem_toArray, List.getElem_cons_zero, List.getElem_cons_succ, Act.put, List.setIfInBounds_toArray, List.set_cons_zero, List.set_cons_succ]
        refine wpAnyH_take (i := 5) (v := ?_) rfl (by kernel_rfl) (by kernel_rfl) (by kernel_rfl) (fun _ _ _ h => h) (Or.inl ⟨by rfl, ?_⟩) (by assumption) ?_
        case refine_2 => (intro w1 hS1; (try dsimp only at hS1); obtain ⟨c0, c1, c2, c3, c4, c5, c6, c7, c8⟩ := nine_at hS1; go_simp; try with_reducible rfl)
        try simp only [List.getElem_toArray, List.getElem_cons_zero, List.getElem_cons_succ, Act.put, List.setIfInBounds_toArray, List.set_cons_zero, List.set_cons_succ]
        refine wpAnyH_ready (rs := [2]) (by kernel_rfl) (by simp) ?_
        refine AllReadyH.cons rfl (fun K hK => ?_) AllReadyH.nil
        go_simp
        refine (HEN.out _).mono ?_
        rintro e w6 ⟨rfl, hb6⟩
        have HF6 := Lib.hid ((HF.out.below (Below.refl _ _).drew).below hb6)
        clear hb6
        refine hK.out _ _ (HF6.out.tk) (fun hHeld => ?_)
        clear hK K
        try simp only [List.getElem_toArray, List.getElem_cons_zero, List.getElem_cons_succ, Act.put, List.setIfInBounds_toArray, List.set_cons_zero, List.set_cons_succ]
        refine wpAnyH_ready (rs := [3]) (by kernel_rfl) (by simp) ?_
        refine AllReadyH.cons rfl (fun K hK => ?_) AllReadyH.nil
        go_simp
        refine (HAT.out 3 lv 0 0 0 _).mono ?_
        rintro e w7 ⟨rfl, hb7⟩
        have HF7 := Lib.hid (HF6.out.below hb7)
        clear hb7
        obtain ⟨z0, z1, z2, z3, z4, z5, z6, z7, z8⟩ := nine_at HF7.out.res
        obtain ⟨y0, y1, y2, y3, y4, y5, y6, y7, y8⟩ := nine_fr HF7.out.res

        refine hK.out _ _ (HF7.out.tk) (fun hHeld => ?_)
        clear hK K
        try simp only [List.getElem_toArray, List.getElem_cons_zero, List.getElem_cons_succ, Act.put, List.setIfInBounds_toArray, List.set_cons_zero, List.set_cons_succ]
        refine wpAnyH_ready (rs := [6]) (by kernel_rfl) (by simp) ?_
        refine AllReadyH.cons rfl (fun K hK => ?_) AllReadyH.nil
        go_simp
        skip
        refine hK.out _ _ (((put9_at HF7.out.res (.int .u64 id) (.int .i64 cn) (.int .i64 3) (.int .i64 lv) (.int .u64 0) (.int .i64 0) (.int .i64 0) (.int .i64 0) (.int .i64 (tl + 1))).2.1 _ (by omega)).trans HF7.out.tk) (fun hHeld => ?_)
        clear hK K
        try simp only [List.getElem_toArray, List.getElem_cons_zero, List.getElem_cons_succ, Act.put, List.setIfInBounds_toArray, List.set_cons_zero, List.set_cons_succ]
        refine wpAnyH_take (i := 7) (v := ?_) rfl (by kernel_rfl) (by kernel_rfl) (by kernel_rfl) (fun _ _ _ h => h) (Or.inl ⟨by rfl, ?_⟩) (by assumption) ?_
        case refine_2 => (intro w1 hS1; (try dsimp only at hS1); go_simp; try with_reducible rfl)
        try simp only [List.getElem_toArray, List.getElem_cons_zero, List.getElem_cons_succ, Act.put, List.setIfInBounds_toArray, List.set_cons_zero, List.set_cons_succ]
        refine wpAnyH_take (i := 8) (v := ?_) rfl (by kernel_rfl) (by kernel_rfl) (by kernel_rfl) (fun _ _ _ h => h) (Or.inl ⟨by rfl, ?_⟩) (by assumption) ?_
        case refine_2 => (intro w1 hS1; (try dsimp only at hS1); go_simp; try with_reducible rfl)
        try simp only [List.getElem_toArray, List.getElem_cons_zero, List.getElem_cons_succ, Act.put, List.setIfInBounds_toArray, List.set_cons_zero, List.set_cons_succ]
        refine wpAnyH_done (by kernel_rfl) ?_ _
        go_wp2_with fail
        have hk := Ck.put9 H0.out (N := w.heap.size + 1 + 1) (by omega) HF7.out.ck HF7.out.res (by decide) (.int .u64 id) (.int .i64 cn) (.int .i64 3) (.int .i64 lv) (.int .u64 0) (.int .i64 0) (.int .i64 0) (.int .i64 0) (.int .i64 (tl + 1))
        have ho := HF7.out.only.put9 (N := w.heap.size + 1 + 1) (by omega) (.int .u64 id) (.int .i64 cn) (.int .i64 3) (.int .i64 lv) (.int .u64 0) (.int .i64 0) (.int .i64 0) (.int .i64 0) (.int .i64 (tl + 1))
        obtain ⟨hp9, -, -⟩ := put9_at HF7.out.res (.int .u64 id) (.int .i64 cn) (.int .i64 3) (.int .i64 lv) (.int .u64 0) (.int .i64 0) (.int .i64 0) (.int .i64 0) (.int .i64 (tl + 1))
        obtain ⟨p0, p1, p2, p3, p4, p5, p6, p7, p8⟩ := nine_at hp9
        unfold put9 at p0 p1 p2 p3 p4 p5 p6 p7 p8 hk ho
        exact bodyPost_ret (v := .tuple #[.agg #[.int .u64 id, .int .i64 cn, .int .i64 3, .int .i64 lv, .int .u64 0, .int .i64 0, .int .i64 0, .int .i64 0, .int .i64 (tl + 1)], .int .i64 lv, .int .i64 0]) (by simp [results, Tryz.results46, go_sem, p0, p1, p2, p3, p4, p5, p6, p7, p8]) rfl ⟨l, f, cc, d, false, er, HRR.out, .inr ⟨rfl, rfl⟩, hk, ho⟩
      · go_wp2_with fail
        clear c0 c1 c2 c3 c4 c5 c6 c7 c8 v0 v1 v2 v3
        have h0 : U.drew.heap[w.heap.size]? = some (.cells #[.int .u64 id, .int .i64 cn, .int .i64 1, .int .i64 lv, .int .u64 ge, .int .i64 fr, .int .i64 lf, .int .i64 du, .int .i64 (tl + 1)] 48 (0, 0)) ∧ U.drew.heap[w4.heap.size]? = some (.cells #[.int .i64 l, .int .i64 f, .int .i64 cc, .int .i64 d] 89 (0, 0)) := ⟨HF.out.tk, HV.out⟩
        refine wp_region_held_drew (S := fun w' => w'.heap[w.heap.size]? = some (.cells #[.int .u64 id, .int .i64 cn, .int .i64 1, .int .i64 lv, .int .u64 ge, .int .i64 fr, .int .i64 lf, .int .i64 du, .int .i64 (tl + 1)] 48 (0, 0)) ∧ w'.heap[w4.heap.size]? = some (.cells #[.int .i64 l, .int .i64 f, .int .i64 cc, .int .i64 d] 89 (0, 0))) (by kernel_rfl) h0 (fun hHeld => ?_)
        refine wpAnyH_take (i := 0) (v := ?_) rfl (by kernel_rfl) (by kernel_rfl) (by kernel_rfl) (fun _ _ _ h => h) (Or.inl ⟨by rfl, ?_⟩) (by assumption) ?_
        case refine_2 => (intro w1 hS1; (try dsimp only at hS1); obtain ⟨c0, c1, c2, c3, c4, c5, c6, c7, c8⟩ := nine_at hS1.1; obtain ⟨v0, v1, v2, v3, -⟩ := four_at hS1.2; go_simp; try with_reducible rfl)
        try simp only [List.getElem_toArray, List.getElem_cons_zero, List.getElem_cons_succ, Act.put, List.setIfInBounds_toArray, List.set_cons_zero, List.set_cons_succ]
        refine wpAnyH_take (i := 1) (v := ?_) rfl (by kernel_rfl) (by kernel_rfl) (by kernel_rfl) (fun _ _ _ h => h) (Or.inl ⟨by rfl, ?_⟩) (by assumption) ?_
        case refine_2 => (intro w1 hS1; (try dsimp only at hS1); obtain ⟨c0, c1, c2, c3, c4, c5, c6, c7, c8⟩ := nine_at hS1.1; obtain ⟨v0, v1, v2, v3, -⟩ := four_at hS1.2; go_simp; try with_reducible rfl)
        try simp only [List.getElem_toArray, List.getElem_cons_zero, List.getElem_cons_succ, Act.put, List.setIfInBounds_toArray, List.set_cons_zero, List.set_cons_succ]
        refine wpAnyH_take (i := 3) (v := ?_) rfl (by kernel_rfl) (by kernel_rfl) (by kernel_rfl) (fun _ _ _ h => h) (Or.inl ⟨by rfl, ?_⟩) (by assumption) ?_
        case refine_2 => (intro w1 hS1; (try dsimp only at hS1); obtain ⟨c0, c1, c2, c3, c4, c5, c6, c7, c8⟩ := nine_at hS1.1; obtain ⟨v0, v1, v2, v3, -⟩ := four_at hS1.2; go_simp; try with_reducible rfl)
        try simp only [List.getElem_toArray, List.getElem_cons_zero, List.getElem_cons_succ, Act.put, List.setIfInBounds_toArray, List.set_cons_zero, List.set_cons_succ]
        refine wpAnyH_take (i := 4) (v := ?_) rfl (by kernel_rfl) (by kernel_rfl) (by kernel_rfl) (fun _ _ _ h => h) (Or.inl ⟨by rfl, ?_⟩) (by assumption) ?_
        case refine_2 => (intro w1 hS1; (try dsimp only at hS1); obtain ⟨c0, c1, c2, c3, c4, c5, c6, c7, c8⟩ := nine_at hS1.1; obtain ⟨v0, v1, v2, v3, -⟩ := four_at hS1.2; go_simp; try with_reducible rfl)
        try simp only [List.getElem_toArray, List.getElem_cons_zero, List.getElem_cons_succ, Act.put, List.setIfInBounds_toArray, List.set_cons_zero, List.set_cons_succ]
        refine wpAnyH_ready (rs := [2]) (by kernel_rfl) (by simp) ?_
        refine AllReadyH.cons rfl (fun K hK => ?_) AllReadyH.nil
        go_simp
        refine (HAT.out 1 l f cc d _).mono ?_
        rintro e w7 ⟨rfl, hb7⟩
        have HF7 := Lib.hid ((HF.out.below (Below.refl _ _).drew).below hb7)
        have HV7 := Lib.hid (ex_below (show U.drew.heap[w4.heap.size]? = _ from HV.out) hb7)
        clear hb7
        obtain ⟨z0, z1, z2, z3, z4, z5, z6, z7, z8⟩ := nine_at HF7.out.res
        obtain ⟨y0, y1, y2, y3, y4, y5, y6, y7, y8⟩ := nine_fr HF7.out.res

        refine hK.out _ _ (⟨HF7.out.tk, HV7.out⟩) (fun hHeld => ?_)
        clear hK K
        try simp only [List.getElem_toArray, List.getElem_cons_zero, List.getElem_cons_succ, Act.put, List.setIfInBounds_toArray, List.set_cons_zero, List.set_cons_succ]
        refine wpAnyH_ready (rs := [5]) (by kernel_rfl) (by simp) ?_
        refine AllReadyH.cons rfl (fun K hK => ?_) AllReadyH.nil
        go_simp
        skip
        refine hK.out _ _ (⟨((put9_at HF7.out.res (.int .u64 id) (.int .i64 cn) (.int .i64 1) (.int .i64 l) (.int .u64 0) (.int .i64 f) (.int .i64 cc) (.int .i64 d) (.int .i64 (tl + 1))).2.1 _ (by omega)).trans HF7.out.tk, ((put9_at HF7.out.res (.int .u64 id) (.int .i64 cn) (.int .i64 1) (.int .i64 l) (.int .u64 0) (.int .i64 f) (.int .i64 cc) (.int .i64 d) (.int .i64 (tl + 1))).2.1 _ (by have := HW.out; omega)).trans HV7.out⟩) (fun hHeld => ?_)
        clear hK K
        try simp only [List.getElem_toArray, List.getElem_cons_zero, List.getElem_cons_succ, Act.put, List.setIfInBounds_toArray, List.set_cons_zero, List.set_cons_succ]
        refine wpAnyH_take (i := 6) (v := ?_) rfl (by kernel_rfl) (by kernel_rfl) (by kernel_rfl) (fun _ _ _ h => h) (Or.inl ⟨by rfl, ?_⟩) (by assumption) ?_
        case refine_2 => (intro w1 hS1; (try dsimp only at hS1); go_simp; try with_reducible rfl)
        try simp only [List.getElem_toArray, List.getElem_cons_zero, List.getElem_cons_succ, Act.put, List.setIfInBounds_toArray, List.set_cons_zero, List.set_cons_succ]
        refine wpAnyH_take (i := 7) (v := ?_) rfl (by kernel_rfl) (by kernel_rfl) (by kernel_rfl) (fun _ _ _ h => h) (Or.inl ⟨by rfl, ?_⟩) (by assumption) ?_
        case refine_2 => (intro w1 hS1; (try dsimp only at hS1); go_simp; try with_reducible rfl)
        try simp only [List.getElem_toArray, List.getElem_cons_zero, List.getElem_cons_succ, Act.put, List.setIfInBounds_toArray, List.set_cons_zero, List.set_cons_succ]
        refine wpAnyH_done (by kernel_rfl) ?_ _
        go_wp2_with fail
        have hk := Ck.put9 H0.out (N := w.heap.size + 1 + 1) (by omega) HF7.out.ck HF7.out.res (by decide) (.int .u64 id) (.int .i64 cn) (.int .i64 1) (.int .i64 l) (.int .u64 0) (.int .i64 f) (.int .i64 cc) (.int .i64 d) (.int .i64 (tl + 1))
        have ho := HF7.out.only.put9 (N := w.heap.size + 1 + 1) (by omega) (.int .u64 id) (.int .i64 cn) (.int .i64 1) (.int .i64 l) (.int .u64 0) (.int .i64 f) (.int .i64 cc) (.int .i64 d) (.int .i64 (tl + 1))
        obtain ⟨hp9, -, -⟩ := put9_at HF7.out.res (.int .u64 id) (.int .i64 cn) (.int .i64 1) (.int .i64 l) (.int .u64 0) (.int .i64 f) (.int .i64 cc) (.int .i64 d) (.int .i64 (tl + 1))
        obtain ⟨p0, p1, p2, p3, p4, p5, p6, p7, p8⟩ := nine_at hp9
        unfold put9 at p0 p1 p2 p3 p4 p5 p6 p7 p8 hk ho
        exact bodyPost_ret (v := .tuple #[.agg #[.int .u64 id, .int .i64 cn, .int .i64 1, .int .i64 l, .int .u64 0, .int .i64 f, .int .i64 cc, .int .i64 d, .int .i64 (tl + 1)], .int .i64 lv, .int .i64 0]) (by simp [results, Tryz.results46, go_sem, p0, p1, p2, p3, p4, p5, p6, p7, p8]) rfl ⟨l, f, cc, d, true, er, HRR.out, .inl ⟨rfl, rfl⟩, hk, ho⟩
  · go_simp
    refine hK.out _ _ ((HF.out.below (Below.refl _ _).drew).below ((Below.refl _ _).alloc (Nat.le_refl _) _)) (fun hHeld => ?_)
    clear hK K
    try simp only [List.getElem_toArray, List.getElem_cons_zero, List.getElem_cons_succ, Act.put, List.setIfInBounds_toArray, List.set_cons_zero, List.set_cons_succ]
    refine wpAnyH_ready (rs := [3]) (by kernel_rfl) (by simp) ?_
    refine AllReadyH.cons rfl (fun K hK => ?_) AllReadyH.nil
    go_simp
    refine (HSP.out _).mono ?_
    rintro e w4 ⟨rfl, hb4⟩
    have HM : Hid (w.heap.size + 1 + 1 < W1.heap.size) := Lib.hid (ex_lt HF.out.res)
    have HF4 := Lib.hid (((HF.out.below (Below.refl _ _).drew).below ((Below.refl _ _).alloc (Nat.le_refl _) _)).below hb4)
    have HZ4 := Lib.hid (ex_below (World.alloc_heap_new W1.drew (.cells #[.int .i64 0, .int .i64 0, .int .i64 0, .int .i64 0] 89)) hb4)
    clear hb4
    refine hK.out _ _ (HF4.out) (fun hHeld => ?_)
    clear hK K
    try simp only [List.getElem_toArray, List.getElem_cons_zero, List.getElem_cons_succ, Act.put, List.setIfInBounds_toArray, List.set_cons_zero, List.set_cons_succ]
    refine wpAnyH_ready (rs := [5]) (by kernel_rfl) (by simp) ?_
    refine AllReadyH.cons rfl (fun K hK => ?_) AllReadyH.nil
    go_simp
    refine (HNX.out _ HF4.out).mono ?_
    rintro e w5 ⟨l, f, cc, d, ok, er, rfl, hR, hC, ho⟩
    have HRR := Lib.hid hR
    have HF5 := Lib.hid (HF4.out.go hLC hC ho)
    have HZ5 : Hid (w5.heap[W1.heap.size]? = some (.cells #[.int .i64 0, .int .i64 0, .int .i64 0, .int .i64 0] 89 (0, 0))) := Lib.hid (ex_only HZ4.out ho (by have := HM.out; show W1.heap.size ≠ L.C; omega))
    clear hR hC ho
    unfold stepV
    clear HZ4 HF4
    refine hK.out _ _ (HF5.out) (fun hHeld => ?_)
    clear hK K
    try simp only [List.getElem_toArray, List.getElem_cons_zero, List.getElem_cons_succ, Act.put, List.setIfInBounds_toArray, List.set_cons_zero, List.set_cons_succ]
    refine wpAnyH_take (i := 6) (v := ?_) rfl (by kernel_rfl) (by kernel_rfl) (by kernel_rfl) (fun _ _ _ h => h) (Or.inl ⟨by rfl, ?_⟩) (by assumption) ?_
    case refine_2 => (intro w1 hS1; (try dsimp only at hS1); skip; go_simp; try with_reducible rfl)
    try simp only [List.getElem_toArray, List.getElem_cons_zero, List.getElem_cons_succ, Act.put, List.setIfInBounds_toArray, List.set_cons_zero, List.set_cons_succ]
    refine wpAnyH_take (i := 7) (v := ?_) rfl (by kernel_rfl) (by kernel_rfl) (by kernel_rfl) (fun _ _ _ h => h) (Or.inl ⟨by rfl, ?_⟩) (by assumption) ?_
    case refine_2 => (intro w1 hS1; (try dsimp only at hS1); skip; go_simp; try with_reducible rfl)
    try simp only [List.getElem_toArray, List.getElem_cons_zero, List.getElem_cons_succ, Act.put, List.setIfInBounds_toArray, List.set_cons_zero, List.set_cons_succ]
    refine wpAnyH_take (i := 8) (v := ?_) rfl (by kernel_rfl) (by kernel_rfl) (by kernel_rfl) (fun _ _ _ h => h) (Or.inl ⟨by rfl, ?_⟩) (by assumption) ?_
    case refine_2 => (intro w1 hS1; (try dsimp only at hS1); skip; go_simp; try with_reducible rfl)
    try simp only [List.getElem_toArray, List.getElem_cons_zero, List.getElem_cons_succ, Act.put, List.setIfInBounds_toArray, List.set_cons_zero, List.set_cons_succ]
    refine wpAnyH_take (i := 9) (v := ?_) rfl (by kernel_rfl) (by kernel_rfl) (by kernel_rfl) (fun _ _ _ h => h) (Or.inl ⟨by rfl, ?_⟩) (by assumption) ?_
    case refine_2 => (intro w1 hS1; (try dsimp only at hS1); skip; go_simp; try with_reducible rfl)
    try simp only [List.getElem_toArray, List.getElem_cons_zero, List.getElem_cons_succ, Act.put, List.setIfInBounds_toArray, List.set_cons_zero, List.set_cons_succ]
    obtain ⟨u0, u1, u2, u3, r0, r1, r2, r3⟩ := four_at HZ5.out
    refine wpAnyH_ready (rs := [11]) (by kernel_rfl) (by simp) ?_
    refine AllReadyH.cons rfl (fun K hK => ?_) AllReadyH.nil
    go_simp
    refine hK.out _ _ (HF5.out.put4 H0.out HM.out HZ5.out (by decide) _ _ _ _) (fun hHeld => ?_)
    clear hK K
    try simp only [List.getElem_toArray, List.getElem_cons_zero, List.getElem_cons_succ, Act.put, List.setIfInBounds_toArray, List.set_cons_zero, List.set_cons_succ]
    refine wpAnyH_take (i := 12) (v := ?_) rfl (by kernel_rfl) (by kernel_rfl) (by kernel_rfl) (fun _ _ _ h => h) (Or.inl ⟨by rfl, ?_⟩) (by assumption) ?_
    case refine_2 => (intro w1 hS1; (try dsimp only at hS1); skip; go_simp; try with_reducible rfl)
    try simp only [List.getElem_toArray, List.getElem_cons_zero, List.getElem_cons_succ, Act.put, List.setIfInBounds_toArray, List.set_cons_zero, List.set_cons_succ]
    refine wpAnyH_take (i := 13) (v := ?_) rfl (by kernel_rfl) (by kernel_rfl) (by kernel_rfl) (fun _ _ _ h => h) (Or.inl ⟨by rfl, ?_⟩) (by assumption) ?_
    case refine_2 => (intro w1 hS1; (try dsimp only at hS1); skip; go_simp; try with_reducible rfl)
    try simp only [List.getElem_toArray, List.getElem_cons_zero, List.getElem_cons_succ, Act.put, List.setIfInBounds_toArray, List.set_cons_zero, List.set_cons_succ]
    refine wpAnyH_done (by kernel_rfl) ?_ _
    have HF8 : Hid (FireS L D w ((((w5.setCell ⟨W1.heap.size, 0, none⟩ (.int .i64 l)).setCell ⟨W1.heap.size, 1, none⟩ (.int .i64 f)).setCell ⟨W1.heap.size, 2, none⟩ (.int .i64 cc)).setCell ⟨W1.heap.size, 3, none⟩ (.int .i64 d)) #[.int .u64 id, .int .i64 cn, .int .i64 1, .int .i64 lv, .int .u64 ge, .int .i64 fr, .int .i64 lf, .int .i64 du, .int .i64 (tl + 1)] #[.int .i64 c, .slice a n ca, .int .i64 r, .int .i64 b] #[.int .u64 0, .int .i64 0, .int .i64 0, .int .i64 0, .int .u64 0, .int .i64 0, .int .i64 0, .int .i64 0, .int .i64 0]) := Lib.hid (HF5.out.put4 H0.out HM.out HZ5.out (by decide) _ _ _ _)
    have HV : Hid (((((w5.setCell ⟨W1.heap.size, 0, none⟩ (.int .i64 l)).setCell ⟨W1.heap.size, 1, none⟩ (.int .i64 f)).setCell ⟨W1.heap.size, 2, none⟩ (.int .i64 cc)).setCell ⟨W1.heap.size, 3, none⟩ (.int .i64 d)).heap[W1.heap.size]? = some (.cells #[.int .i64 l, .int .i64 f, .int .i64 cc, .int .i64 d] 89 (0, 0))) := Lib.hid (put4_at HZ5.out _ _ _ _).1
    clear HF HF5 HZ5 u0 u1 u2 u3 r0 r1 r2 r3
    have HF := HF8
    clear HF8
    have HW := Lib.hid (show w.heap.size + 1 + 1 < W1.heap.size from HM.out)
    clear hHeld
    generalize (((w5.setCell ⟨W1.heap.size, 0, none⟩ (.int .i64 l)).setCell ⟨W1.heap.size, 1, none⟩ (.int .i64 f)).setCell ⟨W1.heap.size, 2, none⟩ (.int .i64 cc)).setCell ⟨W1.heap.size, 3, none⟩ (.int .i64 d) = U at HF HV ⊢
    obtain ⟨c0, c1, c2, c3, c4, c5, c6, c7, c8⟩ := nine_at HF.out.tk
    obtain ⟨v0, v1, v2, v3, -⟩ := four_at HV.out
    cases ok
    · go_wp2_with fail
      clear c0 c1 c2 c3 c4 c5 c6 c7 c8 v0 v1 v2 v3
      have h0 : U.drew.heap[w.heap.size]? = some (.cells #[.int .u64 id, .int .i64 cn, .int .i64 1, .int .i64 lv, .int .u64 ge, .int .i64 fr, .int .i64 lf, .int .i64 du, .int .i64 (tl + 1)] 48 (0, 0)) := HF.out.tk
      refine wp_region_held_drew (S := fun w' => w'.heap[w.heap.size]? = some (.cells #[.int .u64 id, .int .i64 cn, .int .i64 1, .int .i64 lv, .int .u64 ge, .int .i64 fr, .int .i64 lf, .int .i64 du, .int .i64 (tl + 1)] 48 (0, 0))) (by kernel_rfl) h0 (fun hHeld => ?_)
      refine wpAnyH_take (i := 0) (v := ?_) rfl (by kernel_rfl) (by kernel_rfl) (by kernel_rfl) (fun _ _ _ h => h) (Or.inl ⟨by rfl, ?_⟩) (by assumption) ?_
      case refine_2 => (intro w1 hS1; (try dsimp only at hS1); obtain ⟨c0, c1, c2, c3, c4, c5, c6, c7, c8⟩ := nine_at hS1; go_simp; try with_reducible rfl)
      try simp only [List.getElem_toArray, List.getElem_cons_zero, List.getElem_cons_succ, Act.put, List.setIfInBounds_toArray, List.set_cons_zero, List.set_cons_succ]
      refine wpAnyH_take (i := 1) (v := ?_) rfl (by kernel_rfl) (by kernel_rfl) (by kernel_rfl) (fun _ _ _ h => h) (Or.inl ⟨by rfl, ?_⟩) (by assumption) ?_
      case refine_2 => (intro w1 hS1; (try dsimp only at hS1); obtain ⟨c0, c1, c2, c3, c4, c5, c6, c7, c8⟩ := nine_at hS1; go_simp; try with_reducible rfl)
      try simp only [List.getElem_toArray, List.getElem_cons_zero, List.getElem_cons_succ, Act.put, List.setIfInBounds_toArray, List.set_cons_zero, List.set_cons_succ]
      refine wpAnyH_take (i := 4) (v := ?_) rfl (by kernel_rfl) (by kernel_rfl) (by kernel_rfl) (fun _ _ _ h => h) (Or.inl ⟨by rfl, ?_⟩) (by assumption) ?_
      case refine_2 => (intro w1 hS1; (try dsimp only at hS1); obtain ⟨c0, c1, c2, c3, c4, c5, c6, c7, c8⟩ := nine_at hS1; go_simp; try with_reducible rfl)
      try simp only [List.getElem_toArray, List.getElem_cons_zero, List.getElem_cons_succ, Act.put, List.setIfInBounds_toArray, List.set_cons_zero, List.set_cons_succ]
      refine wpAnyH_take (i := 5) (v := ?_) rfl (by kernel_rfl) (by kernel_rfl) (by kernel_rfl) (fun _ _ _ h => h) (Or.inl ⟨by rfl, ?_⟩) (by assumption) ?_
      case refine_2 => (intro w1 hS1; (try dsimp only at hS1); obtain ⟨c0, c1, c2, c3, c4, c5, c6, c7, c8⟩ := nine_at hS1; go_simp; try with_reducible rfl)
      try simp only [List.getElem_toArray, List.getElem_cons_zero, List.getElem_cons_succ, Act.put, List.setIfInBounds_toArray, List.set_cons_zero, List.set_cons_succ]
      refine wpAnyH_ready (rs := [2]) (by kernel_rfl) (by simp) ?_
      refine AllReadyH.cons rfl (fun K hK => ?_) AllReadyH.nil
      go_simp
      refine (HEN.out _).mono ?_
      rintro e w6 ⟨rfl, hb6⟩
      have HF6 := Lib.hid ((HF.out.below (Below.refl _ _).drew).below hb6)
      clear hb6
      refine hK.out _ _ (HF6.out.tk) (fun hHeld => ?_)
      clear hK K
      try simp only [List.getElem_toArray, List.getElem_cons_zero, List.getElem_cons_succ, Act.put, List.setIfInBounds_toArray, List.set_cons_zero, List.set_cons_succ]
      refine wpAnyH_ready (rs := [3]) (by kernel_rfl) (by simp) ?_
      refine AllReadyH.cons rfl (fun K hK => ?_) AllReadyH.nil
      go_simp
      refine (HAT.out 3 lv 0 0 0 _).mono ?_
      rintro e w7 ⟨rfl, hb7⟩
      have HF7 := Lib.hid (HF6.out.below hb7)
      clear hb7
      obtain ⟨z0, z1, z2, z3, z4, z5, z6, z7, z8⟩ := nine_at HF7.out.res
      obtain ⟨y0, y1, y2, y3, y4, y5, y6, y7, y8⟩ := nine_fr HF7.out.res

      refine hK.out _ _ (HF7.out.tk) (fun hHeld => ?_)
      clear hK K
      try simp only [List.getElem_toArray, List.getElem_cons_zero, List.getElem_cons_succ, Act.put, List.setIfInBounds_toArray, List.set_cons_zero, List.set_cons_succ]
      refine wpAnyH_ready (rs := [6]) (by kernel_rfl) (by simp) ?_
      refine AllReadyH.cons rfl (fun K hK => ?_) AllReadyH.nil
      go_simp
      skip
      refine hK.out _ _ (((put9_at HF7.out.res (.int .u64 id) (.int .i64 cn) (.int .i64 3) (.int .i64 lv) (.int .u64 0) (.int .i64 0) (.int .i64 0) (.int .i64 0) (.int .i64 (tl + 1))).2.1 _ (by omega)).trans HF7.out.tk) (fun hHeld => ?_)
      clear hK K
      try simp only [List.getElem_toArray, List.getElem_cons_zero, List.getElem_cons_succ, Act.put, List.setIfInBounds_toArray, List.set_cons_zero, List.set_cons_succ]
      refine wpAnyH_take (i := 7) (v := ?_) rfl (by kernel_rfl) (by kernel_rfl) (by kernel_rfl) (fun _ _ _ h => h) (Or.inl ⟨by rfl, ?_⟩) (by assumption) ?_
      case refine_2 => (intro w1 hS1; (try dsimp only at hS1); go_simp; try with_reducible rfl)
      try simp only [List.getElem_toArray, List.getElem_cons_zero, List.getElem_cons_succ, Act.put, List.setIfInBounds_toArray, List.set_cons_zero, List.set_cons_succ]
      refine wpAnyH_take (i := 8) (v := ?_) rfl (by kernel_rfl) (by kernel_rfl) (by kernel_rfl) (fun _ _ _ h => h) (Or.inl ⟨by rfl, ?_⟩) (by assumption) ?_
      case refine_2 => (intro w1 hS1; (try dsimp only at hS1); go_simp; try with_reducible rfl)
      try simp only [List.getElem_toArray, List.getElem_cons_zero, List.getElem_cons_succ, Act.put, List.setIfInBounds_toArray, List.set_cons_zero, List.set_cons_succ]
      refine wpAnyH_done (by kernel_rfl) ?_ _
      go_wp2_with fail
      have hk := Ck.put9 H0.out (N := w.heap.size + 1 + 1) (by omega) HF7.out.ck HF7.out.res (by decide) (.int .u64 id) (.int .i64 cn) (.int .i64 3) (.int .i64 lv) (.int .u64 0) (.int .i64 0) (.int .i64 0) (.int .i64 0) (.int .i64 (tl + 1))
      have ho := HF7.out.only.put9 (N := w.heap.size + 1 + 1) (by omega) (.int .u64 id) (.int .i64 cn) (.int .i64 3) (.int .i64 lv) (.int .u64 0) (.int .i64 0) (.int .i64 0) (.int .i64 0) (.int .i64 (tl + 1))
      obtain ⟨hp9, -, -⟩ := put9_at HF7.out.res (.int .u64 id) (.int .i64 cn) (.int .i64 3) (.int .i64 lv) (.int .u64 0) (.int .i64 0) (.int .i64 0) (.int .i64 0) (.int .i64 (tl + 1))
      obtain ⟨p0, p1, p2, p3, p4, p5, p6, p7, p8⟩ := nine_at hp9
      unfold put9 at p0 p1 p2 p3 p4 p5 p6 p7 p8 hk ho
      exact bodyPost_ret (v := .tuple #[.agg #[.int .u64 id, .int .i64 cn, .int .i64 3, .int .i64 lv, .int .u64 0, .int .i64 0, .int .i64 0, .int .i64 0, .int .i64 (tl + 1)], .int .i64 lv, .int .i64 0]) (by simp [results, Tryz.results46, go_sem, p0, p1, p2, p3, p4, p5, p6, p7, p8]) rfl ⟨l, f, cc, d, false, er, HRR.out, .inr ⟨rfl, rfl⟩, hk, ho⟩
    · go_wp2_with fail
      clear c0 c1 c2 c3 c4 c5 c6 c7 c8 v0 v1 v2 v3
      have h0 : U.drew.heap[w.heap.size]? = some (.cells #[.int .u64 id, .int .i64 cn, .int .i64 1, .int .i64 lv, .int .u64 ge, .int .i64 fr, .int .i64 lf, .int .i64 du, .int .i64 (tl + 1)] 48 (0, 0)) ∧ U.drew.heap[W1.heap.size]? = some (.cells #[.int .i64 l, .int .i64 f, .int .i64 cc, .int .i64 d] 89 (0, 0)) := ⟨HF.out.tk, HV.out⟩
      refine wp_region_held_drew (S := fun w' => w'.heap[w.heap.size]? = some (.cells #[.int .u64 id, .int .i64 cn, .int .i64 1, .int .i64 lv, .int .u64 ge, .int .i64 fr, .int .i64 lf, .int .i64 du, .int .i64 (tl + 1)] 48 (0, 0)) ∧ w'.heap[W1.heap.size]? = some (.cells #[.int .i64 l, .int .i64 f, .int .i64 cc, .int .i64 d] 89 (0, 0))) (by kernel_rfl) h0 (fun hHeld => ?_)
      refine wpAnyH_take (i := 0) (v := ?_) rfl (by kernel_rfl) (by kernel_rfl) (by kernel_rfl) (fun _ _ _ h => h) (Or.inl ⟨by rfl, ?_⟩) (by assumption) ?_
      case refine_2 => (intro w1 hS1; (try dsimp only at hS1); obtain ⟨c0, c1, c2, c3, c4, c5, c6, c7, c8⟩ := nine_at hS1.1; obtain ⟨v0, v1, v2, v3, -⟩ := four_at hS1.2; go_simp; try with_reducible rfl)
      try simp only [List.getElem_toArray, List.getElem_cons_zero, List.getElem_cons_succ, Act.put, List.setIfInBounds_toArray, List.set_cons_zero, List.set_cons_succ]
      refine wpAnyH_take (i := 1) (v := ?_) rfl (by kernel_rfl) (by kernel_rfl) (by kernel_rfl) (fun _ _ _ h => h) (Or.inl ⟨by rfl, ?_⟩) (by assumption) ?_
      case refine_2 => (intro w1 hS1; (try dsimp only at hS1); obtain ⟨c0, c1, c2, c3, c4, c5, c6, c7, c8⟩ := nine_at hS1.1; obtain ⟨v0, v1, v2, v3, -⟩ := four_at hS1.2; go_simp; try with_reducible rfl)
      try simp only [List.getElem_toArray, List.getElem_cons_zero, List.getElem_cons_succ, Act.put, List.setIfInBounds_toArray, List.set_cons_zero, List.set_cons_succ]
      refine wpAnyH_take (i := 3) (v := ?_) rfl (by kernel_rfl) (by kernel_rfl) (by kernel_rfl) (fun _ _ _ h => h) (Or.inl ⟨by rfl, ?_⟩) (by assumption) ?_
      case refine_2 => (intro w1 hS1; (try dsimp only at hS1); obtain ⟨c0, c1, c2, c3, c4, c5, c6, c7, c8⟩ := nine_at hS1.1; obtain ⟨v0, v1, v2, v3, -⟩ := four_at hS1.2; go_simp; try with_reducible rfl)
      try simp only [List.getElem_toArray, List.getElem_cons_zero, List.getElem_cons_succ, Act.put, List.setIfInBounds_toArray, List.set_cons_zero, List.set_cons_succ]
      refine wpAnyH_take (i := 4) (v := ?_) rfl (by kernel_rfl) (by kernel_rfl) (by kernel_rfl) (fun _ _ _ h => h) (Or.inl ⟨by rfl, ?_⟩) (by assumption) ?_
      case refine_2 => (intro w1 hS1; (try dsimp only at hS1); obtain ⟨c0, c1, c2, c3, c4, c5, c6, c7, c8⟩ := nine_at hS1.1; obtain ⟨v0, v1, v2, v3, -⟩ := four_at hS1.2; go_simp; try with_reducible rfl)
      try simp only [List.getElem_toArray, List.getElem_cons_zero, List.getElem_cons_succ, Act.put, List.setIfInBounds_toArray, List.set_cons_zero, List.set_cons_succ]
      refine wpAnyH_ready (rs := [2]) (by kernel_rfl) (by simp) ?_
      refine AllReadyH.cons rfl (fun K hK => ?_) AllReadyH.nil
      go_simp
      refine (HAT.out 1 l f cc d _).mono ?_
      rintro e w7 ⟨rfl, hb7⟩
      have HF7 := Lib.hid ((HF.out.below (Below.refl _ _).drew).below hb7)
      have HV7 := Lib.hid (ex_below (show U.drew.heap[W1.heap.size]? = _ from HV.out) hb7)
      clear hb7
      obtain ⟨z0, z1, z2, z3, z4, z5, z6, z7, z8⟩ := nine_at HF7.out.res
      obtain ⟨y0, y1, y2, y3, y4, y5, y6, y7, y8⟩ := nine_fr HF7.out.res

      refine hK.out _ _ (⟨HF7.out.tk, HV7.out⟩) (fun hHeld => ?_)
      clear hK K
      try simp only [List.getElem_toArray, List.getElem_cons_zero, List.getElem_cons_succ, Act.put, List.setIfInBounds_toArray, List.set_cons_zero, List.set_cons_succ]
      refine wpAnyH_ready (rs := [5]) (by kernel_rfl) (by simp) ?_
      refine AllReadyH.cons rfl (fun K hK => ?_) AllReadyH.nil
      go_simp
      skip
      refine hK.out _ _ (⟨((put9_at HF7.out.res (.int .u64 id) (.int .i64 cn) (.int .i64 1) (.int .i64 l) (.int .u64 0) (.int .i64 f) (.int .i64 cc) (.int .i64 d) (.int .i64 (tl + 1))).2.1 _ (by omega)).trans HF7.out.tk, ((put9_at HF7.out.res (.int .u64 id) (.int .i64 cn) (.int .i64 1) (.int .i64 l) (.int .u64 0) (.int .i64 f) (.int .i64 cc) (.int .i64 d) (.int .i64 (tl + 1))).2.1 _ (by have := HW.out; omega)).trans HV7.out⟩) (fun hHeld => ?_)
      clear hK K
      try simp only [List.getElem_toArray, List.getElem_cons_zero, List.getElem_cons_succ, Act.put, List.setIfInBounds_toArray, List.set_cons_zero, List.set_cons_succ]
      refine wpAnyH_take (i := 6) (v := ?_) rfl (by kernel_rfl) (by kernel_rfl) (by kernel_rfl) (fun _ _ _ h => h) (Or.inl ⟨by rfl, ?_⟩) (by assumption) ?_
      case refine_2 => (intro w1 hS1; (try dsimp only at hS1); go_simp; try with_reducible rfl)
      try simp only [List.getElem_toArray, List.getElem_cons_zero, List.getElem_cons_succ, Act.put, List.setIfInBounds_toArray, List.set_cons_zero, List.set_cons_succ]
      refine wpAnyH_take (i := 7) (v := ?_) rfl (by kernel_rfl) (by kernel_rfl) (by kernel_rfl) (fun _ _ _ h => h) (Or.inl ⟨by rfl, ?_⟩) (by assumption) ?_
      case refine_2 => (intro w1 hS1; (try dsimp only at hS1); go_simp; try with_reducible rfl)
      try simp only [List.getElem_toArray, List.getElem_cons_zero, List.getElem_cons_succ, Act.put, List.setIfInBounds_toArray, List.set_cons_zero, List.set_cons_succ]
      refine wpAnyH_done (by kernel_rfl) ?_ _
      go_wp2_with fail
      have hk := Ck.put9 H0.out (N := w.heap.size + 1 + 1) (by omega) HF7.out.ck HF7.out.res (by decide) (.int .u64 id) (.int .i64 cn) (.int .i64 1) (.int .i64 l) (.int .u64 0) (.int .i64 f) (.int .i64 cc) (.int .i64 d) (.int .i64 (tl + 1))
      have ho := HF7.out.only.put9 (N := w.heap.size + 1 + 1) (by omega) (.int .u64 id) (.int .i64 cn) (.int .i64 1) (.int .i64 l) (.int .u64 0) (.int .i64 f) (.int .i64 cc) (.int .i64 d) (.int .i64 (tl + 1))
      obtain ⟨hp9, -, -⟩ := put9_at HF7.out.res (.int .u64 id) (.int .i64 cn) (.int .i64 1) (.int .i64 l) (.int .u64 0) (.int .i64 f) (.int .i64 cc) (.int .i64 d) (.int .i64 (tl + 1))
      obtain ⟨p0, p1, p2, p3, p4, p5, p6, p7, p8⟩ := nine_at hp9
      unfold put9 at p0 p1 p2 p3 p4 p5 p6 p7 p8 hk ho
      exact bodyPost_ret (v := .tuple #[.agg #[.int .u64 id, .int .i64 cn, .int .i64 1, .int .i64 l, .int .u64 0, .int .i64 f, .int .i64 cc, .int .i64 d, .int .i64 (tl + 1)], .int .i64 lv, .int .i64 0]) (by simp [results, Tryz.results46, go_sem, p0, p1, p2, p3, p4, p5, p6, p7, p8]) rfl ⟨l, f, cc, d, true, er, HRR.out, .inl ⟨rfl, rfl⟩, hk, ho⟩
end Go.Proofs.YthnnbmofpmedhaaGreat

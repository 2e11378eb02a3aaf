/- The search for a span, and how many seconds of a week are open before its second t. -/
import Derived.Test.YtfeegohjgecjgaaWkB
import Derived.Test.YtfeegohjgecjgaaSpS
namespace Go.Proofs.Ytfeegohjgecjgaa
open Go.RowKit

set_option maxRecDepth 100000 in
/-- The function that the search asks. -/
theorem before_any (P tb pb k : Nat) (a : Option Addr) (n c : Nat) (F T : Nat → Int) (t : Int) (w : World) (ht : w.cell? ⟨tb, 0, none⟩ = some (.int .i64 t)) (hp : w.cell? ⟨pb, 0, none⟩ = some (.pointer (some ⟨P, 0, none⟩)))
    (hrow : w.cell? ⟨P, 0, none⟩ = some (.slice a n c)) (hS : Sps w a n F T) (hk : k < n) :
    Calls Try.prog 106 #[.int .i64 k, .pointer (some ⟨tb, 0, none⟩), .pointer (some ⟨pb, 0, none⟩)] w fun e w' => e = .returned (.bool (decide (t < T k))) ∧ ∃ q, w' = w.drewN q := by
  obtain ⟨ab, ao, rfl, hab, c0, c1, _⟩ := hS.at (Below.refl _ _) k hk
  have k0 : (0 : Int) ≤ (k : Int) := by omega
  have kl : (k : Int) < (n : Int) := by omega
  obtain ⟨u, hu⟩ : ∃ u, T k = u := ⟨_, rfl⟩
  rw [hu] at c1 ⊢
  obtain ⟨b, hb⟩ : ∃ b, decide (t < u) = b := ⟨_, rfl⟩
  rw [hb]
  clear hS hu c0
  go_enter Try.func106, Try.ntmps106
  go_wp2_with fail
  go_quiet (fail)
  go_wp2_with fail
  go_ret
  exact ⟨rfl, _, rfl⟩

/-- The first span that ends behind t. -/
def Found (T : Nat → Int) (n : Nat) (t : Int) (w : World) (e : Ending) (w' : World) : Prop :=
  ∃ i : Nat, e = .returned (.int .i64 i) ∧ i ≤ n ∧ (∀ j, j < i → T j ≤ t) ∧ (∀ j, i ≤ j → j < n → t < T j) ∧ ∃ q, w' = w.drewN q
set_option maxRecDepth 100000 in
set_option maxHeartbeats 4000000 in
theorem search_any (P tb pb : Nat) (a : Option Addr) (n c : Nat) (F T : Nat → Int) (t : Int) (w : World) (ht : w.cell? ⟨tb, 0, none⟩ = some (.int .i64 t)) (hp : w.cell? ⟨pb, 0, none⟩ = some (.pointer (some ⟨P, 0, none⟩)))
    (hrow : w.cell? ⟨P, 0, none⟩ = some (.slice a n c)) (hS : Sps w a n F T) (hn : n ≤ 32) (hg : good F T n = true) :
    Calls Try.prog 74 #[.int .i64 n, .func (.func 106) #[] #[.pointer (some ⟨tb, 0, none⟩), .pointer (some ⟨pb, 0, none⟩)]] w (Found T n t w) := by
  have HB := Lib.hid (fun k q (hk : k < n) => before_any P tb pb k a n c F T t (w.drewN q) ht hp hrow (hS.kept ⟨rfl, rfl, rfl, Nat.le_refl _, fun _ _ => rfl⟩) hk)
  have hmono : ∀ j k, j ≤ k → k < n → T j ≤ T k := fun j k hjk hk => by
    by_cases e : j = k
    · subst e; exact Int.le_refl _
    · have := good_order hg k j (by omega) hk
      have := (good_at hg hk).2.1
      omega
  have HM := Lib.hid hmono
  clear ht hp hrow hS hg hmono
  go_enter Try.func74, Try.ntmps74
  go_wp2_with fail
  go_loopw [5, 6] (fun i j wr => ∃ (x y : Nat), i = .int .i64 x ∧ j = .int .i64 y ∧ x ≤ y ∧ y ≤ n ∧ (∀ k, k < x → T k ≤ t) ∧ (∀ k, y ≤ k → k < n → t < T k) ∧ ∃ q, wr = w.drewN q) (fun i j _ => (intOf j).toNat - (intOf i).toNat)
  case atStart => exact ⟨0, n, rfl, rfl, Nat.zero_le _, Nat.le_refl _, fun k h => by omega, fun k h1 h2 => by omega, 0, rfl⟩
  case round =>
    obtain ⟨x, y, rfl, rfl, hxy, hyn, hlo, hhi, q, rfl⟩ := hrel
    have HLO := Lib.hid hlo
    have HHI := Lib.hid hhi
    clear hlo hhi
    by_cases hlt : x < y
    · have d1 : decide ((x : Int) < (y : Int)) = true := by simp [hlt]
      have x0 : (0 : Int) ≤ (x : Int) := by omega
      have y0 : (0 : Int) ≤ (y : Int) := by omega
      have y1 : (y : Int) ≤ 32 := by omega
      have x1 : (x : Int) ≤ 32 := by omega
      go_wp2_with fail
      obtain ⟨m, hm⟩ : ∃ m : Nat, ((x : Int) + (y : Int)) / 2 = (m : Int) := ⟨(x + y) / 2, by omega⟩
      rw [hm]
      have hxm : x ≤ m := by omega
      have hmy : m < y := by omega
      clear hm
      have hb := HB.out m q (by omega)
      obtain ⟨b, hd⟩ : ∃ b, decide (t < T m) = b := ⟨_, rfl⟩
      rw [hd] at hb
      have m0 : (0 : Int) ≤ (m : Int) := by omega
      have m1 : (m : Int) ≤ 32 := by omega
      cases b
      · have hf := of_decide_eq_false hd
        have HF := Lib.hid hf
        clear hd hf
        go_wp2_with fail
        refine hb.mono ?_
        rintro e w1 ⟨rfl, q1, rfl⟩
        clear hb
        go_wp2_with fail
        go_roundw
        case rel => exact ⟨m + 1, y, by go_num, rfl, by omega, hyn, (fun k hk => by
          have h1 := HM.out k m (by omega) (by omega)
          have h2 := HF.out
          omega), HHI.out, _, rfl⟩
        case measure => simp [intOf]; omega
      · have ht := of_decide_eq_true hd
        have HF := Lib.hid ht
        clear hd ht
        go_wp2_with fail
        refine hb.mono ?_
        rintro e w1 ⟨rfl, q1, rfl⟩
        clear hb
        go_wp2_with fail
        go_roundw
        case rel => exact ⟨x, m, rfl, rfl, hxm, by omega, HLO.out, (fun k h1 h2 => by
          have h3 := HM.out m k h1 h2
          have h4 := HF.out
          omega), _, rfl⟩
        case measure => simp [intOf]; omega
    · obtain rfl : x = y := by omega
      go_wp2_with fail
      go_ret
      exact ⟨x, rfl, hyn, HLO.out, HHI.out, q, rfl⟩

theorem wsum_found {F T : Nat → Int} {n i : Nat} {t : Int} (hg : good F T n = true) (hlo : ∀ j, j < i → T j ≤ t) (hhi : ∀ j, i ≤ j → j < n → t < T j) : ∀ k, k ≤ n → wsum F T 0 t k = if k ≤ i then tsum F T k else tsum F T i + max 0 (t - F i) := by
  intro k
  induction k with
  | zero => intro _; rw [if_pos (Nat.zero_le _)]; rfl
  | succ k ih =>
    intro hk
    have h := ih (by omega)
    obtain ⟨g0, g1, g2, _⟩ := good_at hg (show k < n by omega)
    simp only [wsum, h]
    by_cases e1 : k + 1 ≤ i
    · rw [if_pos (by omega), if_pos e1, clip_before _ _ _ g0 g1 (hlo k (by omega))]
      simp only [tsum]
    · by_cases e2 : k = i
      · subst e2
        rw [if_pos (Nat.le_refl _), if_neg e1]
        have ht := hhi k (Nat.le_refl _) (by omega)
        by_cases h1 : F k ≤ t
        · rw [clip_within _ _ _ g0 h1 ht]; omega
        · rw [clip_behind _ _ _ g0 g1 (by omega)]; omega
      · rw [if_neg (by omega), if_neg e1]
        have := hhi i (Nat.le_refl _) (by omega)
        have := good_order hg k i (by omega) (by omega)
        rw [clip_behind _ _ _ g0 g1 (by omega)]
        omega

set_option maxRecDepth 100000 in
set_option maxHeartbeats 4000000 in
theorem within_plan {base P C : Nat} {a : Option Addr} {n c : Nat} {F T : Nat → Int} {w : World} (t : Int) (h : Pl base P C a n c F T w) (hn : n ≤ 32) (hg : good F T n = true) (hb : base ≤ w.heap.size) (ht0 : 0 ≤ t) (ht1 : t ≤ 1125899906842624) :
    Calls Try.prog 96 #[.pointer (some ⟨P, 0, none⟩), .int .i64 t] w fun e w' => e = .returned (.int .i64 (wsum F T 0 t n)) ∧ Pl base P C a n c F T w' ∧ Stays base w w' := by
  have B1 : Below w.heap.size w ((w.alloc (.cells #[.pointer (some ⟨P, 0, none⟩)] 73)).alloc (.cells #[.int .i64 t] 2)) := ((Below.refl _ _).alloc (Nat.le_refl _) _).alloc (by simp) _
  have hP := h.kept B1
  have z0 : ((w.alloc (.cells #[.pointer (some ⟨P, 0, none⟩)] 73)).alloc (.cells #[.int .i64 t] 2)).cell? ⟨w.heap.size, 0, none⟩ = some (.pointer (some ⟨P, 0, none⟩)) := by rw [World.cell?_alloc_past _ _ _ (by simp)]; simp
  have z1 : ((w.alloc (.cells #[.pointer (some ⟨P, 0, none⟩)] 73)).alloc (.cells #[.int .i64 t] 2)).cell? ⟨w.heap.size + 1, 0, none⟩ = some (.int .i64 t) := by simp
  have hlt0 : w.heap.size < ((w.alloc (.cells #[.pointer (some ⟨P, 0, none⟩)] 73)).alloc (.cells #[.int .i64 t] 2)).heap.size := by simp; omega
  have hlt1 : w.heap.size + 1 < ((w.alloc (.cells #[.pointer (some ⟨P, 0, none⟩)] 73)).alloc (.cells #[.int .i64 t] 2)).heap.size := by simp
  have hltC := h.lt
  have HB1 := Lib.hid (Stays.below hb B1)
  have hse := search_any P (w.heap.size + 1) w.heap.size a n c F T t _ z1 z0 hP.row hP.sps hn hg
  have e1 := hP.bef
  have e2 := hP.row
  have HP := Lib.hid hP
  have HG := Lib.hid hg
  clear h hP B1 hg
  go_enter Try.func96, Try.ntmps96
  go_wp2_with fail
  generalize ((w.alloc (.cells #[.pointer (some ⟨P, 0, none⟩)] 73)).alloc (.cells #[.int .i64 t] 2)) = W at *
  refine hse.mono ?_
  rintro e w1 ⟨i, rfl, hin, hlo, hhi, q, rfl⟩
  clear hse
  have hP1 := HP.out.drewN q
  have f0 : (W.drewN q).cell? ⟨w.heap.size, 0, none⟩ = some (.pointer (some ⟨P, 0, none⟩)) := z0
  have f1 : (W.drewN q).cell? ⟨w.heap.size + 1, 0, none⟩ = some (.int .i64 t) := z1
  have f2 : (W.drewN q).cell? ⟨P, 1, none⟩ = some (.pointer (some ⟨C, 0, none⟩)) := e1
  have f3 : (W.drewN q).cell? ⟨P, 0, none⟩ = some (.slice a n c) := e2
  have hsz : (W.drewN q).heap.size = W.heap.size := rfl
  have hget := get_plan hP1 hn HG.out
  have HBQ := Lib.hid (HB1.out.trans (show Stays base W (W.drewN q) from ⟨Nat.le_refl _, fun W0 h => below_drewN' h q⟩))
  have HLO := Lib.hid hlo
  have HHI := Lib.hid hhi
  clear hP1 hlo hhi z0 z1 e1 e2
  generalize W.drewN q = W1 at *
  go_wp2_with fail
  refine hget.mono ?_
  rintro e w2 ⟨g, vc, rfl, hk, hP2, hO2⟩
  have ck := hk i hin
  have e1 := hP2.row
  have e2 : w2.cell? ⟨w.heap.size, 0, none⟩ = some (.pointer (some ⟨P, 0, none⟩)) := (hO2.cell (p := ⟨w.heap.size, 0, none⟩) (by show w.heap.size < _; omega) (by show ¬ w.heap.size = C; omega)).trans f0
  have e3 : w2.cell? ⟨w.heap.size + 1, 0, none⟩ = some (.int .i64 t) := (hO2.cell (p := ⟨w.heap.size + 1, 0, none⟩) (by show w.heap.size + 1 < _; omega) (by show ¬ w.heap.size + 1 = C; omega)).trans f1
  have HST := Lib.hid (HBQ.out.trans (show Stays base W1 w2 from ⟨hO2.size, fun W0 h => h.trans (hO2.toBelow (Nat.le_trans hb (HBQ.out).1) fun k hk => by subst hk; exact hP2.hC)⟩))
  have HS2 := Lib.hid hP2.sps
  have HP2 := Lib.hid hP2
  obtain ⟨p0, p1⟩ := tsum_bounds HG.out i hin
  have p2 : tsum F T i ≤ 36028797018963968 := by omega
  have HWF := Lib.hid (wsum_found HG.out HLO.out HHI.out n (Nat.le_refl _))
  obtain ⟨s, hs⟩ : ∃ s, tsum F T i = s := ⟨_, rfl⟩
  have HE := Lib.hid hs
  rw [hs] at ck p0 p2
  have i0 : (0 : Int) ≤ (i : Int) := by omega
  have i1 : (i : Int) < (n : Int) + 1 := by omega
  clear hget hk hP2 hO2 f0 f1 f2 f3 hs p1
  by_cases hlt : i < n
  · have d1 : decide ((i : Int) < (n : Int)) = true := by simp [hlt]
    have i2 : (i : Int) < (n : Int) := by omega
    obtain ⟨ab, ao, rfl, hab, c0, _, b0, b1, _, _⟩ := HS2.out.at (Below.refl _ _) i hlt
    obtain ⟨g0, g1, g2, _⟩ := good_at HG.out hlt
    have HR : Hid (wsum F T 0 t n = s + max 0 (t - F i)) := Lib.hid (by rw [HWF.out, if_neg (by omega), HE.out])
    obtain ⟨f, hf⟩ : ∃ f, F i = f := ⟨_, rfl⟩
    rw [hf] at c0 b0 b1 g0 g1 HR
    have w1' : IntKind.i64.wrap (t - f) = t - f := IntWalk.i64_in _ (by omega)
    have w2' : IntKind.i64.wrap (s + max 0 (t - f)) = s + max 0 (t - f) := IntWalk.i64_in _ (by omega)
    clear hf
    go_wp2_with fail
    go_quiet (fail)
    all_goals clear w1' w2'
    all_goals go_wp2_with fail
    all_goals
      go_ret
      exact ⟨ret_int (by have := HR.out; omega), HP2.out.drewN _, HST.out.trans ⟨Nat.le_refl _, fun W0 h => below_drewN' h _⟩⟩
  · have d1 : decide ((i : Int) < (n : Int)) = false := by simp; omega
    have HR : Hid (wsum F T 0 t n = s) := Lib.hid (by rw [HWF.out, if_pos (by omega), ← HE.out]; congr 1; omega)
    go_wp2_with fail
    go_ret
    exact ⟨ret_int HR.out.symm, HP2.out, HST.out⟩
end Go.Proofs.Ytfeegohjgecjgaa

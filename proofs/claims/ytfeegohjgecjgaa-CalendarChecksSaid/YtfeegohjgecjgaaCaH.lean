/- The reference's Open and Same of a calendar. -/
import Derived.Test.YtfeegohjgecjgaaCaI
import Derived.Test.YtfeegohjgecjgaaCaE
namespace Go.Proofs.Ytfeegohjgecjgaa
open Go.RowKit
set_option maxRecDepth 100000 in
set_option maxHeartbeats 4000000 in
theorem ropen10 {D : Cal} (hd : D.ok) (a : Option Addr) (ca : Nat) (b : Option Addr) (cb : Nat) (t : Int) (w : World) (hS : Sps w a D.n D.F D.T) (hR : Sps w b D.m D.G D.U) :
    Calls Try.prog 37 #[calV D.off a D.n ca b D.m cb, .int .i64 t] w fun e w' => e = .returned (.bool (D.openA t)) ∧ Below w.heap.size w w' := by
  have o0 := hd.off0
  have o1 := hd.off1
  have HA := Lib.hid (fun W (hb : Below w.heap.size w W) => And.intro (rhas_any a D.n ca D.F D.T ((t - D.off + 604800) % 604800) W (hS.kept hb) hd.wk.len hd.wk.good) (rhas_any b D.m cb D.G D.U t W (hR.kept hb) hd.len hd.good))
  obtain ⟨off, ho⟩ : ∃ o, D.off = o := ⟨_, rfl⟩
  have B1 : Below w.heap.size w (w.alloc (.cells #[.int .i64 off, .slice a D.n ca, .slice b D.m cb] 53)) := (Below.refl _ _).alloc (Nat.le_refl _) _
  have c0 : (w.alloc (.cells #[.int .i64 off, .slice a D.n ca, .slice b D.m cb] 53)).cell? ⟨w.heap.size, 0, none⟩ = some (.int .i64 off) := by simp
  have c1 : (w.alloc (.cells #[.int .i64 off, .slice a D.n ca, .slice b D.m cb] 53)).cell? ⟨w.heap.size, 1, none⟩ = some (.slice a D.n ca) := by simp
  have c2 : (w.alloc (.cells #[.int .i64 off, .slice a D.n ca, .slice b D.m cb] 53)).cell? ⟨w.heap.size, 2, none⟩ = some (.slice b D.m cb) := by simp
  have hlt : w.heap.size < (w.alloc (.cells #[.int .i64 off, .slice a D.n ca, .slice b D.m cb] 53)).heap.size := by simp
  have HB1 := Lib.hid B1
  have HC := Lib.hid (And.intro c0 (And.intro c1 hlt))
  have HX : D.openA t = (decide (0 ≤ t) && (decide (t < 1125899906842624) && (!hasB D.G D.U t D.m && openB D.F D.T D.n (t - off + 604800)))) := by rw [← ho]; rfl
  have h2 := (HA.out _ B1).2
  obtain ⟨hb, ehb⟩ : ∃ x, hasB D.G D.U t D.m = x := ⟨_, rfl⟩
  obtain ⟨b1, d1⟩ : ∃ x, decide (0 ≤ t) = x := ⟨_, rfl⟩
  obtain ⟨b2, d2⟩ : ∃ x, decide (t < 1125899906842624) = x := ⟨_, rfl⟩
  rw [ehb] at HX h2
  rw [d1, d2] at HX
  rw [HX, ho]
  rw [ho] at o0 o1 HA
  unfold calV
  clear hd hS hR B1 hlt HX ho
  cases b1
  case false =>
    clear h2 o0 o1 ehb
    go_enter Try.func37, Try.ntmps37
    go_wp2_with fail
    go_ret
    exact ⟨rfl, HB1.out⟩
  cases b2
  case false =>
    clear h2 o0 o1 ehb
    go_enter Try.func37, Try.ntmps37
    go_wp2_with fail
    go_ret
    exact ⟨rfl, HB1.out⟩
  have t0 := of_decide_eq_true d1
  have t1 := of_decide_eq_true d2
  cases hb
  case true =>
    clear o0 o1 ehb t0 t1
    go_enter Try.func37, Try.ntmps37
    go_wp2_with fail
    refine h2.mono ?_
    rintro e w2 ⟨rfl, hb2⟩
    have HB2 := Lib.hid (HB1.out.trans (hb2.mono HB1.out.size))
    clear h2 hb2
    go_wp2_with fail
    go_ret
    exact ⟨rfl, HB2.out⟩
  case false =>
    have e1 : IntKind.i64.wrap (t - off) = t - off := IntWalk.i64_in _ (by omega)
    have e2 : IntKind.i64.wrap (t - off + 604800) = t - off + 604800 := IntWalk.i64_in _ (by omega)
    have hp : 0 ≤ t - off + 604800 := by omega
    have hop : openB D.F D.T D.n (t - off + 604800) = hasB D.F D.T ((t - off + 604800) % 604800) D.n := by
      unfold openB
      rw [decide_eq_true hp, decide_eq_true (by omega : t - off + 604800 ≤ 2251799813685248)]
      rfl
    rw [hop]
    obtain ⟨u, hu⟩ : ∃ u, (t - off + 604800) % 604800 = u := ⟨_, rfl⟩
    have e3 : (t - off + 604800).tmod 604800 = u := by rw [Int.tmod_eq_emod_of_nonneg hp, hu]
    have e4 : IntKind.i64.wrap u = u := IntWalk.i64_in _ (by omega)
    rw [hu] at HA ⊢
    clear o0 o1 ehb t0 t1 hop
    go_enter Try.func37, Try.ntmps37
    go_wp2_with fail
    refine h2.mono ?_
    rintro e w2 ⟨rfl, hb2⟩
    have HB2 := Lib.hid (HB1.out.trans (hb2.mono HB1.out.size))
    have k0 := (hb2.cell (p := ⟨w.heap.size, 0, none⟩) HC.out.2.2).trans HC.out.1
    have k1 := (hb2.cell (p := ⟨w.heap.size, 1, none⟩) HC.out.2.2).trans HC.out.2.1
    have h3 := (HA.out w2 HB2.out).1
    clear h2 hb2 c0 c1 c2
    go_wp2_with fail
    refine h3.mono ?_
    rintro e w3 ⟨rfl, hb3⟩
    have HB3 := Lib.hid (HB2.out.trans (hb3.mono HB2.out.size))
    clear h3 hb3 k0 k1
    go_wp2_with fail
    go_ret
    exact ⟨rfl, HB3.out⟩
/-- A plain calendar against the one that it was made of. -/
theorem rsame10 (off : Int) (v1 v2 : Value) (a : Option Addr) (n ca : Nat) (b : Option Addr) (m cb : Nat) (F T G U : Nat → Int) {base : Nat} (w : World) (h1 : OS w base v1 (pairs F T n)) (h2 : OS w base v2 (pairs G U m)) (hS : Sps w a n F T) (hR : Sps w b m G U) :
    Calls Try.prog 38 #[.agg #[.int .i64 off, v1, v2], calV off a n ca b m cb] w fun e w' => e = .returned (.bool true) ∧ Below w.heap.size w w' := by
  have HA := Lib.hid (fun W (hb : Below w.heap.size w W) => And.intro (rsame_row (cap := ca) (h1.kept hb) (hS.kept hb)) (rsame_row (cap := cb) (h2.kept hb) (hR.kept hb)))
  obtain ⟨va1, vc1, rfl, _, _⟩ := h1.shape
  obtain ⟨va2, vc2, rfl, _, _⟩ := h2.shape
  generalize (pairs F T n).length = l1 at *
  generalize (pairs G U m).length = l2 at *
  have B2 : Below w.heap.size w ((w.alloc (.cells #[.int .i64 off, .slice va1 l1 vc1, .slice va2 l2 vc2] 53)).alloc (.cells #[.int .i64 off, .slice a n ca, .slice b m cb] 53)) := ((Below.refl _ _).alloc (Nat.le_refl _) _).alloc (by simp) _
  have q0 : ((w.alloc (.cells #[.int .i64 off, .slice va1 l1 vc1, .slice va2 l2 vc2] 53)).alloc (.cells #[.int .i64 off, .slice a n ca, .slice b m cb] 53)).cell? ⟨w.heap.size, 0, none⟩ = some (.int .i64 off) := by rw [World.cell?_alloc_past _ _ _ (by simp)]; simp
  have q1 : ((w.alloc (.cells #[.int .i64 off, .slice va1 l1 vc1, .slice va2 l2 vc2] 53)).alloc (.cells #[.int .i64 off, .slice a n ca, .slice b m cb] 53)).cell? ⟨w.heap.size, 1, none⟩ = some (.slice va1 l1 vc1) := by rw [World.cell?_alloc_past _ _ _ (by simp)]; simp
  have q2 : ((w.alloc (.cells #[.int .i64 off, .slice va1 l1 vc1, .slice va2 l2 vc2] 53)).alloc (.cells #[.int .i64 off, .slice a n ca, .slice b m cb] 53)).cell? ⟨w.heap.size, 2, none⟩ = some (.slice va2 l2 vc2) := by rw [World.cell?_alloc_past _ _ _ (by simp)]; simp
  have r0 : ((w.alloc (.cells #[.int .i64 off, .slice va1 l1 vc1, .slice va2 l2 vc2] 53)).alloc (.cells #[.int .i64 off, .slice a n ca, .slice b m cb] 53)).cell? ⟨w.heap.size + 1, 0, none⟩ = some (.int .i64 off) := by simp
  have r1 : ((w.alloc (.cells #[.int .i64 off, .slice va1 l1 vc1, .slice va2 l2 vc2] 53)).alloc (.cells #[.int .i64 off, .slice a n ca, .slice b m cb] 53)).cell? ⟨w.heap.size + 1, 1, none⟩ = some (.slice a n ca) := by simp
  have r2 : ((w.alloc (.cells #[.int .i64 off, .slice va1 l1 vc1, .slice va2 l2 vc2] 53)).alloc (.cells #[.int .i64 off, .slice a n ca, .slice b m cb] 53)).cell? ⟨w.heap.size + 1, 2, none⟩ = some (.slice b m cb) := by simp
  have HB := Lib.hid B2
  have hs1 := (HA.out _ B2).1
  unfold calV
  clear B2 h1 h2 hS hR
  go_enter Try.func38, Try.ntmps38
  go_wp2_with fail
  generalize ((w.alloc (.cells #[.int .i64 off, .slice va1 l1 vc1, .slice va2 l2 vc2] 53)).alloc (.cells #[.int .i64 off, .slice a n ca, .slice b m cb] 53)) = W at *
  refine hs1.mono ?_
  rintro e w3 ⟨rfl, q, rfl⟩
  have HB1 := Lib.hid (below_drewN' HB.out q)
  have q2' : (W.drewN q).cell? ⟨w.heap.size, 2, none⟩ = some (.slice va2 l2 vc2) := q2
  have r2' : (W.drewN q).cell? ⟨w.heap.size + 1, 2, none⟩ = some (.slice b m cb) := r2
  have hs2 := (HA.out _ HB1.out).2
  clear q0 q1 q2 r0 r1 r2 hs1
  generalize W.drewN q = W3 at *
  go_wp2_with fail
  refine hs2.mono ?_
  rintro e w4 ⟨rfl, q, rfl⟩
  have HB2 := Lib.hid (below_drewN' HB1.out q)
  clear hs2
  go_wp2_with fail
  go_ret
  exact ⟨rfl, HB2.out⟩
end Go.Proofs.Ytfeegohjgecjgaa

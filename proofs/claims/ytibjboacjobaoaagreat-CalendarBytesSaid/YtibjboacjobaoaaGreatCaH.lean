/- The reference's Open and Same of a calendar. -/
import Derived.Test.YtibjboacjobaoaaGreatMgBC
namespace Go.Proofs.YtibjboacjobaoaaGreat
open Go.RowKit
/-- A plain calendar against the one that it was made of. -/
theorem rsame10 (off : Int) (v1 v2 : Value) (a : Option Addr) (n ca : Nat) (b : Option Addr) (m cb : Nat) (F T G U : Nat → Int) {base : Nat} (w : World) (h1 : OS w base v1 (pairs F T n)) (h2 : OS w base v2 (pairs G U m)) (hS : Sps w a n F T) (hR : Sps w b m G U) :
    Calls Tryz.prog 12 #[.agg #[.int .i64 off, v1, v2], calV off a n ca b m cb] w fun e w' => e = .returned (.bool true) ∧ Below w.heap.size w w' := by
  have HA := Lib.hid (fun W (hb : Below w.heap.size w W) => And.intro (rsame_row (cap := ca) (h1.kept hb) (hS.kept hb)) (rsame_row (cap := cb) (h2.kept hb) (hR.kept hb)))
  obtain ⟨va1, vc1, rfl, _, _⟩ := h1.shape
  obtain ⟨va2, vc2, rfl, _, _⟩ := h2.shape
  generalize (pairs F T n).length = l1 at *
  generalize (pairs G U m).length = l2 at *
  have B2 : Below w.heap.size w ((w.alloc (.cells #[.int .i64 off, .slice va1 l1 vc1, .slice va2 l2 vc2] 24)).alloc (.cells #[.int .i64 off, .slice a n ca, .slice b m cb] 24)) := ((Below.refl _ _).alloc (Nat.le_refl _) _).alloc (by simp) _
  have q0 : ((w.alloc (.cells #[.int .i64 off, .slice va1 l1 vc1, .slice va2 l2 vc2] 24)).alloc (.cells #[.int .i64 off, .slice a n ca, .slice b m cb] 24)).cell? ⟨w.heap.size, 0, none⟩ = some (.int .i64 off) := by rw [World.cell?_alloc_past _ _ _ (by simp)]; simp
  have q1 : ((w.alloc (.cells #[.int .i64 off, .slice va1 l1 vc1, .slice va2 l2 vc2] 24)).alloc (.cells #[.int .i64 off, .slice a n ca, .slice b m cb] 24)).cell? ⟨w.heap.size, 1, none⟩ = some (.slice va1 l1 vc1) := by rw [World.cell?_alloc_past _ _ _ (by simp)]; simp
  have q2 : ((w.alloc (.cells #[.int .i64 off, .slice va1 l1 vc1, .slice va2 l2 vc2] 24)).alloc (.cells #[.int .i64 off, .slice a n ca, .slice b m cb] 24)).cell? ⟨w.heap.size, 2, none⟩ = some (.slice va2 l2 vc2) := by rw [World.cell?_alloc_past _ _ _ (by simp)]; simp
  have r0 : ((w.alloc (.cells #[.int .i64 off, .slice va1 l1 vc1, .slice va2 l2 vc2] 24)).alloc (.cells #[.int .i64 off, .slice a n ca, .slice b m cb] 24)).cell? ⟨w.heap.size + 1, 0, none⟩ = some (.int .i64 off) := by simp
  have r1 : ((w.alloc (.cells #[.int .i64 off, .slice va1 l1 vc1, .slice va2 l2 vc2] 24)).alloc (.cells #[.int .i64 off, .slice a n ca, .slice b m cb] 24)).cell? ⟨w.heap.size + 1, 1, none⟩ = some (.slice a n ca) := by simp
  have r2 : ((w.alloc (.cells #[.int .i64 off, .slice va1 l1 vc1, .slice va2 l2 vc2] 24)).alloc (.cells #[.int .i64 off, .slice a n ca, .slice b m cb] 24)).cell? ⟨w.heap.size + 1, 2, none⟩ = some (.slice b m cb) := by simp
  have HB := Lib.hid B2
  have hs1 := (HA.out _ B2).1
  unfold calV
  clear B2 h1 h2 hS hR
  go_enter Tryz.func12, Tryz.ntmps12
  go_wp2_with fail
  generalize ((w.alloc (.cells #[.int .i64 off, .slice va1 l1 vc1, .slice va2 l2 vc2] 24)).alloc (.cells #[.int .i64 off, .slice a n ca, .slice b m cb] 24)) = W at *
  refine hs1.mono ?_
  rintro e w3 ⟨rfl, q, rfl⟩
  have HB1 := Lib.hid (below_drewN' HB.out q)
  have q2' : (W.drewN q).cell? ⟨w.heap.size, 2, none⟩ = some (.slice va2 l2 vc2) := q2
  have r2' : (W.drewN q).cell? ⟨w.heap.size + 1, 2, none⟩ = some (.slice b m cb) := r2
  have hs2 := (HA.out _ HB1.out).2
  clear q0 q1 q2 r0 r1 r2 hs1
  generalize W.drewN q = W3 at *
  go_wp2_with fail
  refine hs2.mono ?_
  rintro e w4 ⟨rfl, q, rfl⟩
  have HB2 := Lib.hid (below_drewN' HB1.out q)
  clear hs2
  go_wp2_with fail
  go_ret
  exact ⟨rfl, HB2.out⟩
end Go.Proofs.YtibjboacjobaoaaGreat

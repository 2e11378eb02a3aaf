/- What a command's fields are; a command with just the fields of its kind. -/
import Derived.Test.YtibjboacjobaoaaMgAP
import Derived.Test.YtibjboacjobaoaaMgAS
namespace Go.Proofs.Ytibjboacjobaoaa
open Go.RowKit
def put13 (w : World) (N : Nat) (y0 y1 y2 y3 y4 y5 y6 y7 y8 y9 y10 y11 y12 : Value) : World := ((((((((((((w.setCell ⟨N, 0, none⟩ y0).setCell ⟨N, 1, none⟩ y1).setCell ⟨N, 2, none⟩ y2).setCell ⟨N, 3, none⟩ y3).setCell ⟨N, 4, none⟩ y4).setCell ⟨N, 5, none⟩ y5).setCell ⟨N, 6, none⟩ y6).setCell ⟨N, 7, none⟩ y7).setCell ⟨N, 8, none⟩ y8).setCell ⟨N, 9, none⟩ y9).setCell ⟨N, 10, none⟩ y10).setCell ⟨N, 11, none⟩ y11).setCell ⟨N, 12, none⟩ y12
theorem put13_at {w : World} {N : Nat} {x0 x1 x2 x3 x4 x5 x6 x7 x8 x9 x10 x11 x12 : Value} {t : TypeId} (h : w.heap[N]? = some (.cells #[x0, x1, x2, x3, x4, x5, x6, x7, x8, x9, x10, x11, x12] t (0, 0))) (y0 y1 y2 y3 y4 y5 y6 y7 y8 y9 y10 y11 y12 : Value) :
    (put13 w N y0 y1 y2 y3 y4 y5 y6 y7 y8 y9 y10 y11 y12).heap[N]? = some (.cells #[y0, y1, y2, y3, y4, y5, y6, y7, y8, y9, y10, y11, y12] t (0, 0)) := by
  unfold put13
  have hh := heap_set (heap_set (heap_set (heap_set (heap_set (heap_set (heap_set (heap_set (heap_set (heap_set (heap_set (heap_set (heap_set h 0 y0) 1 y1) 2 y2) 3 y3) 4 y4) 5 y5) 6 y6) 7 y7) 8 y8) 9 y9) 10 y10) 11 y11) 12 y12
  simp only [List.setIfInBounds_toArray, List.set_cons_zero, List.set_cons_succ] at hh
  exact hh
theorem put13_below {B : Nat} (w : World) {N : Nat} (hN : B ≤ N) (y0 y1 y2 y3 y4 y5 y6 y7 y8 y9 y10 y11 y12 : Value) : Below B w (put13 w N y0 y1 y2 y3 y4 y5 y6 y7 y8 y9 y10 y11 y12) :=
  ((((((((((((((Below.refl B w).setCell (p := ⟨N, 0, none⟩) hN y0).setCell (p := ⟨N, 1, none⟩) hN y1).setCell (p := ⟨N, 2, none⟩) hN y2).setCell (p := ⟨N, 3, none⟩) hN y3).setCell (p := ⟨N, 4, none⟩) hN y4).setCell (p := ⟨N, 5, none⟩) hN y5).setCell (p := ⟨N, 6, none⟩) hN y6).setCell (p := ⟨N, 7, none⟩) hN y7).setCell (p := ⟨N, 8, none⟩) hN y8).setCell (p := ⟨N, 9, none⟩) hN y9).setCell (p := ⟨N, 10, none⟩) hN y10).setCell (p := ⟨N, 11, none⟩) hN y11).setCell (p := ⟨N, 12, none⟩) hN y12)
theorem five_at {w : World} {N : Nat} {x0 x1 x2 x3 x4 : Value} {t : TypeId} (h : w.heap[N]? = some (.cells #[x0, x1, x2, x3, x4] t (0, 0))) : (w.cell? ⟨N, 0, none⟩ = some x0 ∧ w.cell? ⟨N, 1, none⟩ = some x1 ∧ w.cell? ⟨N, 2, none⟩ = some x2 ∧ w.cell? ⟨N, 3, none⟩ = some x3 ∧ w.cell? ⟨N, 4, none⟩ = some x4) ∧ ∀ o, w.frozen? ⟨N, o, none⟩ = false := by
  simp [World.cell?, World.frozen?, h]
theorem cmd_fr {w : World} {N : Nat} {x0 x1 x2 x3 x4 x5 x6 x7 x8 x9 x10 x11 x12 : Value} {t : TypeId} (h : w.heap[N]? = some (.cells #[x0, x1, x2, x3, x4, x5, x6, x7, x8, x9, x10, x11, x12] t (0, 0))) : ∀ o, w.frozen? ⟨N, o, none⟩ = false := by
  simp [World.frozen?, h]
def idB (kd : Int) : Bool := decide (2 ≤ kd ∧ kd ≤ 12 ∧ kd ≠ 9)
def ofV (i c t l s : Bool) : Value := .agg #[.bool i, .bool c, .bool t, .bool l, .bool s]
set_option maxRecDepth 100000 in
set_option maxHeartbeats 4000000 in
theorem named_any (kd : Int) (w : World) : Calls Try.prog 13 #[.int .i64 kd] w fun e w' => e = .returned (.bool (decide (1 ≤ kd) && decide (kd ≤ 12))) ∧ w' = w := by
  by_cases h1 : 1 ≤ kd
  · by_cases h2 : kd ≤ 12
    · go_enter Try.func13, Try.ntmps13
      go_wp2
      go_ret
      exact ⟨by simp [h1, h2], rfl⟩
    · go_enter Try.func13, Try.ntmps13
      go_wp2
      go_ret
      exact ⟨by simp [h2], rfl⟩
  · go_enter Try.func13, Try.ntmps13
    go_wp2
    go_ret
    exact ⟨by simp [h1]; try omega, rfl⟩
set_option maxRecDepth 100000 in
set_option maxHeartbeats 16000000 in
theorem of_any (kd : Int) (w : World) : Calls Try.prog 51 #[.int .i64 kd] w fun e w' => e = .returned (ofV (idB kd) (decide (kd = 4)) (decide (kd = 9)) (decide (kd = 2)) (decide (kd = 3))) ∧ Below w.heap.size w w' := by
  obtain ⟨B2, s0, s1, sz⟩ := box2 w #[.bool false, .bool false, .bool false, .bool false, .bool false] #[.bool false, .bool false, .bool false, .bool false, .bool false] 106 106
  obtain ⟨⟨q0, q1, q2, q3, q4⟩, qf⟩ := five_at s0
  obtain ⟨⟨r0, r1, r2, r3, r4⟩, rf⟩ := five_at s1
  have HB := Lib.hid B2
  have qf0 := qf 0
  clear B2 s0 s1 sz
  by_cases h2 : kd = 2
  · subst h2
    go_enter Try.func51, Try.ntmps51
    go_wp2_with fail
    obtain ⟨Bz, z0, z1, zz⟩ := box2 w #[.bool true, .bool false, .bool false, .bool true, .bool false] #[.bool true, .bool false, .bool false, .bool true, .bool false] 106 106
    obtain ⟨⟨p0, p1, p2, p3, p4⟩, pf⟩ := five_at z0
    refine bodyPost_ret (v := ofV true false false true false) (by simp [results, Try.results51, go_sem, p0, p1, p2, p3, p4, ofV]) rfl ⟨by simp [ofV, idB], Bz⟩
  by_cases h3 : kd = 3
  · subst h3
    go_enter Try.func51, Try.ntmps51
    go_wp2_with fail
    obtain ⟨Bz, z0, z1, zz⟩ := box2 w #[.bool true, .bool false, .bool false, .bool false, .bool true] #[.bool true, .bool false, .bool false, .bool false, .bool true] 106 106
    obtain ⟨⟨p0, p1, p2, p3, p4⟩, pf⟩ := five_at z0
    refine bodyPost_ret (v := ofV true false false false true) (by simp [results, Try.results51, go_sem, p0, p1, p2, p3, p4, ofV]) rfl ⟨by simp [ofV, idB], Bz⟩
  by_cases h4 : kd = 4
  · subst h4
    go_enter Try.func51, Try.ntmps51
    go_wp2_with fail
    obtain ⟨Bz, z0, z1, zz⟩ := box2 w #[.bool true, .bool true, .bool false, .bool false, .bool false] #[.bool true, .bool true, .bool false, .bool false, .bool false] 106 106
    obtain ⟨⟨p0, p1, p2, p3, p4⟩, pf⟩ := five_at z0
    refine bodyPost_ret (v := ofV true true false false false) (by simp [results, Try.results51, go_sem, p0, p1, p2, p3, p4, ofV]) rfl ⟨by simp [ofV, idB], Bz⟩
  by_cases h5 : kd = 5
  · subst h5
    go_enter Try.func51, Try.ntmps51
    go_wp2_with fail
    obtain ⟨Bz, z0, z1, zz⟩ := box2 w #[.bool true, .bool false, .bool false, .bool false, .bool false] #[.bool true, .bool false, .bool false, .bool false, .bool false] 106 106
    obtain ⟨⟨p0, p1, p2, p3, p4⟩, pf⟩ := five_at z0
    refine bodyPost_ret (v := ofV true false false false false) (by simp [results, Try.results51, go_sem, p0, p1, p2, p3, p4, ofV]) rfl ⟨by simp [ofV, idB], Bz⟩
  by_cases h6 : kd = 6
  · subst h6
    go_enter Try.func51, Try.ntmps51
    go_wp2_with fail
    obtain ⟨Bz, z0, z1, zz⟩ := box2 w #[.bool true, .bool false, .bool false, .bool false, .bool false] #[.bool true, .bool false, .bool false, .bool false, .bool false] 106 106
    obtain ⟨⟨p0, p1, p2, p3, p4⟩, pf⟩ := five_at z0
    refine bodyPost_ret (v := ofV true false false false false) (by simp [results, Try.results51, go_sem, p0, p1, p2, p3, p4, ofV]) rfl ⟨by simp [ofV, idB], Bz⟩
  by_cases h7 : kd = 7
  · subst h7
    go_enter Try.func51, Try.ntmps51
    go_wp2_with fail
    obtain ⟨Bz, z0, z1, zz⟩ := box2 w #[.bool true, .bool false, .bool false, .bool false, .bool false] #[.bool true, .bool false, .bool false, .bool false, .bool false] 106 106
    obtain ⟨⟨p0, p1, p2, p3, p4⟩, pf⟩ := five_at z0
    refine bodyPost_ret (v := ofV true false false false false) (by simp [results, Try.results51, go_sem, p0, p1, p2, p3, p4, ofV]) rfl ⟨by simp [ofV, idB], Bz⟩
  by_cases h8 : kd = 8
  · subst h8
    go_enter Try.func51, Try.ntmps51
    go_wp2_with fail
    obtain ⟨Bz, z0, z1, zz⟩ := box2 w #[.bool true, .bool false, .bool false, .bool false, .bool false] #[.bool true, .bool false, .bool false, .bool false, .bool false] 106 106
    obtain ⟨⟨p0, p1, p2, p3, p4⟩, pf⟩ := five_at z0
    refine bodyPost_ret (v := ofV true false false false false) (by simp [results, Try.results51, go_sem, p0, p1, p2, p3, p4, ofV]) rfl ⟨by simp [ofV, idB], Bz⟩
  by_cases h9 : kd = 9
  · subst h9
    go_enter Try.func51, Try.ntmps51
    go_wp2_with fail
    obtain ⟨Bz, z0, z1, zz⟩ := box2 w #[.bool false, .bool false, .bool true, .bool false, .bool false] #[.bool false, .bool false, .bool true, .bool false, .bool false] 106 106
    obtain ⟨⟨p0, p1, p2, p3, p4⟩, pf⟩ := five_at z0
    refine bodyPost_ret (v := ofV false false true false false) (by simp [results, Try.results51, go_sem, p0, p1, p2, p3, p4, ofV]) rfl ⟨by simp [ofV, idB], Bz⟩
  by_cases h10 : kd = 10
  · subst h10
    go_enter Try.func51, Try.ntmps51
    go_wp2_with fail
    obtain ⟨Bz, z0, z1, zz⟩ := box2 w #[.bool true, .bool false, .bool false, .bool false, .bool false] #[.bool true, .bool false, .bool false, .bool false, .bool false] 106 106
    obtain ⟨⟨p0, p1, p2, p3, p4⟩, pf⟩ := five_at z0
    refine bodyPost_ret (v := ofV true false false false false) (by simp [results, Try.results51, go_sem, p0, p1, p2, p3, p4, ofV]) rfl ⟨by simp [ofV, idB], Bz⟩
  by_cases h11 : kd = 11
  · subst h11
    go_enter Try.func51, Try.ntmps51
    go_wp2_with fail
    obtain ⟨Bz, z0, z1, zz⟩ := box2 w #[.bool true, .bool false, .bool false, .bool false, .bool false] #[.bool true, .bool false, .bool false, .bool false, .bool false] 106 106
    obtain ⟨⟨p0, p1, p2, p3, p4⟩, pf⟩ := five_at z0
    refine bodyPost_ret (v := ofV true false false false false) (by simp [results, Try.results51, go_sem, p0, p1, p2, p3, p4, ofV]) rfl ⟨by simp [ofV, idB], Bz⟩
  by_cases h12 : kd = 12
  · subst h12
    go_enter Try.func51, Try.ntmps51
    go_wp2_with fail
    obtain ⟨Bz, z0, z1, zz⟩ := box2 w #[.bool true, .bool false, .bool false, .bool false, .bool false] #[.bool true, .bool false, .bool false, .bool false, .bool false] 106 106
    obtain ⟨⟨p0, p1, p2, p3, p4⟩, pf⟩ := five_at z0
    refine bodyPost_ret (v := ofV true false false false false) (by simp [results, Try.results51, go_sem, p0, p1, p2, p3, p4, ofV]) rfl ⟨by simp [ofV, idB], Bz⟩
  have e2 : decide (kd = 2) = false := decide_eq_false h2
  have f2 : (kd == 2) = false := by simp [h2]
  have e3 : decide (kd = 3) = false := decide_eq_false h3
  have f3 : (kd == 3) = false := by simp [h3]
  have e4 : decide (kd = 4) = false := decide_eq_false h4
  have f4 : (kd == 4) = false := by simp [h4]
  have e5 : decide (kd = 5) = false := decide_eq_false h5
  have f5 : (kd == 5) = false := by simp [h5]
  have e6 : decide (kd = 6) = false := decide_eq_false h6
  have f6 : (kd == 6) = false := by simp [h6]
  have e7 : decide (kd = 7) = false := decide_eq_false h7
  have f7 : (kd == 7) = false := by simp [h7]
  have e8 : decide (kd = 8) = false := decide_eq_false h8
  have f8 : (kd == 8) = false := by simp [h8]
  have e9 : decide (kd = 9) = false := decide_eq_false h9
  have f9 : (kd == 9) = false := by simp [h9]
  have e10 : decide (kd = 10) = false := decide_eq_false h10
  have f10 : (kd == 10) = false := by simp [h10]
  have e11 : decide (kd = 11) = false := decide_eq_false h11
  have f11 : (kd == 11) = false := by simp [h11]
  have e12 : decide (kd = 12) = false := decide_eq_false h12
  have f12 : (kd == 12) = false := by simp [h12]
  have hi : idB kd = false := by unfold idB; exact decide_eq_false (by omega)
  rw [hi, e4, e9, e2, e3]
  go_enter Try.func51, Try.ntmps51
  go_wp2_with fail
  obtain ⟨Bz, z0, z1, zz⟩ := box2 w #[.bool false, .bool false, .bool false, .bool false, .bool false] #[.bool false, .bool false, .bool false, .bool false, .bool false] 106 106
  obtain ⟨⟨p0, p1, p2, p3, p4⟩, pf⟩ := five_at z0
  refine bodyPost_ret (v := ofV false false false false false) (by simp [results, Try.results51, go_sem, p0, p1, p2, p3, p4, ofV]) rfl ⟨rfl, Bz⟩
end Go.Proofs.Ytibjboacjobaoaa

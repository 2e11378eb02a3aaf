/- Which of two things stands first, both ways; rows of the reference's things. -/
import Derived.Test.YtfclmbneimbmnaaDoorStQ
namespace Go.Proofs.YtfclmbneimbmnaaDoor
open Go.RowKit Go.Sort

/-- A thing of the reference's: and its slot. -/
abbrev Rt := Th × Int
def enR (x : Rt) : List Value := [.int .u64 x.1.1, .int .u64 x.1.2.1, .int .i64 x.1.2.2, .int .i64 x.2]
def ltR (x y : Rt) : Bool := ltT x.1 y.1

theorem grown_below {w w' : World} {q : Nat} {os : Array Obj} (h : w' = grow (w.drewN q) os) : Below w.heap.size w w' := by
  subst h
  refine ⟨rfl, rfl, rfl, by rw [size_grow]; exact Nat.le_add_right _ _, fun k hk => ?_⟩
  rw [heap_grow_old (w.drewN q) os hk]
  rfl

set_option maxRecDepth 100000 in
theorem before_any (x1 x2 x3 y1 y2 y3 : Int) (w : World) : Calls Tryd.prog 17 #[.agg #[.int .u64 x1, .int .u64 x2, .int .i64 x3], .agg #[.int .u64 y1, .int .u64 y2, .int .i64 y3]] w fun e w' => e = .returned (.bool (ltT (x1, x2, x3) (y1, y2, y3))) ∧ Below w.heap.size w w' := by
  obtain ⟨b, hb⟩ : ∃ b, ltT (x1, x2, x3) (y1, y2, y3) = b := ⟨_, rfl⟩
  have hlt := cmpT_neg (x1, x2, x3) (y1, y2, y3)
  have hc := fun w => compare_any (x1, x2, x3) (y1, y2, y3) w
  rw [hb] at hlt ⊢
  unfold enT at hc
  generalize cmpT (x1, x2, x3) (y1, y2, y3) = cv at hlt hc
  have hB : Below w.heap.size w ((w.alloc (.cells #[.int .u64 x1, .int .u64 x2, .int .i64 x3] 27)).alloc (.cells #[.int .u64 y1, .int .u64 y2, .int .i64 y3] 27)) := ((Below.refl _ _).alloc (Nat.le_refl _) _).alloc (by simp) _
  go_enter Tryd.func17, Tryd.ntmps17
  go_wp2_with (go_at_call 68; with_reducible refine (hc _).mono ?_; rintro e w1 ⟨rfl, q, os, hw⟩)
  go_ret
  refine ⟨by first | (rw [← hlt]; rfl) | simp [hlt], ?_⟩
  first
    | exact hB.trans ((grown_below hw).mono hB.size)
    | exact hB.trans ((grown_below rfl).mono hB.size)

set_option maxRecDepth 100000 in
theorem rbefore_any (x1 x2 x3 x4 y1 y2 y3 y4 : Int) (w : World) : Calls Tryd.prog 18 #[.agg #[.int .u64 x1, .int .u64 x2, .int .i64 x3, .int .i64 x4], .agg #[.int .u64 y1, .int .u64 y2, .int .i64 y3, .int .i64 y4]] w fun e w' => e = .returned (.bool (ltT (x1, x2, x3) (y1, y2, y3))) ∧ Below w.heap.size w w' := by
  have hB : Below w.heap.size w ((w.alloc (.cells #[.int .u64 x1, .int .u64 x2, .int .i64 x3, .int .i64 x4] 29)).alloc (.cells #[.int .u64 y1, .int .u64 y2, .int .i64 y3, .int .i64 y4] 29)) := ((Below.refl _ _).alloc (Nat.le_refl _) _).alloc (by simp) _
  have HB := Lib.hid hB
  clear hB
  by_cases h1 : x3 < y3
  · have e : ltT (x1, x2, x3) (y1, y2, y3) = true := by simp [ltT, h1]
    rw [e]
    go_enter Tryd.func18, Tryd.ntmps18
    go_wp2
    go_ret
    exact ⟨rfl, HB.out⟩
  · by_cases h2 : x3 = y3
    · subst h2
      by_cases h3 : x1 < y1
      · have e : ltT (x1, x2, x3) (y1, y2, x3) = true := by simp [ltT, h3]
        rw [e]
        go_enter Tryd.func18, Tryd.ntmps18
        go_wp2
        go_ret
        exact ⟨rfl, HB.out⟩
      · have e : ltT (x1, x2, x3) (y1, y2, x3) = false := by simp [ltT]; omega
        rw [e]
        go_enter Tryd.func18, Tryd.ntmps18
        go_wp2
        go_ret
        exact ⟨rfl, HB.out⟩
    · have e : ltT (x1, x2, x3) (y1, y2, y3) = false := by simp [ltT]; omega
      rw [e]
      have h2b : (x3 == y3) = false := by simp [h2]
      go_enter Tryd.func18, Tryd.ntmps18
      go_wp2
      go_ret
      exact ⟨rfl, HB.out⟩

set_option maxRecDepth 100000 in
theorem plain_any (x y z : Int) (w : World) : Calls Tryd.prog 16 #[.agg #[.int .u64 x, .int .u64 y, .int .i64 z]] w fun e w' => e = .returned (.agg #[.int .u64 x, .int .u64 y, .int .i64 z, .int .i64 0]) ∧ Below w.heap.size w w' := by
  go_enter Tryd.func16, Tryd.ntmps16
  go_wp2
  refine bodyPost_ret (v := .agg #[.int .u64 x, .int .u64 y, .int .i64 z, .int .i64 0]) (by simp [results, Tryd.results16, go_sem]) rfl ⟨rfl, ?_⟩
  exact ((Below.refl _ _).alloc (Nat.le_refl _) _).alloc (by simp) _
end Go.Proofs.YtfclmbneimbmnaaDoor

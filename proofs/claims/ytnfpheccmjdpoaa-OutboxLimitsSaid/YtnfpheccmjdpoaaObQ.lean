/- The outbox: states compared; a clone. -/
import Derived.Test.YtnfpheccmjdpoaaObO
import Derived.Test.YtnfpheccmjdpoaaObP
namespace Go.Proofs.Ytnfpheccmjdpoaa
open Go.RowKit
set_option maxRecDepth 100000 in
set_option maxHeartbeats 8000000 in
theorem same_any (la lb : Int) (a a' : Option Addr) (ca ca' : Nat) (xs ys : List Nt) (w : World) (h : NR w a xs) (h' : NR w a' ys) (hm : xs.length ≤ 100000) (hm' : ys.length ≤ 100000) : Calls Try.prog 21 #[.agg #[.int .u64 la, .slice a xs.length ca], .agg #[.int .u64 lb, .slice a' ys.length ca']] w fun e w' => e = .returned (.bool ((la == lb) && decide (xs = ys))) ∧ Below w.heap.size w w' := by
  obtain ⟨B1, s0, s1, -⟩ := box2 w #[.int .u64 la, .slice a xs.length ca] #[.int .u64 lb, .slice a' ys.length ca'] 25 25
  have H1 := Lib.hid (h.below B1)
  have H2 := Lib.hid (h'.below B1)
  have HB := Lib.hid B1
  have HM := Lib.hid (And.intro hm hm')
  have c0 : ((w.alloc (.cells #[.int .u64 la, .slice a xs.length ca] 25)).alloc (.cells #[.int .u64 lb, .slice a' ys.length ca'] 25)).cell? ⟨w.heap.size, 0, none⟩ = some (.int .u64 la) := by simp only [World.cell?, s0]; rfl
  have c1 : ((w.alloc (.cells #[.int .u64 la, .slice a xs.length ca] 25)).alloc (.cells #[.int .u64 lb, .slice a' ys.length ca'] 25)).cell? ⟨w.heap.size, 1, none⟩ = some (.slice a xs.length ca) := by simp only [World.cell?, s0]; rfl
  have c2 : ((w.alloc (.cells #[.int .u64 la, .slice a xs.length ca] 25)).alloc (.cells #[.int .u64 lb, .slice a' ys.length ca'] 25)).cell? ⟨w.heap.size + 1, 0, none⟩ = some (.int .u64 lb) := by simp only [World.cell?, s1]; rfl
  have c3 : ((w.alloc (.cells #[.int .u64 la, .slice a xs.length ca] 25)).alloc (.cells #[.int .u64 lb, .slice a' ys.length ca'] 25)).cell? ⟨w.heap.size + 1, 1, none⟩ = some (.slice a' ys.length ca') := by simp only [World.cell?, s1]; rfl
  clear B1 s0 s1 h h' hm hm'
  go_enter Try.func21, Try.ntmps21
  by_cases hl : la = lb
  · have d1 : decide (la = lb) = true := decide_eq_true hl
    have HL := Lib.hid hl
    have d2 : (la == lb) = true := by simp [hl]
    clear hl
    go_wp2_with fail
    clear c0 c1 c2 c3
    refine (equal_nts a a' ca ca' xs ys _ H1.out H2.out HM.out.1 HM.out.2).mono ?_
    rintro e w2 ⟨rfl, q, rfl⟩
    go_wp2_with fail
    go_ret
    exact ⟨by rw [HL.out]; simp, ⟨HB.out.os, HB.out.tape, HB.out.output, HB.out.size, HB.out.block⟩⟩
  · have d1 : decide (la = lb) = false := decide_eq_false hl
    have HL := Lib.hid hl
    have d2 : (la == lb) = false := by simp [hl]
    clear hl
    go_wp2_with fail
    go_ret
    exact ⟨by rw [d2]; rfl, HB.out⟩
end Go.Proofs.Ytnfpheccmjdpoaa

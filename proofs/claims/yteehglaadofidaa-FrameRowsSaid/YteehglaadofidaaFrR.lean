/- Walks of FrameRows: Each, and where nothing is looked at. -/
import Derived.Test.YteehglaadofidaaFrN
import Derived.Test.YteehglaadofidaaFrP
namespace Go.Proofs.Yteehglaadofidaa
open Go.RowKit Go.Shelf

/-- What Each hands back. -/
def Eached (w : World) (bs : List Nat) (e : Ending) (w' : World) : Prop :=
  ∃ c v', e = .returned (.func (.func 53) #[] #[.pointer (some ⟨c, 0, none⟩)]) ∧ w'.cell? ⟨c, 0, none⟩ = some v' ∧ RB w' v' bs ∧
    (∀ b, v'.ownBlock = some b → w.heap.size ≤ b ∧ b < w'.heap.size) ∧ Below w.heap.size w w'
theorem each_any (v : Value) (bs : List Nat) (w : World) (hb : RB w v bs) : Calls Try.prog 19 #[v] w (Eached w bs) := by
  have HC := Lib.hid (clone_any v bs w hb)
  have HLT := Lib.hid hb.1
  have HL := Lib.hid hb.2.1
  obtain ⟨a, cap, rfl, _, _⟩ := hb.shape
  obtain ⟨n, hn⟩ : ∃ n, bs.length = n := ⟨_, rfl⟩
  rw [hn] at HC HL ⊢
  have HN := Lib.hid hn
  clear hb hn
  go_enter Try.func19, Try.ntmps19
  go_wp2_with (first
    | (go_at_call 40; refine HC.out.mono ?_; rintro e w1 ⟨u, rfl, ho, hb1⟩; have hr := ho.rb HLT.out (by have := HN.out; have := HL.out; omega); obtain ⟨ua, uc, hus, _, _⟩ := hr.shape; subst hus; have HO := Lib.hid ho; have HB1 := Lib.hid hb1; have HR := Lib.hid hr; clear hr ho hb1)
    | (go_at_call 39; refine (frames_any _ bs _ HR.out).mono ?_; rintro e w2 ⟨rfl, rfl⟩))
  go_ret
  refine ⟨_, _, rfl, ?_, HR.out.kept ((Below.refl _ _).alloc (Nat.le_refl _) _), fun b hb => ?_, HB1.out.alloc HB1.out.size _⟩
  · simp
  · have := World.ownsRow.lt HO.out b hb
    exact ⟨this.1, by rw [World.size_alloc]; omega⟩

set_option maxHeartbeats 1000000 in
theorem frows_big (a0 : Option Addr) (n c : Nat) (w : World) (h1 : n ≤ 9223372036854775807) (h : 3000 < n) :
    Calls Try.prog 5 #[.slice a0 n c] w fun e w' => e = .returned (.bool true) ∧ Below w.heap.size w w' := by
  have hd : decide (3000 < (n : Int)) = true := by simp; omega
  have hB : Below w.heap.size w (w.alloc (.cells #[.bool false] 4)) := (Below.refl _ _).alloc (Nat.le_refl _) _
  have hc : (w.alloc (.cells #[.bool false] 4)).cell? ⟨w.heap.size, 0, none⟩ = some (.bool false) := by simp
  have hf : (w.alloc (.cells #[.bool false] 4)).frozen? ⟨w.heap.size, 0, none⟩ = false := by simp
  have hs : w.heap.size < (w.alloc (.cells #[.bool false] 4)).heap.size := by simp
  refine (callsIn_wide (n := 3)).1 ?_
  refine callsIn_of_wp_marks Try.func5 rfl trivial ?_
  simp only [Try.ntmps5, List.size_toArray, List.length_cons, List.length_nil, Nat.reduceAdd, Nat.reduceSub, Array.replicate_succ, Array.replicate_zero, List.push_toArray, List.append_toArray, List.nil_append, List.cons_append]
  gi_wp2_with fail
  refine ⟨trivial, ?_⟩
  gi_wp2_with (refine ⟨trivial, ?_⟩; gi_at_call 12; refine (callsIn_wide.2 (lives3 _)).mono ?_; rintro e w' ⟨rfl, hl⟩; have hc2 := (hl.cell (p := ⟨w.heap.size, 0, none⟩) hs).trans hc; have hf2 := (hl.frozen (p := ⟨w.heap.size, 0, none⟩) hs).trans hf; have HB2 := Lib.hid (hB.trans (hl.mono hB.size)); clear hl)
  have hcs : (w'.setCell ⟨w.heap.size, 0, none⟩ (.bool true)).cell? ⟨w.heap.size, 0, none⟩ = some (.bool true) := World.cell?_setCell_same' _ _ _ (by rw [hc2]; rfl)
  refine ⟨.bool true, ?_, rfl, HB2.out.setCell (p := ⟨w.heap.size, 0, none⟩) (Nat.le_refl _) _⟩
  simp [results, Try.results5, go_sem, hcs]
end Go.Proofs.Yteehglaadofidaa

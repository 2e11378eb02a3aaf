/- The program's Sort over a row of one's own. -/
import Derived.Test.YtfclmbneimbmnaaDoorStL
import Derived.Test.YtfclmbneimbmnaaDoorStO
import Derived.Test.YtfclmbneimbmnaaDoorRgD
namespace Go.Proofs.YtfclmbneimbmnaaDoor
open Go.RowKit Go.Shelf Go.Sort

theorem insertion_none (fv : Value) (w : World) : Calls Tryd.prog 128 #[.slice none 0 0, .int .i64 0, .int .i64 0, fv] w fun e w' => e = .returned (.tuple #[]) ∧ w' = w := by
  go_enter Tryd.func128, Tryd.ntmps128
  go_wp2
  refine wp_loop_rounds 1 ?_
  rw [rounds_succ]
  go_wp2
  go_end0
  exact ⟨rfl, rfl⟩
theorem stable_none (fv : Value) (w : World) : Calls Tryd.prog 115 #[.slice none 0 0, .int .i64 0, fv] w fun e w' => e = .returned (.tuple #[]) ∧ w' = w := by
  have hi := insertion_none fv w
  go_enter Tryd.func115, Tryd.ntmps115
  go_wp2
  refine wp_loop_rounds 1 ?_
  rw [rounds_succ]
  go_wp2_with (go_at_call 128; with_reducible refine hi.mono ?_; rintro e w1 ⟨rfl, rfl⟩)
  refine wp_loop_rounds 1 ?_
  rw [rounds_succ]
  go_wp2
  go_end0
  exact ⟨rfl, rfl⟩

theorem thc_at : ∀ (l : List Th) (k : Nat) (hk : k < l.length), (thc l)[k * 3]? = some (.int .u64 (l[k]).1) ∧ (thc l)[k * 3 + 1]? = some (.int .u64 (l[k]).2.1) ∧ (thc l)[k * 3 + 2]? = some (.int .i64 (l[k]).2.2)
  | [], k, h => by simp at h
  | x :: l, 0, _ => by simp [thc, enT]
  | x :: l, k + 1, h => by
    have ih := thc_at l k (by simpa using h)
    have e : thc (x :: l) = enT x ++ thc l := by simp [thc]
    rw [e]
    have e1 : ∀ j, (enT x ++ thc l)[(k + 1) * 3 + j]? = (thc l)[k * 3 + j]? := fun j => by
      rw [List.getElem?_append_right (by simp [enT]; omega)]
      congr 1
      simp [enT]; omega
    exact ⟨(e1 0).trans ih.1, (e1 1).trans ih.2.1, (e1 2).trans ih.2.2⟩

theorem flat_at (d : Array (Th × Nat)) (l : List Th) (hd : d.toList.map (·.1) = l) (j : Nat) (hj : j < l.length * 3) : some ((flatK enG 3 d)[j]!) = (thc l)[j]? := by
  have hs : d.size = l.length := by rw [← hd]; simp
  rw [get_flatK enG 3 d j (by rw [hs]; exact hj)]
  have hk : j / 3 < l.length := by omega
  have hkd : j / 3 < d.size := by omega
  have e : (d[j / 3]!).1 = l[j / 3] := by
    subst hd
    rw [getElem!_pos d _ hkd]
    simp
  have h := thc_at l (j / 3) hk
  rw [← e] at h
  have hm : j % 3 = 0 ∨ j % 3 = 1 ∨ j % 3 = 2 := by omega
  unfold enG enT
  rcases hm with hm | hm | hm
  · rw [hm, show j = j / 3 * 3 by omega, show j / 3 * 3 / 3 = j / 3 by omega]; exact h.1.symm
  · rw [hm, show j = j / 3 * 3 + 1 by omega, show (j / 3 * 3 + 1) / 3 = j / 3 by omega]; exact h.2.1.symm
  · rw [hm, show j = j / 3 * 3 + 2 by omega, show (j / 3 * 3 + 2) / 3 = j / 3 by omega]; exact h.2.2.symm

theorem holds_of_OT {w : World} {base g cap : Nat} {l : List Th} (h : OT w base (.slice (some ⟨g, 0, none⟩) l.length cap) l) (d : Array (Th × Nat)) (hd : d.toList.map (·.1) = l) : HoldsK enG 3 w g 0 d := by
  have hs : d.size = l.length := by rw [← hd]; simp
  intro j hj
  have hj' : j < l.length * 3 := by rw [← hs]; simpa using hj
  rw [Nat.zero_add]
  exact ⟨(World.ownsRow.cellAt h j hj').trans (flat_at d l hd j hj').symm, World.ownsRow.frozenAt h j⟩

theorem sortWorld_only (w : World) (blk off n : Nat) (d : Array (Th × Nat)) (os : Array Obj) : Only (· = blk) w (sortWorldK enG 3 w blk off n d os) := by
  refine ⟨rfl, rfl, rfl, size_sortWorldK_c enG 3 w blk off n d os, fun i hi hne => ?_⟩
  unfold sortWorldK
  rw [heap_grow_old _ _ (by simpa [putRowK, putRow, mapBlock, ahead] using hi)]
  simp only [putRowK, putRow, mapBlock, ahead]
  rw [Array.getElem?_modify, if_neg (fun e => hne e.symm)]
  rfl

theorem OT_of_sort {w : World} {base g cap m : Nat} {l : List Th} {os : Array Obj} (h : OT w base (.slice (some ⟨g, 0, none⟩) l.length cap) l) (d : Array (Th × Nat)) (X : Array (Th × Nat)) (hd : d.toList.map (·.1) = l) (hX : X.size = l.length) :
    OT (sortWorldK enG 3 w g 0 m X os) base (.slice (some ⟨g, 0, none⟩) l.length cap) (X.toList.map (·.1)) := by
  have hl : (X.toList.map (·.1)).length = l.length := by simp [hX]
  have hH := holds_of_OT h d hd
  have h2 := h
  rcases h2.2 with ⟨hv, _⟩ | ⟨g', cap', cur, hv, hg, hh, hc, hm, hcs, _⟩
  · cases hv
  · injection hv with hv1 _ hv3
    injection hv1 with hv1
    injection hv1 with hv1
    subst hv1 hv3
    have hlt := (Array.getElem?_eq_some_iff.mp hh).1
    have hHX : HoldsK enG 3 (sortWorldK enG 3 w g 0 m X os) g 0 X := holdsK_sortWorldK_c enG 3 w g 0 d X m os hH hlt (by rw [hX, ← hd]; simp)
    obtain ⟨cur', hcur, hsz⟩ : ∃ cur', (sortWorldK enG 3 w g 0 m X os).heap[g]? = some (.cells cur' 27 (0, 0)) ∧ cur'.size = cur.size := by
      unfold sortWorldK
      rw [heap_grow_old _ _ (by simpa [putRowK, putRow, mapBlock, ahead] using hlt)]
      simp only [putRowK, putRow, mapBlock, ahead]
      rw [Array.getElem?_modify, if_pos rfl]
      show ∃ cur', Option.map (onCells (putCells id 0 (flatK enG 3 X))) (w.heap[g]?) = _ ∧ _
      rw [hh]
      exact ⟨_, rfl, by simp [putCells]⟩
    unfold OT
    rw [hl]
    refine ⟨by rw [thc_len, hl], .inr ⟨g, cap, cur', rfl, hg, hcur, hc, hm, by rw [hsz, hcs], ?_⟩⟩
    refine List.ext_getElem? fun j => ?_
    by_cases hj : j < l.length * 3
    · have hx := hHX j (by simpa [hX] using hj)
      rw [Nat.zero_add] at hx
      have hc2 := hx.1
      simp only [World.cell?, hcur] at hc2
      rw [List.getElem?_take, if_pos hj, ← flat_at X _ rfl j (by rw [hl]; exact hj)]
      simpa using hc2
    · rw [List.getElem?_eq_none (by simp; omega), List.getElem?_eq_none (by rw [thc_len, hl]; omega)]
end Go.Proofs.YtfclmbneimbmnaaDoor

/- The program's Sort over a row of one's own: it bears what insertion from the left gives. -/
import Derived.Test.YtfclmbneimbmnaaDoorStP
namespace Go.Proofs.YtfclmbneimbmnaaDoor
open Go.RowKit Go.Shelf Go.Sort

abbrev zT : Th := (0, 0, 0)

theorem zip_own (l : List Th) (p : Nat) (hp : p < l.length) : ((l.zipIdx.toArray)[p]!).2 = p := by
  rw [getElem!_pos _ p (by simpa using hp)]
  simp

theorem zip_fst (l : List Th) : l.zipIdx.toArray.toList.map (·.1) = l := by simp

theorem stable_own (w : World) {base g cap : Nat} {l : List Th} (h : OT w base (.slice (some ⟨g, 0, none⟩) l.length cap) l) (hlt : g < w.heap.size) (hl : l.length < 1152921504606846976) :
    Calls Tryd.prog 115 #[.slice (some ⟨g, 0, none⟩) l.length cap, .int .i64 l.length, .func (.func 68) #[] #[]] w fun e w' =>
      e = .returned (.tuple #[]) ∧ OT w' base (.slice (some ⟨g, 0, none⟩) l.length cap) (srt ltT zT l) ∧ Only (fun k => g = k) w w' := by
  have hH := holds_of_OT h l.zipIdx.toArray (zip_fst l)
  have R : RKk 3 w g 0 l.zipIdx.toArray := ⟨enG_len, enG_one, hH, hlt⟩
  refine (stableP hat rfl rfl g 0 cap l.length l.zipIdx.toArray w w R (by simp) (SWK.start hH) hl (zip_own l)).mono ?_
  rintro e w' ⟨he, X, ⟨m, os, hw⟩, hP, hU⟩
  have hX : X.size = l.length := by rw [hP.1]; simp
  have hp : X.toList.Perm l.zipIdx := by
    have h2 := hP.2.2
    have e1 : X.extract 0 l.length = X := by rw [← hX]; simp
    have e2 : (l.zipIdx.toArray).extract 0 l.length = l.zipIdx.toArray := by
      have : l.length = (l.zipIdx.toArray).size := by simp
      rw [this, Array.extract_size]
    rw [e1, e2] at h2
    simpa using h2
  have hu : Up (lexB ltT) X.toList := by
    unfold Up
    rw [List.pairwise_iff_getElem]
    intro i j hi hj hij
    have := hU i j (Nat.zero_le _) hij (by simpa [hX] using hj)
    rw [getElem!_pos X j (by simpa using hj), getElem!_pos X i (by simpa using hi)] at this
    simpa using this
  have hs := stable_srt ltT_swo zT l X.toList hp hu
  refine ⟨he, ?_, ?_⟩
  · rw [← hs, hw]; exact OT_of_sort h _ X (zip_fst l) hX
  · rw [hw]; exact (sortWorld_only w g 0 m X os).more (fun k hk => hk.symm)

theorem sort_any (w : World) {base : Nat} {v : Value} {l : List Th} (h : OT w base v l) (hl : l.length < 1152921504606846976) :
    Calls Tryd.prog 19 #[v] w fun e w' => e = .returned (.tuple #[]) ∧ OT w' base v (srt ltT zT l) ∧ Only (fun k => v.ownBlock = some k) w w' := by
  have hs := h
  rcases hs.2 with ⟨hv, h0⟩ | ⟨g, cap, cur, hv, hg, hh, _⟩
  · obtain rfl : l = [] := List.length_eq_zero_iff.1 h0
    subst hv
    have hst := stable_none (.func (.func 68) #[] #[]) w
    have h44 : Calls Tryd.prog 69 #[.slice none 0 0, .func (.func 68) #[] #[]] w fun e w' => e = .returned (.tuple #[]) ∧ w' = w := by
      go_enter Tryd.func69, Tryd.ntmps69
      go_wp2_with (go_at_call 115; with_reducible refine hst.mono ?_; rintro e w1 ⟨rfl, rfl⟩)
      go_end0
      exact ⟨rfl, rfl⟩
    have hO := OT.nil w base
    clear hst h hs h0
    go_enter Tryd.func19, Tryd.ntmps19
    go_wp2_with (go_at_call 69; with_reducible refine h44.mono ?_; rintro e w1 ⟨rfl, rfl⟩)
    go_end0
    exact ⟨rfl, hO, Only.refl _ _⟩
  · subst hv
    have hlt := (Array.getElem?_eq_some_iff.mp hh).1
    have hst := stable_own w h hlt hl
    clear h hs hh hg
    have h44 : Calls Tryd.prog 69 #[.slice (some ⟨g, 0, none⟩) l.length cap, .func (.func 68) #[] #[]] w fun e w' => e = .returned (.tuple #[]) ∧ OT w' base (.slice (some ⟨g, 0, none⟩) l.length cap) (srt ltT zT l) ∧ Only (fun k => g = k) w w' := by
      go_enter Tryd.func69, Tryd.ntmps69
      go_wp2_with (go_at_call 115; with_reducible refine hst.mono ?_; rintro e w1 ⟨rfl, hO, hB⟩)
      go_end0
      exact ⟨rfl, hO, hB⟩
    clear hst
    go_enter Tryd.func19, Tryd.ntmps19
    go_wp2_with (go_at_call 69; with_reducible refine h44.mono ?_; rintro e w1 ⟨rfl, hO, hB⟩)
    go_end0
    exact ⟨rfl, hO, hB.more (fun k hk => by subst hk; rfl)⟩
end Go.Proofs.YtfclmbneimbmnaaDoor

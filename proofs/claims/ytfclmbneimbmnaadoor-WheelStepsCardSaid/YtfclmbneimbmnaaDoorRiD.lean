/- A ring's Drop of what does not wait; copy of things; Look. -/
import Derived.Test.YtfclmbneimbmnaaDoorRiC
import Derived.Laws.CopyOwn
import Derived.Laws.OwnMore
namespace Go.Proofs.YtfclmbneimbmnaaDoor
open Go.RowKit

set_option maxRecDepth 100000 in
theorem drop_none {r b : Nat} {V : Nat → Value} {S : Nat → List Th} {M : Int → Option (Nat × Nat)} (x : Int) (w : World) (h : Rn w r b V S M) (hx : IdOk x) (hM : M x = none) :
    Calls Tryd.prog 71 #[.pointer (some ⟨r, 0, none⟩), .int .u64 x] w fun e w' => e = .returned (.tuple #[.agg #[.int .u64 0, .int .u64 0, .int .i64 0], .bool false]) ∧ Below w.heap.size w w' := by
  have hc := get_none x (w.alloc (.cells #[.int .u64 0, .int .u64 0, .int .i64 0] 27)) (h.below ((Below.refl _ _).alloc (Nat.le_refl _) _)) hx hM
  clear h
  have hB0 : Below w.heap.size w (w.alloc (.cells #[.int .u64 0, .int .u64 0, .int .i64 0] 27)) := (Below.refl _ _).alloc (Nat.le_refl _) _
  have hs0 : w.heap.size < (w.alloc (.cells #[.int .u64 0, .int .u64 0, .int .i64 0] 27)).heap.size := by simp
  have hz0 : ∀ o, (w.alloc (.cells #[.int .u64 0, .int .u64 0, .int .i64 0] 27)).frozen? ⟨w.heap.size, o, none⟩ = false := fun o => by simp
  have hq0 := zero_three w
  have HP : Hid (Below w.heap.size w (w.alloc (.cells #[.int .u64 0, .int .u64 0, .int .i64 0] 27))) := Lib.hid hB0
  clear hB0
  go_enter Tryd.func71, Tryd.ntmps71
  go_wp2_with fail
  generalize w.alloc (.cells #[.int .u64 0, .int .u64 0, .int .i64 0] 27) = w0 at hc HP hs0 hz0 hq0 ⊢
  obtain ⟨q0, q1, q2⟩ := hq0
  have z0 := hz0 0
  have z1 := hz0 1
  have z2 := hz0 2
  clear hz0
  go_wp2_with (go_at_call 75; with_reducible refine hc.mono ?_; rintro e w1 ⟨rfl, hB1⟩; have q0' := (hB1.cell (p := ⟨w.heap.size, 0, none⟩) hs0).trans q0; have q1' := (hB1.cell (p := ⟨w.heap.size, 1, none⟩) hs0).trans q1; have q2' := (hB1.cell (p := ⟨w.heap.size, 2, none⟩) hs0).trans q2; have z0' := (hB1.frozen (p := ⟨w.heap.size, 0, none⟩) hs0).trans z0; have z1' := (hB1.frozen (p := ⟨w.heap.size, 1, none⟩) hs0).trans z1; have z2' := (hB1.frozen (p := ⟨w.heap.size, 2, none⟩) hs0).trans z2; have hs1 := Nat.lt_of_lt_of_le hs0 hB1.size; have HB1 := Lib.hid hB1; clear hB1 q0 q1 q2 z0 z1 z2)
  have hr3 := three_read (u := .int .u64 0) (v := .int .u64 0) (z := .int .i64 0) q0' q1' q2'
  obtain ⟨r0, r1, r2⟩ := hr3
  have h3 := fun h => below_three (B := w.heap.size) (x := w.heap.size) (a := w) (w := w1) h (Nat.le_refl _) (.int .u64 0) (.int .u64 0) (.int .i64 0)
  generalize ((w1.setCell ⟨w.heap.size, 0, none⟩ (.int .u64 0)).setCell ⟨w.heap.size, 1, none⟩ (.int .u64 0)).setCell ⟨w.heap.size, 2, none⟩ (.int .i64 0) = w3 at r0 r1 r2 h3 ⊢
  have s0 := cell_keep (.cells #[.int .u64 0, .int .u64 0, .int .i64 0] 27) r0
  have s1 := cell_keep (.cells #[.int .u64 0, .int .u64 0, .int .i64 0] 27) r1
  have s2 := cell_keep (.cells #[.int .u64 0, .int .u64 0, .int .i64 0] 27) r2
  refine bodyPost_ret (v := .tuple #[.agg #[.int .u64 0, .int .u64 0, .int .i64 0], .bool false]) (by simp [results, Tryd.results71, go_sem, s0, s1, s2]) rfl ⟨rfl, ?_⟩
  have h1 : Below w.heap.size w w1 := HP.out.trans (HB1.out.mono (Nat.le_of_lt hs0))
  have h4 := h3 h1
  exact h4.alloc h4.size _

/-- copy of things, from a row that can be read into one of one's own as long as it. -/
theorem run_copy_th (w : World) (ty : TypeId) (base g n : Nat) (p : Option Addr) (c c' : Nat) (xs : List Value) (l : List Th) (hl : l.length = n)
    (hown : w.ownsRow base 27 3 (.slice (some ⟨g, 0, none⟩) n c') n xs) (hc : c' = n)
    (hp : 0 < n → ∃ a, p = some a ∧ ∀ j v, (thc l)[j]? = some v → w.cell? (a.add j) = some v) :
    ∃ w', (Builtin.copy_ #[22, 22] ty #[.slice (some ⟨g, 0, none⟩) n c', .slice p n c]).run Tryd.prog w = .ok (.int .i64 n) w' ∧ OT w' base (.slice (some ⟨g, 0, none⟩) n c') l ∧ Only (fun k => k = g) w w' := by
  subst hc
  obtain ⟨i, hi, hz0, hz1, hz2⟩ := info_parts th_info
  by_cases h0 : c' = 0
  · subst h0
    have e : l = [] := List.length_eq_zero_iff.1 hl
    subst e
    refine ⟨w, ?_, ?_, Only.refl _ _⟩
    · have hld : ∀ (x : Addr), (loadCells x 0).run Tryd.prog w = .ok #[] w := fun x => by simpa using run_loadCells_list (P := Tryd.prog) w x [] (by simp)
      have hu := run_underlying Tryd.underlying22
      cases p <;> simp [Builtin.copy_, hu, Builtin.lenOf, Builtin.firstCells, sizeOf, typeInfo, hi, storeCells, hld, goInt]
    · refine ⟨rfl, ?_⟩
      rcases hown.2 with h | ⟨g', cap, cur, hv, hg, hh, hx⟩
      · exact .inl h
      · exact .inr ⟨g', cap, cur, hv, hg, hh, hx.1, hx.2.1, hx.2.2.1, by simp [thc]⟩
  · obtain ⟨a, rfl, hsrc⟩ := hp (by omega)
    rcases hown.2 with ⟨hv, _⟩ | ⟨g', cap, cur, hv, hg, hh, hcl, hcm, hcs, _⟩
    · cases hv
    · injection hv with e1 _ e3
      injection e1 with e1
      injection e1 with e1
      subst e1 e3
      have hld := run_loadCells_list (P := Tryd.prog) w a (thc l) hsrc
      have hst := run_storeCells_at Tryd.prog g 0 27 (thc l) 0 cur w hh (by rw [thc_len, hl]; omega) (fun v hv => by
        simp only [thc, List.mem_flatMap] at hv
        obtain ⟨x, _, hx⟩ := hv
        exact enT_one x v hx)
      have hlen : (thc l).length = c' * 3 := by rw [thc_len, hl]
      have hu := run_underlying Tryd.underlying22
      have hrow : cur.toList.take 0 ++ thc l ++ cur.toList.drop (0 + (thc l).length) = thc l := by
        rw [hlen, List.drop_of_length_le (by simp; omega)]; simp
      simp only [Nat.zero_add, Nat.add_zero] at hst hrow
      rw [hrow] at hst
      refine ⟨w.setRow g (thc l).toArray, ?_, ?_, ⟨rfl, rfl, rfl, by simp [World.setRow], fun k hk hx => setRow_other w g k _ hx⟩⟩
      · rw [hlen] at hld
        simp [Builtin.copy_, hu, Builtin.lenOf, Builtin.firstCells, sizeOf, typeInfo, hi, hz1, hld, hst, goInt]
      · unfold OT
        rw [hl]
        exact ⟨hlen, .inr ⟨g, c', (thc l).toArray, rfl, hg, setRow_heap w g cur _ _ _ hh, Nat.le_refl _, hcm, by simpa using hlen, by show (thc l).take (c' * 3) = _; rw [← hlen, List.take_length]⟩⟩
end Go.Proofs.YtfclmbneimbmnaaDoor

/- A ring's Put, Next, Used and Len, said of its rows. -/
import Derived.Test.YtfclmbneimbmnaaDoorRiF
namespace Go.Proofs.YtfclmbneimbmnaaDoor
open Go.RowKit

theorem rput_in {r b s : Nat} {V : Nat → Value} {S : Nat → List Th} {M : Int → Option (Nat × Nat)} (t : Th) (w : World) (h : Rn w r b V S M) (hs : s < 64) (hx : IdOk t.1) (hM : M t.1 = none) (hfew : tot S 64 < 999999) :
    Calls Tryd.prog 66 #[.pointer (some ⟨r, 0, none⟩), .int .i64 s, .agg #[.int .u64 t.1, .int .u64 t.2.1, .int .i64 t.2.2]] w fun e w' => e = .returned (.int .i64 0) ∧
      ∃ V' M', Rn w' r b V' (upd S s (S s ++ [t])) M' ∧ Only (Fp V r b) w w' ∧ ∀ k, Fp V' r b k → Fp V r b k ∨ w.heap.size ≤ k := by
  refine (put_anyF t.1 t.2.1 t.2.2 w h.rg h.rw hs hx hM (by have := h.few; omega) (by have := tot_ge S 64 hs; have := h.few; omega) (Nat.zero_le _) h.ne).mono ?_
  rintro e w' ⟨h1, V', h2, h3, h4, h5⟩
  have ht : tot (upd S s (S s ++ [t])) 64 = tot S 64 + 1 := by
    have := tot_upd S s (S s ++ [t]) 64 hs
    rw [List.length_append, List.length_singleton] at this
    omega
  refine ⟨h1, V', updM M t.1 (some (s, (S s).length)), ⟨by rw [ht]; exact h2, h3, h.cons.put hs hM, h.ne, fun k hk t' ht' => ?_, by rw [ht]; omega⟩, h4.more (fun k hk => ?_), fun k hk => ?_⟩
  · unfold upd at ht'
    by_cases e : k = s
    · subst e
      rw [if_pos rfl] at ht'
      rcases List.mem_append.1 ht' with h6 | h6
      · exact h.ok k hk t' h6
      · rw [List.mem_singleton] at h6; rw [h6]; exact hx
    · rw [if_neg e] at ht'; exact h.ok k hk t' ht'
  · rcases hk with rfl | rfl | hk
    · exact .inl rfl
    · exact .inr (.inl rfl)
    · exact .inr (.inr ⟨s, hs, hk⟩)
  · rcases hk with rfl | rfl | ⟨j, hj, hg⟩
    · exact .inl (.inl rfl)
    · exact .inl (.inr (.inl rfl))
    · rcases h5 j k hj hg with h6 | h6
      · exact .inl (.inr (.inr ⟨j, hj, h6⟩))
      · exact .inr h6

set_option maxRecDepth 100000 in
theorem rput_out {r b : Nat} {V : Nat → Value} {S : Nat → List Th} {M : Int → Option (Nat × Nat)} (k x y z : Int) (w : World) (h : Rn w r b V S M) (hk : ¬ (0 ≤ k ∧ k < 64)) :
    Calls Tryd.prog 66 #[.pointer (some ⟨r, 0, none⟩), .int .i64 k, .agg #[.int .u64 x, .int .u64 y, .int .i64 z]] w fun e w' => e = .returned (.int .i64 2) ∧ Below w.heap.size w w' := by
  have hb : Below w.heap.size w (w.alloc (.cells #[.int .u64 x, .int .u64 y, .int .i64 z] 27)) := (Below.refl _ _).alloc (Nat.le_refl _) _
  have hc := created_yes r b _ (h.below hb).rg.map
  have hh := fun w => has_any k w
  rw [decide_eq_false hk] at hh
  have HB := Lib.hid hb
  clear h hk hb
  go_enter Tryd.func66, Tryd.ntmps66
  go_wp2_with (first
    | (go_at_call 77; with_reducible refine hc.mono ?_; rintro e w3 ⟨rfl, rfl⟩)
    | (go_at_call 109; with_reducible refine (hh _).mono ?_; rintro e w3 ⟨rfl, rfl⟩))
  go_ret
  exact ⟨rfl, HB.out⟩

set_option maxRecDepth 100000 in
set_option maxHeartbeats 4000000 in
theorem rput_there {r b s : Nat} {V : Nat → Value} {S : Nat → List Th} {M : Int → Option (Nat × Nat)} {s' i' : Nat} (x y z : Int) (w : World) (h : Rn w r b V S M) (hs : s < 64) (hx : IdOk x) (hM : M x = some (s', i')) :
    Calls Tryd.prog 66 #[.pointer (some ⟨r, 0, none⟩), .int .i64 s, .agg #[.int .u64 x, .int .u64 y, .int .i64 z]] w fun e w' => e = .returned (.int .i64 32) ∧ Below w.heap.size w w' := by
  obtain ⟨T, hTe⟩ : ∃ T, w.heap.size = T := ⟨_, rfl⟩
  have mixed := insTh.mixed
  obtain ⟨W1, hW1⟩ : ∃ W1, w.alloc (.cells #[.int .u64 x, .int .u64 y, .int .i64 z] 27) = W1 := ⟨_, rfl⟩
  have hB1 : Below w.heap.size w W1 := by rw [← hW1]; exact (Below.refl _ _).alloc (Nat.le_refl _) _
  have h1 := h.below hB1
  have hT : W1.cell? ⟨T, 0, none⟩ = some (.int .u64 x) := by rw [← hW1, ← hTe]; simp
  have hsz : W1.heap.size = T + 1 := by rw [← hW1]; simp; omega
  have hcr := created_yes r b W1 h1.rg.map
  have hha := has_yes s hs W1
  have HSX : Hid (∀ w', Below W1.heap.size W1 w' → w'.cell? ⟨r, 64, none⟩ = some (.map (some b)) ∧ w'.cell? ⟨T, 0, none⟩ = some (.int .u64 x) ∧ (Instr.lookup 137 (.map (some b)) (.int .u64 x) true).run Tryd.prog w' = .ok (.tuple #[.agg #[.int .i64 s', .int .i64 i'], .bool true]) w') := fun w' hb =>
    ⟨(hb.cell (p := ⟨r, 64, none⟩) (cell_lt h1.rg.map)).trans h1.rg.map, (hb.cell (p := ⟨T, 0, none⟩) (by show T < W1.heap.size; omega)).trans hT, (h1.rg.pl.block (hb.block _ h1.rg.pl.lt)).look_some hx hM⟩
  have HO := Lib.hid hB1
  clear hB1 h1 h hM hT
  have hs0 : (0 : Int) ≤ (s : Int) := by omega
  have hs64 : (s : Int) < 64 := by omega
  go_enter Tryd.func66, Tryd.ntmps66
  go_wp2_with (first
    | (go_at_call 77; refine hcr.mono ?_; rintro e w1 ⟨rfl, rfl⟩)
    | (go_at_call 109; refine hha.mono ?_; rintro e w1 ⟨rfl, rfl⟩))
  clear hcr hha hW1
  go_region_held3 (fun w' => w'.cell? ⟨r, 64, none⟩ = some (.map (some b)) ∧ w'.cell? ⟨T, 0, none⟩ = some (.int .u64 x) ∧ (Instr.lookup 137 (.map (some b)) (.int .u64 x) true).run Tryd.prog w' = .ok (.tuple #[.agg #[.int .i64 s', .int .i64 i'], .bool true]) w')
    (first
      | exact HSX.out _ (Below.refl _ _).drew
      | exact HSX.out _ ((Below.refl _ _).drew.alloc (Nat.le_refl _) _)
      | exact HSX.out _ (((Below.refl _ _).drew.alloc (Nat.le_refl _) _).setCell (Nat.le_refl _) _)
      | exact HSX.out _ ((((Below.refl _ _).drew.alloc (Nat.le_refl _) _).setCell (Nat.le_refl _) _).setCell (Nat.le_refl _) _)
      | assumption) (fail)
  all_goals
    have hB2 : Below w1.heap.size w1 (w1.alloc (.cells #[.int .i64 s', .int .i64 i'] 182)).drew := ((Below.refl _ _).alloc (Nat.le_refl _) _).drew
    have HB2 := Lib.hid (HO.out.trans (hB2.mono HO.out.size))
    generalize (w1.alloc (.cells #[.int .i64 s', .int .i64 i'] 182)).drew = W2 at hB2 HB2 ⊢
    go_wp2
    go_ret
    exact ⟨rfl, HB2.out⟩

/-- How many lie in a slot. -/
def lenS (S : Nat → List Th) (k : Nat) : Nat := if k < 64 then (S k).length else 0
theorem lenS_in (S : Nat → List Th) {k : Nat} (h : k < 64) : lenS S k = (S k).length := by unfold lenS; rw [if_pos h]
theorem Rn.lens {w : World} {r b : Nat} {V : Nat → Value} {S : Nat → List Th} {M : Int → Option (Nat × Nat)} (h : Rn w r b V S M) : (∀ k, k < 64 → ∃ a c, V k = .slice a (lenS S k) c) ∧ ∀ k, lenS S k < 1000000000000 :=
  ⟨fun k hk => by obtain ⟨a, c, e⟩ := (h.rw.row k hk).shape; exact ⟨a, c, by rw [lenS_in S hk]; exact e⟩, fun k => by
    unfold lenS
    split
    · rename_i hk; have := tot_ge S 64 hk; have := h.few; omega
    · omega⟩
theorem rused {r b : Nat} {V : Nat → Value} {S : Nat → List Th} {M : Int → Option (Nat × Nat)} (w : World) (h : Rn w r b V S M) :
    Calls Tryd.prog 25 #[.pointer (some ⟨r, 0, none⟩)] w fun e w' => e = .returned (.int .u64 (bitsN (lenS S) 64)) ∧ w' = w :=
  usedP hatU rfl w h.rg.slot h.lens.1 h.lens.2 (fun w1 e => by subst e; exact created_yes r b _ h.rg.map)
theorem rlen {r b : Nat} {V : Nat → Value} {S : Nat → List Th} {M : Int → Option (Nat × Nat)} (w : World) (h : Rn w r b V S M) :
    Calls Tryd.prog 24 #[.pointer (some ⟨r, 0, none⟩)] w fun e w' => e = .returned (.int .i64 (tot S 64 : Nat)) ∧ w' = w := len_any w h.rg
theorem rnext_none {r b : Nat} {V : Nat → Value} {S : Nat → List Th} {M : Int → Option (Nat × Nat)} (k : Int) (w : World) (h : Rn w r b V S M) (h0 : ∀ k, k < 64 → S k = []) :
    Calls Tryd.prog 67 #[.pointer (some ⟨r, 0, none⟩), .int .i64 k] w fun e w' => e = .returned (.tuple #[.int .i64 0, .int .i64 0, .bool false]) ∧ w' = w :=
  next_none k w h.rg h.lens.1 h.lens.2 (fun k hk => by rw [lenS_in S hk, h0 k hk]; rfl)
theorem rnext_some {r b : Nat} {V : Nat → Value} {S : Nat → List Th} {M : Int → Option (Nat × Nat)} (k : Int) (j : Nat) (w : World) (hT : Tab w) (h : Rn w r b V S M) (hj : j < 64) (h1 : S (((k % 64).toNat + j) % 64) ≠ []) (h0 : ∀ i, i < j → S (((k % 64).toNat + i) % 64) = []) :
    Calls Tryd.prog 67 #[.pointer (some ⟨r, 0, none⟩), .int .i64 k] w fun e w' => e = .returned (.tuple #[.int .i64 ((((k % 64).toNat + j) % 64 : Nat) : Int), .int .i64 j, .bool true]) ∧ w' = w :=
  next_some k j w hT h.rg h.lens.1 h.lens.2 hj (by rw [lenS_in S (Nat.mod_lt _ (by omega))]; exact List.length_pos_iff.2 h1) (fun i hi => by rw [lenS_in S (Nat.mod_lt _ (by omega)), h0 i hi]; rfl)

/-- A ring made anew. -/
theorem rnew (w : World) : Calls Tryd.prog 22 #[] w fun e w' => ∃ r b V M, e = .returned (.pointer (some ⟨r, 0, none⟩)) ∧ Rn w' r b V (fun _ => []) M ∧ Below w.heap.size w w' ∧ ∀ k, Fp V r b k → w.heap.size ≤ k := by
  refine (new_any w).mono ?_
  rintro e w' ⟨r, b, h1, h2, h3, h4, h5, h6⟩
  have ht : tot (fun _ => ([] : List Th)) 64 = 0 := by decide
  refine ⟨r, b, _, _, h1, ⟨by rw [ht]; exact h5, ⟨fun k hk => OT.nil _ _, fun k g hk hg => (by cases hg), fun j k g hj hk hg _ => (by cases hg)⟩, Cons.none, h4, fun s hs t ht => (by cases ht), by rw [ht]; omega⟩, h6, fun k hk => ?_⟩
  rcases hk with rfl | rfl | ⟨j, hj, hg⟩
  · exact h2
  · exact h3
  · cases hg
end Go.Proofs.YtfclmbneimbmnaaDoor

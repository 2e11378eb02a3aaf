/- The reference of layer 5. -/
import Derived.Test.YtfakgemifbgafaaMtI
import Derived.Laws.OwnMore
import Derived.Deep.RegionHeld3
namespace Go.Proofs.Ytfakgemifbgafaa
open Go.RowKit

/-- A row of words that can be read, apart from block N. -/
def Wds (N : Nat) (v : Value) (vs : List Int) (w : World) : Prop := ∃ g c, v = .slice (some ⟨g, 0, none⟩) vs.length c ∧ ¬ g = N ∧ vs.length ≤ 16 ∧ ∀ i, i < vs.length → w.cell? ⟨g, i, none⟩ = some (.int .u64 (vs.getD i 0))
theorem Wds.drew {N : Nat} {v : Value} {vs : List Int} {w : World} (h : Wds N v vs w) : Wds N v vs w.drew := h
theorem Wds.only {N : Nat} {v : Value} {vs : List Int} {w w' : World} (h : Wds N v vs w) (o : Only (· = N) w w') : Wds N v vs w' := by
  obtain ⟨g, c, h1, h2, h3, h4⟩ := h
  exact ⟨g, c, h1, h2, h3, fun i hi => (o.cell (p := ⟨g, i, none⟩) (cell_spot (h4 i hi)).2 h2).trans (h4 i hi)⟩
theorem Wds.kept {N : Nat} {v : Value} {vs : List Int} {w w' : World} (h : Wds N v vs w) (hb : Below w.heap.size w w') : Wds N v vs w' := h.only (Only.below hb)
theorem ow_empty (w : World) : (w.alloc (.cells #[] 42)).ownsRow w.heap.size 42 1 (.slice (some ⟨w.heap.size, 0, none⟩) 0 0) 0 [] := World.ownsRow_lit w #[] 0 (Nat.le_refl _) (by simp) rfl

theorem is_yes (g n c i : Nat) (w : World) (hi : i < n) : Calls Try.prog 82 #[.slice (some ⟨g, 0, none⟩) n c, .int .i64 (i : Int)] w fun e w' => e = .returned (.bool true) ∧ w = w' := by
  have h1 : decide ((i : Int) ≥ 0) = true := by simp
  have h2 : decide (0 ≤ (i : Int)) = true := by simp
  have h3 : decide (i < n) = true := by simp [hi]
  have h4 : decide ((i : Int) < (n : Int)) = true := by simp; omega
  go_enter Try.func82, Try.ntmps82
  go_wp2
  go_ret
  exact ⟨rfl, rfl⟩
theorem is_no (g n c : Nat) (i : Int) (w : World) (hi : i < 0 ∨ (n : Int) ≤ i) : Calls Try.prog 82 #[.slice (some ⟨g, 0, none⟩) n c, .int .i64 i] w fun e w' => e = .returned (.bool false) ∧ w = w' := by
  by_cases h0 : i < 0
  · have h1 : decide (i ≥ 0) = false := by simp; omega
    have h2 : decide (0 ≤ i) = false := by simp; omega
    go_enter Try.func82, Try.ntmps82
    go_wp2
    go_ret
    exact ⟨rfl, rfl⟩
  · have h1 : decide (i ≥ 0) = true := by simp; omega
    have h2 : decide (0 ≤ i) = true := by simp; omega
    have h3 : decide (i < (n : Int)) = false := by simp; omega
    go_enter Try.func82, Try.ntmps82
    go_wp2
    go_ret
    exact ⟨rfl, rfl⟩

set_option maxRecDepth 100000 in
set_option maxHeartbeats 1600000 in
theorem with_in (N : Nat) (v : Value) (vs : List Int) (i : Nat) (x : Int) (w : World) (h : Wds N v vs w) (hi : i < vs.length) (hN : N < w.heap.size) :
    Calls Try.prog 83 #[v, .int .i64 (i : Int), .int .u64 x] w fun e w' => ∃ v', e = .returned v' ∧ Below w.heap.size w w' ∧ Wds N v' (vs.set i x) w' := by
  obtain ⟨g, c, rfl, hne, hf, hc⟩ := h
  obtain ⟨i0, hin, hz0, hz1, hz2⟩ := info_parts words_info
  obtain ⟨n, hn⟩ : ∃ n, vs.length = n := ⟨_, rfl⟩
  rw [hn] at hi hf hc ⊢
  have HN := Lib.hid hn
  clear hn
  go_enter Try.func83, Try.ntmps83
  go_wp2_with (at_builtin; refine wpList_append_own _ rfl (.tmp 8) (.tmp 9) 41 rfl w.heap.size 42 i0 (.int .u64 0) 1 8 Try.underlying41 hin hz0 hz1 hz2 rfl (by decide) _ _ _ rfl (ow_empty w) ⟨g, 0, none⟩ n c (vs.map (Value.int .u64)) rfl ?c0 ?c1 ?c2 ?c3 ?c4 ?c5 ?_)
  case c0 => have := HN.out; simp [this]
  case c1 =>
    intro j u hj
    have hl := HN.out
    have hj' : j < vs.length := by simpa using (List.getElem?_eq_some_iff.mp hj).1
    simp only [List.getElem?_map, List.getElem?_eq_getElem hj', Option.map_some, Option.some.injEq] at hj
    subst hj
    have h0 := hc j (by omega)
    rw [add_at, Nat.zero_add, World.cell?_alloc_past _ _ _ (by simpa using (cell_spot h0).2), h0]
    simp [hj']
  case c2 =>
    intro u hu
    simp only [List.mem_map] at hu
    obtain ⟨y, _, rfl⟩ := hu
    rfl
  case c3 => unfold maxLen; omega
  case c4 => omega
  case c5 => simp
  intro v1 w1 hown hgrow _
  have hB : Below w.heap.size w w1 := (alloc_b w (.cells #[] 42)).grown hgrow (by simp) fun k hk => (World.ownsRow.lt (ow_empty w) k hk).1
  have hO : OI .u64 42 w1 w.heap.size v1 vs := by unfold OI; rw [HN.out]; exact hown
  obtain ⟨g1, c1, rfl, hg1, hlt1, hc1⟩ := hO.at (by rw [HN.out]; omega)
  have hz := World.ownsRow.frozenAt hO i
  have hci := hc1 i (by rw [HN.out]; exact hi)
  have hl := HN.out
  have B1 : Below w.heap.size w (w1.setCell ⟨g1, i, none⟩ (.int .u64 x)) := hB.setCell hg1 _
  have W1 : Wds N (.slice (some ⟨g1, 0, none⟩) n c1) (vs.set i x) (w1.setCell ⟨g1, i, none⟩ (.int .u64 x)) := by
    refine ⟨g1, c1, by simp [hl], by omega, by simp [hl, hf], fun j hj => ?_⟩
    rw [List.length_set] at hj
    by_cases h : j = i
    · subst h
      rw [World.cell?_setCell_same _ _ _ hci]
      simp [hj]
    · refine (World.cell?_setCell_other _ ⟨g1, i, none⟩ ⟨g1, j, none⟩ _ (fun e => by injection e with e1 e2; omega)).trans ?_
      rw [hc1 j hj]
      simp [List.getElem?_set, Ne.symm h]
  have n0 : (0 : Int) ≤ (i : Int) := by omega
  have n1 : (i : Int) < (n : Int) := by omega
  rw [hl]
  clear hO hown hgrow hB hc1 hl hc
  go_wp2_with fail
  go_ret
  exact ⟨_, rfl, B1, W1⟩
end Go.Proofs.Ytfakgemifbgafaa

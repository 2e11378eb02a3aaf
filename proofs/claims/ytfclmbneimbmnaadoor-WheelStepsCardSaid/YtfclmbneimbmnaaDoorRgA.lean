/- A ring in memory; rings that are none; created, has, Len. -/
import Derived.Test.YtfclmbneimbmnaaDoorMpA
import Derived.Deep.Slices
import Derived.Deep.RegionHeld3
import Derived.BigQuiet
import Derived.Deep.QuietTactic
import Derived.Below
import Derived.Laws.Cover3
import Derived.LoopTactic
import Derived.Deep.LoopGhost
import Derived.IntWalk
namespace Go.Proofs.YtfclmbneimbmnaaDoor
open Go.RowKit

/-- Of what was there, the blocks X alone may have turned. -/
structure Only (X : Nat → Prop) (w w' : World) : Prop where
  os : w'.os = w.os
  tape : w'.tape = w.tape
  output : w'.output = w.output
  size : w.heap.size ≤ w'.heap.size
  block : ∀ k, k < w.heap.size → ¬ X k → w'.heap[k]? = w.heap[k]?
theorem Only.refl (X : Nat → Prop) (w : World) : Only X w w := ⟨rfl, rfl, rfl, Nat.le_refl _, fun _ _ _ => rfl⟩
theorem Only.trans {X : Nat → Prop} {a b c : World} (h : Only X a b) (k : Only X b c) : Only X a c :=
  ⟨k.os.trans h.os, k.tape.trans h.tape, k.output.trans h.output, Nat.le_trans h.size k.size, fun i hi hx => (k.block i (Nat.lt_of_lt_of_le hi h.size) hx).trans (h.block i hi hx)⟩
theorem Only.drew {X : Nat → Prop} {w w' : World} (h : Only X w w') : Only X w w'.drew := ⟨h.os, h.tape, h.output, h.size, h.block⟩
theorem Only.below {X : Nat → Prop} {w w' : World} (h : Below w.heap.size w w') : Only X w w' := ⟨h.os, h.tape, h.output, h.size, fun k hk _ => h.block k hk⟩
theorem Only.toBelow {X : Nat → Prop} {B : Nat} {w w' : World} (h : Only X w w') (hB : B ≤ w.heap.size) (hx : ∀ k, X k → B ≤ k) : Below B w w' :=
  ⟨h.os, h.tape, h.output, h.size, fun k hk => h.block k (Nat.lt_of_lt_of_le hk hB) fun hxk => by have := hx k hxk; omega⟩
theorem Only.setCell {X : Nat → Prop} {w w' : World} (h : Only X w w') (p : Addr) (v : Value) (hp : X p.block) : Only X w (w'.setCell p v) :=
  ⟨h.os, h.tape, h.output, by have := h.size; simpa using this, fun k hk hx => (Below.heap_setCell _ _ _ _ (fun e => hx (by first | (rw [e]; exact hp) | (rw [← e]; exact hp)))).trans (h.block k hk hx)⟩

/-- A ring at block r: its slots' slices V, its map at block b with c places, M. -/
structure Rg (w : World) (r b c : Nat) (V : Nat → Value) (M : Int → Option (Nat × Nat)) : Prop where
  slot : ∀ k, k < 64 → w.cell? ⟨r, k, none⟩ = some (V k)
  fro : ∀ k, k ≤ 64 → w.frozen? ⟨r, k, none⟩ = false
  map : w.cell? ⟨r, 64, none⟩ = some (.map (some b))
  pl : Pl w b c M

/-- A pointer that is no ring: nil, or one to a ring that no call made. -/
def NoRg (w : World) (p : Option Addr) : Prop := p = none ∨ ∃ r, p = some ⟨r, 0, none⟩ ∧ w.cell? ⟨r, 64, none⟩ = some (.map none)

theorem cell_lt {w : World} {a : Addr} {v : Value} (h : w.cell? a = some v) : a.block < w.heap.size := World.block_lt_of_cell? w a h

theorem Rg.below {w w' : World} {r b c : Nat} {V : Nat → Value} {M : Int → Option (Nat × Nat)} (h : Rg w r b c V M) (hb : Below w.heap.size w w') : Rg w' r b c V M := by
  have hr : r < w.heap.size := cell_lt h.map
  exact ⟨fun k hk => (hb.cell (p := ⟨r, k, none⟩) hr).trans (h.slot k hk), fun k hk => (hb.frozen (p := ⟨r, k, none⟩) hr).trans (h.fro k hk), (hb.cell (p := ⟨r, 64, none⟩) hr).trans h.map, h.pl.block (hb.block _ h.pl.lt)⟩

theorem neq_map (m : Option Nat) (w : World) : (binOp .neq 137 (.map m) (.map none)).run Tryd.prog w = .ok (.bool (!m.isNone)) w := run_neq_map_nil w _ _ _ m undMp

set_option maxRecDepth 100000 in
theorem created_no (p : Option Addr) (w : World) (h : NoRg w p) : Calls Tryd.prog 77 #[.pointer p] w fun e w' => e = .returned (.bool false) ∧ w' = w := by
  have hn := neq_map
  rcases h with rfl | ⟨r, rfl, h⟩
  · go_enter Tryd.func77, Tryd.ntmps77
    go_wp2
    go_ret
    exact ⟨rfl, rfl⟩
  · go_enter Tryd.func77, Tryd.ntmps77
    go_wp2
    go_ret
    exact ⟨rfl, rfl⟩

set_option maxRecDepth 100000 in
theorem created_yes (r b : Nat) (w : World) (h : w.cell? ⟨r, 64, none⟩ = some (.map (some b))) : Calls Tryd.prog 77 #[.pointer (some ⟨r, 0, none⟩)] w fun e w' => e = .returned (.bool true) ∧ w' = w := by
  have hn := neq_map
  go_enter Tryd.func77, Tryd.ntmps77
  go_wp2
  go_ret
  exact ⟨rfl, rfl⟩

set_option maxRecDepth 100000 in
theorem has_any (k : Int) (w : World) : Calls Tryd.prog 109 #[.int .i64 k] w fun e w' => e = .returned (.bool (decide (0 ≤ k ∧ k < 64))) ∧ w' = w := by
  by_cases h1 : 0 ≤ k
  · by_cases h2 : k < 64
    · rw [decide_eq_true ⟨h1, h2⟩]
      go_enter Tryd.func109, Tryd.ntmps109
      go_wp2
      go_ret
      exact ⟨rfl, rfl⟩
    · rw [decide_eq_false (fun h => h2 h.2)]
      go_enter Tryd.func109, Tryd.ntmps109
      go_wp2
      go_ret
      exact ⟨rfl, rfl⟩
  · rw [decide_eq_false (fun h => h1 h.1)]
    go_enter Tryd.func109, Tryd.ntmps109
    go_wp2
    go_ret
    exact ⟨rfl, rfl⟩

set_option maxRecDepth 100000 in
theorem len_no (p : Option Addr) (w : World) (h : NoRg w p) : Calls Tryd.prog 24 #[.pointer p] w fun e w' => e = .returned (.int .i64 0) ∧ w' = w := by
  have hc := created_no p w h
  clear h
  go_enter Tryd.func24, Tryd.ntmps24
  go_wp2_with (go_at_call 77; refine hc.mono ?_; rintro e w1 ⟨rfl, rfl⟩)
  go_ret
  exact ⟨rfl, rfl⟩

set_option maxRecDepth 100000 in
theorem len_any {r b c : Nat} {V : Nat → Value} {M : Int → Option (Nat × Nat)} (w : World) (h : Rg w r b c V M) : Calls Tryd.prog 24 #[.pointer (some ⟨r, 0, none⟩)] w fun e w' => e = .returned (.int .i64 c) ∧ w' = w := by
  have hc := created_yes r b w h.map
  have hm := h.map
  have hl := h.pl.len 3
  clear h
  go_enter Tryd.func24, Tryd.ntmps24
  go_wp2_with (go_at_call 77; refine hc.mono ?_; rintro e w1 ⟨rfl, rfl⟩)
  go_ret
  exact ⟨rfl, rfl⟩

set_option maxRecDepth 100000 in
theorem used_no (p : Option Addr) (w : World) (h : NoRg w p) : Calls Tryd.prog 25 #[.pointer p] w fun e w' => e = .returned (.int .u64 0) ∧ w' = w := by
  have hc := created_no p w h
  clear h
  go_enter Tryd.func25, Tryd.ntmps25
  go_wp2_with (go_at_call 77; refine hc.mono ?_; rintro e w1 ⟨rfl, rfl⟩)
  go_ret
  exact ⟨rfl, rfl⟩

set_option maxRecDepth 100000 in
theorem next_no (p : Option Addr) (k : Int) (w : World) (h : NoRg w p) : Calls Tryd.prog 67 #[.pointer p, .int .i64 k] w fun e w' => e = .returned (.tuple #[.int .i64 0, .int .i64 0, .bool false]) ∧ w' = w := by
  have hc := used_no p w h
  clear h
  go_enter Tryd.func67, Tryd.ntmps67
  go_wp2_with (go_at_call 25; refine hc.mono ?_; rintro e w1 ⟨rfl, rfl⟩)
  go_ret3
  exact ⟨rfl, rfl⟩

set_option maxRecDepth 100000 in
theorem look_no (p : Option Addr) (k : Int) (w : World) (h : NoRg w p) : Calls Tryd.prog 73 #[.pointer p, .int .i64 k] w fun e w' => e = .returned (.slice none 0 0) ∧ w' = w := by
  have hc := created_no p w h
  clear h
  go_enter Tryd.func73, Tryd.ntmps73
  go_wp2_with (go_at_call 77; refine hc.mono ?_; rintro e w1 ⟨rfl, rfl⟩)
  go_ret
  exact ⟨rfl, rfl⟩

set_option maxRecDepth 100000 in
theorem take_no (p : Option Addr) (k : Int) (w : World) (h : NoRg w p) : Calls Tryd.prog 28 #[.pointer p, .int .i64 k] w fun e w' => e = .returned (.slice none 0 0) ∧ w' = w := by
  have hc := look_no p k w h
  clear h
  go_enter Tryd.func28, Tryd.ntmps28
  go_wp2_with (go_at_call 73; refine hc.mono ?_; rintro e w1 ⟨rfl, rfl⟩)
  refine wp_loop_rounds 1 ?_
  rw [rounds_succ]
  go_wp2
  go_ret
  exact ⟨rfl, rfl⟩
end Go.Proofs.YtfclmbneimbmnaaDoor

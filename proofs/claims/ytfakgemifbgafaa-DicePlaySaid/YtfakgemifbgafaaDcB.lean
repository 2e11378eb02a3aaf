/- Dice in memory: New, created, Left, take. -/
import Derived.Test.YtfakgemifbgafaaDcA
import Derived.Test.YtfakgemifbgafaaLaws
import Derived.Test.YtfakgemifbgafaaLzA
import Derived.WalkSpells
import Derived.LoopTactic
import Derived.Lib.Tables
namespace Go.Proofs.Ytfakgemifbgafaa
open Go.RowKit

def Owned (w : World) (bs : List Nat) (e : Ending) (w' : World) : Prop := ∃ v', e = .returned v' ∧ OB w' w.heap.size v' bs ∧ Below w.heap.size w w'
theorem ob_empty (w : World) (b : Nat) (hb : b = w.heap.size) : OB (w.alloc (.cells #[] 5)) w.heap.size (.slice (some ⟨b, 0, none⟩) 0 0) [] := by
  subst hb
  exact World.ownsRow_lit w #[] 0 (Nat.le_refl _) (by simp) rfl

/-- bytes.Clone. -/
theorem clone_any (v : Value) (bs : List Nat) (w : World) (hb : RB w v bs) : Calls Try.prog 68 #[v] w (Owned w bs) := by
  rcases hb.2.2 with ⟨rfl, rfl⟩ | ⟨x, cap, rfl, _, _, _⟩
  · have hn := fun (w : World) (n c : Nat) => Lib.run_eql_slice_nil (P := Try.prog) w 68 5 none n c 0 0 Try.underlying68
    go_enter Try.func68, Try.ntmps68
    go_wp2
    go_ret
    exact ⟨_, rfl, World.ownsRow_nil _ _ _ _, Below.refl _ _⟩
  · have hn := fun (w : World) (n c : Nat) => Lib.run_eql_slice_nil (P := Try.prog) w 68 5 (some x) n c 0 0 Try.underlying68
    obtain ⟨n, hnn⟩ : ∃ n, bs.length = n := ⟨_, rfl⟩
    have HB := Lib.hid hb
    have hl := hb.2.1
    rw [hnn] at hl ⊢
    have HN := Lib.hid hnn
    clear hb hnn
    go_enter Try.func68, Try.ntmps68
    go_wp2_with (first
      | (at_builtin; refine append_rb rfl _ _ rfl w.heap.size _ _ [] bs rfl rfl (ob_empty _ _ rfl) (by have := HB.out.kept ((Below.refl _ _).alloc (Nat.le_refl _) (.cells #[] 5)); rw [HN.out] at this; exact this) (by have := HN.out; simp; omega) (by simp) ?_; intro v1 w1 ho1 hg1; have hb1 := (ob_empty w _ rfl).below hg1 ((Below.refl w.heap.size w).alloc (Nat.le_refl _) _) (by simp); clear hg1))
    go_ret
    exact ⟨_, rfl, ho1, hb1⟩

/-- The slice v lies in no block of X. -/
def Out (X : Nat → Prop) (v : Value) : Prop := ∀ k, v.ownBlock = some k → ¬ X k
/-- The slice v lies in a block that there is. -/
def Lies (w : World) (v : Value) : Prop := ∀ k, v.ownBlock = some k → k < w.heap.size
/-- Dice in block b with the bytes bs left, which lie in no block of X. -/
structure Dic (X : Nat → Prop) (b : Nat) (bs : List Nat) (w : World) : Prop where
  x : X b
  made : w.cell? ⟨b, 0, none⟩ = some (.bool true)
  rest : ∃ v, w.cell? ⟨b, 1, none⟩ = some v ∧ RB w v bs ∧ Out X v ∧ Lies w v
  free : ∀ j, w.frozen? ⟨b, j, none⟩ = false
theorem rb_only {X Y : Nat → Prop} {w w' : World} {v : Value} {bs : List Nat} (h : RB w v bs) (ho : Out X v) (hY : ∀ k, Y k → X k) (o : Only Y w w') : RB w' v bs := by
  obtain ⟨h1, h2, h3⟩ := h
  refine ⟨h1, h2, ?_⟩
  rcases h3 with h3 | ⟨x, cap, hv, ha, hm, hc⟩
  · exact .inl h3
  · refine .inr ⟨x, cap, hv, ha, hm, fun i hi => ?_⟩
    have hx : ¬ Y x.block := by
      intro e; exact ho x.block (by rw [hv]; rfl) (hY _ e)
    have hbk : (x.add i).block = x.block := by unfold Addr.add; split <;> rfl
    rw [o.cell (p := x.add i) (cell_spot (hc i hi)).2 (by rw [hbk]; exact hx)]
    exact hc i hi
theorem Dic.only {X Y : Nat → Prop} {b : Nat} {bs : List Nat} {w w' : World} (D : Dic X b bs w) (hY : ∀ k, Y k → X k) (hb : ¬ Y b) (o : Only Y w w') : Dic X b bs w' := by
  obtain ⟨v, h1, h2, h3, h4⟩ := D.rest
  have hlt := (cell_spot h1).2
  exact ⟨D.x, (o.cell (p := ⟨b, 0, none⟩) hlt hb).trans D.made, ⟨v, (o.cell (p := ⟨b, 1, none⟩) hlt hb).trans h1, rb_only h2 h3 hY o, h3, fun k hk => Nat.lt_of_lt_of_le (h4 k hk) o.size⟩, fun j => (World.frozen?_of_block (a := ⟨b, j, none⟩) (o.block b hlt hb)).trans (D.free j)⟩
theorem Dic.kept {X : Nat → Prop} {b : Nat} {bs : List Nat} {w w' : World} (D : Dic X b bs w) (h : Below w.heap.size w w') : Dic X b bs w' := D.only (Y := fun _ => False) (fun _ h => h.elim) id (Only.below h)
theorem Dic.drew {X : Nat → Prop} {b : Nat} {bs : List Nat} {w : World} (D : Dic X b bs w) : Dic X b bs w.drew := D.kept ((Below.refl _ _).drew)
theorem Dic.lt {X : Nat → Prop} {b : Nat} {bs : List Nat} {w : World} (D : Dic X b bs w) : b < w.heap.size := (cell_spot D.made).2
/-- The bytes that are left, another slice. -/
theorem Dic.set {X : Nat → Prop} {b : Nat} {bs cs : List Nat} {w : World} {v' : Value} (D : Dic X b bs w) (h : RB w v' cs) (ho : Out X v') (hl : Lies w v') : Dic X b cs (w.setCell ⟨b, 1, none⟩ v') := by
  obtain ⟨v, h1, h2, h3, h4⟩ := D.rest
  have o : Only (· = b) w (w.setCell ⟨b, 1, none⟩ v') := (Only.refl (fun k => k = b) w).setCell ⟨b, 1, none⟩ _ rfl
  exact ⟨D.x, (World.cell?_setCell_other _ ⟨b, 1, none⟩ ⟨b, 0, none⟩ _ (by simp)).trans D.made, ⟨v', World.cell?_setCell_same _ _ _ h1, rb_only h ho (fun k hk => by subst hk; exact D.x) o, ho, fun k hk => by simpa using hl k hk⟩, fun j => by simpa using D.free j⟩

/-- More blocks that the bytes are not in. -/
theorem Dic.more {X : Nat → Prop} {b : Nat} {bs : List Nat} {w : World} (D : Dic X b bs w) (B : Nat) (hB : w.heap.size ≤ B) : Dic (fun k => X k ∨ B ≤ k) b bs w := by
  obtain ⟨v, h1, h2, h3, h4⟩ := D.rest
  exact ⟨.inl D.x, D.made, ⟨v, h1, h2, fun k hk hx => hx.elim (h3 k hk) (fun h => by have := h4 k hk; omega), h4⟩, D.free⟩
theorem Dic.less {X Y : Nat → Prop} {b : Nat} {bs : List Nat} {w : World} (D : Dic Y b bs w) (hX : ∀ k, X k → Y k) (hb : X b) : Dic X b bs w := by
  obtain ⟨v, h1, h2, h3, h4⟩ := D.rest
  exact ⟨hb, D.made, ⟨v, h1, h2, fun k hk hx => h3 k hk (hX k hx), h4⟩, D.free⟩

/-- What New hands back. -/
def Fresh (w : World) (bs : List Nat) (e : Ending) (w' : World) : Prop := ∃ b v, e = .returned (.pointer (some ⟨b, 0, none⟩)) ∧ w.heap.size ≤ b ∧ b < w'.heap.size ∧ Below w.heap.size w w' ∧ w'.cell? ⟨b, 0, none⟩ = some (.bool true) ∧ w'.cell? ⟨b, 1, none⟩ = some v ∧ RB w' v bs ∧
  (∀ k, v.ownBlock = some k → w.heap.size ≤ k ∧ k < b) ∧ ∀ j, w'.frozen? ⟨b, j, none⟩ = false
theorem new_dice (v : Value) (bs : List Nat) (w : World) (h : RB w v bs) : Calls Try.prog 33 #[v] w (Fresh w bs) := by
  have hr := h.1
  have hl := h.2.1
  go_enter Try.func33, Try.ntmps33
  go_wp2_with fail
  refine (clone_any v bs _ h).mono ?_
  rintro e w1 ⟨v1, rfl, hO, hB⟩
  obtain ⟨a1, c1, rfl, _, _⟩ := (hO.rb hr hl).shape
  go_wp2_with fail
  go_ret
  have hb := (Below.refl w1.heap.size w1).alloc (Nat.le_refl _) (.cells #[.bool true, .slice a1 bs.length c1] 117)
  refine ⟨w1.heap.size, _, rfl, hB.size, by simp, hB.alloc hB.size _, by simp, by simp, (hO.rb hr hl).kept hb, fun k hk => World.ownsRow.lt hO k hk, fun j => by simp⟩
theorem created_yes {X : Nat → Prop} (b : Nat) (bs : List Nat) (w : World) (D : Dic X b bs w) : Calls Try.prog 71 #[.pointer (some ⟨b, 0, none⟩)] w fun e w' => e = .returned (.bool true) ∧ w = w' := by
  have hm := D.made
  go_enter Try.func71, Try.ntmps71
  go_wp2
  go_ret
  exact ⟨rfl, rfl⟩
theorem created_nil (w : World) : Calls Try.prog 71 #[.pointer none] w fun e w' => e = .returned (.bool false) ∧ w = w' := by
  go_enter Try.func71, Try.ntmps71
  go_wp2
  go_ret
  exact ⟨rfl, rfl⟩
theorem left_dic {X : Nat → Prop} (b : Nat) (bs : List Nat) (w : World) (D : Dic X b bs w) : Calls Try.prog 43 #[.pointer (some ⟨b, 0, none⟩)] w fun e w' => e = .returned (.int .i64 (bs.length : Int)) ∧ w = w' := by
  obtain ⟨v, h1, h2, h3, -⟩ := D.rest
  obtain ⟨a, cap, rfl, _, _⟩ := h2.shape
  go_enter Try.func43, Try.ntmps43
  go_wp2
  go_ret
  exact ⟨rfl, rfl⟩
theorem left_nil (w : World) : Calls Try.prog 43 #[.pointer none] w fun e w' => e = .returned (.int .i64 0) ∧ w = w' := by
  go_enter Try.func43, Try.ntmps43
  go_wp2
  go_ret
  exact ⟨rfl, rfl⟩
end Go.Proofs.Ytfakgemifbgafaa

/- The other reader, by definition: its parts. -/
import Derived.Test.YtnhaakdjijjinaaQuT
import Derived.Test.YtnhaakdjijjinaaQuW
namespace Go.Proofs.Ytnhaakdjijjinaa
open Go.RowKit

/-- The other reader: what is left, and whether it is bad. -/
def RF (w : World) (b : Nat) (ds : List Nat) (bad : Bool) : Prop :=
  ∃ v, w.heap[b]? = some (.cells #[v, .bool bad] 52 (0, 0)) ∧ RB w v ds ∧ Far b v ∧ (bad = true → ds = [])
theorem RF.kept {w w' : World} {b : Nat} {ds : List Nat} {bad : Bool} (h : RF w b ds bad) (hb : Below w.heap.size w w') : RF w' b ds bad := by
  obtain ⟨v, h1, h2, h3, h4⟩ := h
  exact ⟨v, (hb.block b (lt_of_block h1)).trans h1, h2.kept hb, h3, h4⟩
theorem fail_rf (b : Nat) (ds : List Nat) (bad : Bool) (w : World) (hr : RF w b ds bad) :
    Calls Try.prog 68 #[.pointer (some ⟨b, 0, none⟩)] w fun e w' => e = .returned (.tuple #[]) ∧ RF w' b [] true ∧ Rd b w w' := by
  obtain ⟨v, h1, h2, h3, h4⟩ := hr
  obtain ⟨c0, c1, f0, f1⟩ := two_cells h1
  have HE := Lib.hid h1
  clear h1 h2 h3 h4
  go_enter Try.func68, Try.ntmps68
  go_wp2
  go_end0
  refine ⟨rfl, ⟨.slice none 0 0, ?_, RB.nil _, Far.nil _, fun _ => rfl⟩, Rd.set (Rd.set (Turn.refl _ _ _) 0 _) 1 _⟩
  exact heap_set (heap_set HE.out 0 _) 1 _
theorem first_no (b : Nat) (bad : Bool) (w : World) (hr : RF w b [] bad) :
    Calls Try.prog 85 #[.pointer (some ⟨b, 0, none⟩)] w fun e w' => e = .returned (.tuple #[.int .u8 0, .bool false]) ∧ w = w' := by
  obtain ⟨v, h1, h2, h3, h4⟩ := hr
  obtain ⟨a, cap, rfl⟩ := h2.shapeN' (n := 0) rfl
  obtain ⟨c0, c1, f0, f1⟩ := two_cells h1
  clear h1 h2 h3 h4
  go_enter Try.func85, Try.ntmps85
  go_wp2
  go_ret2
  exact ⟨rfl, rfl⟩
/-- What first hands back where there is one. -/
def First (b : Nat) (w : World) (c : Nat) (t : List Nat) (e : Ending) (w' : World) : Prop := e = .returned (.tuple #[.int .u8 (c : Int), .bool true]) ∧ RF w' b t false ∧ Rd b w w'
theorem firsts {w : World} {b L cap k c' c : Nat} {x y : Addr} {t : List Nat} (hh : w.heap[b]? = some (.cells #[.slice (some x) L cap, .bool false] 52 (0, 0))) (h : RB w (.slice (some x) L cap) (c :: t))
    (h3 : Far b (Value.slice (some x) L cap)) (hy : y = x.add 1 ∨ (1 = (c :: t).length ∧ y = x)) (hk : k = (c :: t).length - 1) (hkc : k ≤ c') (hcm : c' ≤ maxLen) :
    First b w c t (.returned (.tuple #[.int .u8 (c : Int), .bool true])) (w.setCell ⟨b, 0, none⟩ (.slice (some y) k c')) := by
  have ht : Rd b w (w.setCell ⟨b, 0, none⟩ (.slice (some y) k c')) := Rd.set (Turn.refl _ _ _) 0 _
  have hb2 := own_addr (n := k) (c := c') h3 (y := y) (hy.elim (fun h => .inr ⟨1, h⟩) (fun h => .inl h.2))
  have hd := rb_drop h 1 (by simp) (hy.elim .inl (fun h => .inr h.1)) hk hkc hcm
  exact ⟨rfl, ⟨_, heap_set hh 0 _, hd.turned ht hb2.ne, hb2, fun hb => by cases hb⟩, ht⟩
set_option maxHeartbeats 1000000 in
theorem first_yes (b c : Nat) (t : List Nat) (w : World) (hr : RF w b (c :: t) false) :
    Calls Try.prog 85 #[.pointer (some ⟨b, 0, none⟩)] w (First b w c t) := by
  obtain ⟨v, h1, h2, h3, h4⟩ := hr
  obtain ⟨c0, c1, f0, f1⟩ := two_cells h1
  obtain ⟨xb, off, cap, hv, hcl, hcm, hx, hcell⟩ := h2.at (by simp)
  subst hv
  have hc : w.cell? ⟨xb, off, none⟩ = some (.int .u8 (c : Int)) := hcell 0 (by simp)
  have hl : (c :: t).length = t.length + 1 := rfl
  obtain ⟨T, hT⟩ : ∃ T, t.length = T := ⟨_, rfl⟩
  rw [hl, hT] at h1 h2 h3 hcl c0
  have HE := Lib.hid h1
  have H2 := Lib.hid h2
  have H3 := Lib.hid h3
  clear h1 h2 h3 h4 hcell
  have HTT := Lib.hid hT
  by_cases hcn : cap = 1
  · obtain rfl : T = 0 := by omega
    subst hcn
    go_enter Try.func85, Try.ntmps85
    go_wp2
    go_ret2
    exact firsts HE.out H2.out H3.out (.inr ⟨by simp [HTT.out], rfl⟩) (by simp [HTT.out]) (by simp) (by simp)
  · go_enter Try.func85, Try.ntmps85
    go_wp2
    go_ret2
    exact firsts HE.out H2.out H3.out (.inl rfl) (by simp [HTT.out]) (by omega) (by omega)
end Go.Proofs.Ytnhaakdjijjinaa

/- Walks of quill: the writer's methods. -/
import Derived.Test.YtnhaakdjijjinaaQuD
namespace Go.Proofs.Ytnhaakdjijjinaa
open Go.RowKit

/-- A slice of values that can be read. -/
def RV (w : World) (v : Value) (xs : List Value) : Prop :=
  xs.length ≤ 1000000 ∧ ∃ a cap, v = .slice a xs.length cap ∧ ∀ i, i < xs.length → ∃ b off, a = some ⟨b, off, none⟩ ∧ w.cell? ⟨b, off + i, none⟩ = some (xs.getD i .nilIface)
theorem RV.kept {w w' : World} {v : Value} {xs : List Value} (h : RV w v xs) (hb : Below w.heap.size w w') : RV w' v xs := by
  obtain ⟨h1, a, cap, hv, h2⟩ := h
  refine ⟨h1, a, cap, hv, fun i hi => ?_⟩
  obtain ⟨b, off, ha, hc⟩ := h2 i hi
  exact ⟨b, off, ha, by rw [hb.cell (cell_spot hc).2]; exact hc⟩
theorem rv_one (w : World) (b : Nat) (t : TypeId) (x : Value) (hb : b = w.heap.size) : RV (w.alloc (.cells #[x] t)) (.slice (some ⟨b, 0, none⟩) 1 1) [x] := by
  subst hb
  refine ⟨by simp, _, _, rfl, fun i hi => ⟨_, _, rfl, ?_⟩⟩
  obtain rfl : i = 0 := by simp at hi; omega
  simp

theorem Wrote.after {w w1 w' : World} {b base : Nat} {v : Value} {bs : List Nat} (hB : Below w.heap.size w w1) (h : Wrote b base v w1 bs w') : Wrote b base v w bs w' := by
  obtain ⟨v', h1, h2, h3⟩ := h
  exact ⟨v', h1, (Turn.below hB).trans (Moved.refl v w) h2, h3.later hB.size⟩

/-- The bytes of many, one behind the other. -/
def nums (ns : List Nat) : List Nat := (ns.map (num 0)).flatten
/-- The bytes of a number with a sign. -/
def intB (z : Int) : List Nat := if z < 0 then num 128 (-1 - z).toNat else num 0 z.toNat
def ints (zs : List Int) : List Nat := (zs.map intB).flatten
def flagB (x : Bool) : List Nat := if x then num 0 1 else num 0 0
def flags (l : List Bool) : List Nat := (l.map flagB).flatten
theorem flat_snoc {α : Type} (f : α → List Nat) (l : List α) (k : Nat) (d : α) (h : k < l.length) : ((l.take (k + 1)).map f).flatten = ((l.take k).map f).flatten ++ f (l.getD k d) := by
  have e : l.getD k d = l[k] := by simp [h]
  rw [List.take_succ_eq_append_getElem h, List.map_append, List.flatten_append, e]
  simp only [List.map_cons, List.map_nil, List.flatten_cons, List.flatten_nil, List.append_nil]
theorem flat_len {α : Type} (f : α → List Nat) (c : Nat) : ∀ (l : List α), (∀ x ∈ l, (f x).length ≤ c) → (l.map f).flatten.length ≤ c * l.length
  | [], _ => by simp
  | x :: l, h => by
    have h1 := h x (by simp)
    have h2 := flat_len f c l (fun y hy => h y (by simp [hy]))
    simp only [List.map_cons, List.flatten_cons, List.length_append, List.length_cons, Nat.mul_add, Nat.mul_one]
    omega
theorem flat_lt {α : Type} (f : α → List Nat) : ∀ (l : List α), (∀ x ∈ l, ∀ c ∈ f x, c < 256) → ∀ c ∈ (l.map f).flatten, c < 256 := by
  intro l h c hc
  simp only [List.mem_flatten, List.mem_map] at hc
  obtain ⟨_, ⟨x, hx, rfl⟩, hc⟩ := hc
  exact h x hx c hc
theorem num_len9 (s n : Nat) (h : n < 18446744073709551616) : (num s n).length ≤ 9 := by rw [num_len]; have := sz_le n h; omega
theorem num_lt' (s n : Nat) (hs : s ≤ 128) (h : n < 18446744073709551616) : ∀ c ∈ num s n, c < 256 := num_lt s n (by have := sz_le n h; omega)

set_option maxHeartbeats 1000000 in
theorem num_wr (b base : Nat) (v : Value) (bs : List Nat) (ns : List Nat) (x : Value) (w : World) (hw : WR w b base v bs) (hbl : bs.length ≤ 10000000) (hx : RV w x (ns.map fun n => .int .u64 ((n : Nat) : Int))) (hn : ∀ n ∈ ns, n < 18446744073709551616) :
    Calls Try.prog 49 #[.pointer (some ⟨b, 0, none⟩), x] w fun e w' => e = .returned (.tuple #[]) ∧ Wrote b base v w (bs ++ nums ns) w' := by
  obtain ⟨hlen, a, cap, rfl, hcell⟩ := hx
  simp only [List.length_map] at hlen hcell ⊢
  obtain ⟨len, hl⟩ : ∃ len, ns.length = len := ⟨_, rfl⟩
  rw [hl] at hlen hcell ⊢
  have hcase : ∀ k, k < len → ∃ b off, a = some ⟨b, off, none⟩ ∧ b < w.heap.size ∧ w.cell? ⟨b, off + k, none⟩ = some (.int .u64 ((ns.getD k 0 : Nat) : Int)) := by
    intro k hk
    obtain ⟨b, off, ha, hc⟩ := hcell k hk
    refine ⟨b, off, ha, (cell_spot hc).2, hc.trans ?_⟩
    simp [show k < ns.length by omega]
  have HL := Lib.hid hl
  have HS := Lib.hid hcase
  have HN := Lib.hid hn
  have HW := Lib.hid hw
  have HLN := Lib.hid hbl
  clear hw hbl
  have hl9 : ∀ k, k ≤ len → (nums (ns.take k)).length ≤ 9 * k := by
    intro k hk
    have := flat_len (num 0) 9 (ns.take k) (fun y hy => num_len9 0 y (hn y (List.mem_of_mem_take hy)))
    rw [List.length_take] at this
    unfold nums; omega
  have hlt9 : ∀ k, ∀ c ∈ nums (ns.take k), c < 256 := fun k => flat_lt (num 0) (ns.take k) (fun y hy => num_lt' 0 y (by omega) (hn y (List.mem_of_mem_take hy)))
  have H9 := Lib.hid hl9
  have HLT := Lib.hid hlt9
  clear hl hcell hcase hn hl9 hlt9
  go_enter Try.func49, Try.ntmps49
  go_wp2_with fail
  go_loopw [4, 8] (fun v i wr => ∃ k : Nat, k ≤ len ∧ i = .int .i64 k ∧ OB wr w.heap.size v (nums (ns.take k)) ∧ Below w.heap.size w wr) (fun _ i _ => len - (intOf i).toNat)
  case atStart => exact ⟨0, Nat.zero_le _, rfl, World.ownsRow_nil _ _ _ _, Below.refl _ _⟩
  case round =>
    obtain ⟨k, hk, rfl, ho, hW⟩ := hrel
    by_cases hlt : k < len
    · obtain ⟨b', off, rfl, hbs, hc⟩ := HS.out k hlt
      have hc' := (hW.cell (p := ⟨b', off + k, none⟩) hbs).trans hc
      have hlp : k < ns.length := by rw [HL.out]; exact hlt
      have HT := Lib.hid (flat_snoc (num 0) ns k 0 hlp)
      have HM := Lib.hid (HN.out (ns.getD k 0) (by simp [hlp]))
      obtain ⟨m, hm⟩ : ∃ m, ns.getD k 0 = m := ⟨_, rfl⟩
      rw [hm] at hc' HT HM
      clear hc hm hlp
      go_wp2_with (go_at_call 80; refine (number_any _ _ 0 m w.heap.size _ ho hW.size (by have := H9.out k hk; omega) (by omega) HM.out).mono ?_; rintro e w2 ⟨v2, rfl, ho2, hb2⟩)
      go_roundw
      case rel => exact ⟨k + 1, by omega, by go_num, by unfold nums; rw [HT.out]; exact ho2, hW.trans hb2⟩
      case measure => simp [intOf]; omega
    · obtain rfl : k = len := by omega
      have ht : ns.take k = ns := List.take_of_length_le (by rw [HL.out]; omega)
      have h9 := H9.out k hk
      have hlt9 := HLT.out k
      rw [ht] at ho h9 hlt9
      have hrb := ho.rb hlt9 (by omega)
      clear ho
      have HWK := Lib.hid (HW.out.kept hW)
      have HRB := Lib.hid hrb
      clear hrb hlt9 ht
      go_wp2_with (first
        | (go_at_call 81; refine (target_any _ _).mono ?_; rintro e w2 ⟨rfl, rfl⟩)
        | (go_at_call 89; refine (keep_any _ _ _ _ _ _ _ HWK.out HRB.out (by have := HLN.out; omega)).mono ?_; rintro e w2 ⟨rfl, hwr⟩))
      go_end0
      exact ⟨rfl, hwr.after hW⟩

set_option maxHeartbeats 1000000 in
theorem num_nil (ns : List Nat) (x : Value) (w : World) (hx : RV w x (ns.map fun n => .int .u64 ((n : Nat) : Int))) (hn : ∀ n ∈ ns, n < 18446744073709551616) :
    Calls Try.prog 49 #[.pointer none, x] w fun e w' => e = .returned (.tuple #[]) ∧ Below w.heap.size w w' := by
  obtain ⟨hlen, a, cap, rfl, hcell⟩ := hx
  simp only [List.length_map] at hlen hcell ⊢
  obtain ⟨len, hl⟩ : ∃ len, ns.length = len := ⟨_, rfl⟩
  rw [hl] at hlen hcell ⊢
  have hcase : ∀ k, k < len → ∃ b off, a = some ⟨b, off, none⟩ ∧ b < w.heap.size ∧ w.cell? ⟨b, off + k, none⟩ = some (.int .u64 ((ns.getD k 0 : Nat) : Int)) := by
    intro k hk
    obtain ⟨b, off, ha, hc⟩ := hcell k hk
    refine ⟨b, off, ha, (cell_spot hc).2, hc.trans ?_⟩
    simp [show k < ns.length by omega]
  have HL := Lib.hid hl
  have HS := Lib.hid hcase
  have HN := Lib.hid hn
  have hl9 : ∀ k, k ≤ len → (nums (ns.take k)).length ≤ 9 * k := by
    intro k hk
    have := flat_len (num 0) 9 (ns.take k) (fun y hy => num_len9 0 y (hn y (List.mem_of_mem_take hy)))
    rw [List.length_take] at this
    unfold nums; omega
  have hlt9 : ∀ k, ∀ c ∈ nums (ns.take k), c < 256 := fun k => flat_lt (num 0) (ns.take k) (fun y hy => num_lt' 0 y (by omega) (hn y (List.mem_of_mem_take hy)))
  have H9 := Lib.hid hl9
  have HLT := Lib.hid hlt9
  clear hl hcell hcase hn hl9 hlt9
  go_enter Try.func49, Try.ntmps49
  go_wp2_with fail
  go_loopw [4, 8] (fun v i wr => ∃ k : Nat, k ≤ len ∧ i = .int .i64 k ∧ OB wr w.heap.size v (nums (ns.take k)) ∧ Below w.heap.size w wr) (fun _ i _ => len - (intOf i).toNat)
  case atStart => exact ⟨0, Nat.zero_le _, rfl, World.ownsRow_nil _ _ _ _, Below.refl _ _⟩
  case round =>
    obtain ⟨k, hk, rfl, ho, hW⟩ := hrel
    by_cases hlt : k < len
    · obtain ⟨b', off, rfl, hbs, hc⟩ := HS.out k hlt
      have hc' := (hW.cell (p := ⟨b', off + k, none⟩) hbs).trans hc
      have hlp : k < ns.length := by rw [HL.out]; exact hlt
      have HT := Lib.hid (flat_snoc (num 0) ns k 0 hlp)
      have HM := Lib.hid (HN.out (ns.getD k 0) (by simp [hlp]))
      obtain ⟨m, hm⟩ : ∃ m, ns.getD k 0 = m := ⟨_, rfl⟩
      rw [hm] at hc' HT HM
      clear hc hm hlp
      go_wp2_with (go_at_call 80; refine (number_any _ _ 0 m w.heap.size _ ho hW.size (by have := H9.out k hk; omega) (by omega) HM.out).mono ?_; rintro e w2 ⟨v2, rfl, ho2, hb2⟩)
      go_roundw
      case rel => exact ⟨k + 1, by omega, by go_num, by unfold nums; rw [HT.out]; exact ho2, hW.trans hb2⟩
      case measure => simp [intOf]; omega
    · obtain rfl : k = len := by omega
      have ht : ns.take k = ns := List.take_of_length_le (by rw [HL.out]; omega)
      have h9 := H9.out k hk
      have hlt9 := HLT.out k
      rw [ht] at ho h9 hlt9
      have hrb := ho.rb hlt9 (by omega)
      clear ho
      clear hrb hlt9 ht
      go_wp2_with (first
        | (go_at_call 81; refine (target_nil _).mono ?_; rintro e w2 ⟨rfl, rfl⟩)
        | (go_at_call 88; refine (drop_any _ _).mono ?_; rintro e w2 ⟨rfl, rfl⟩))
      go_end0
      exact ⟨rfl, hW⟩
end Go.Proofs.Ytnhaakdjijjinaa

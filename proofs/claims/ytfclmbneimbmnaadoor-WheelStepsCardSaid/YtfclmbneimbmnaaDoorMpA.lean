/- The ring's own map: where the thing of each ID waits. -/
import Derived.Test.YtfclmbneimbmnaaDoorRows
import Derived.Maps.Own
import Derived.Maps.OwnSet
import Derived.Maps.Views
import Derived.WalkKit
namespace Go.Proofs.YtfclmbneimbmnaaDoor
open Go.RowKit Go.Maps Go.ChangeMaps

/-- A place (slot, index) as a datum. -/
def plD (s i : Nat) : DataW Unit := .agg [.lit (.int .i64 s), .lit (.int .i64 i)]
def plV (s i : Nat) : Value := .agg #[.int .i64 s, .int .i64 i]
def plR (v : Value) : Option (DataW Unit × List MemPlace) :=
  match v with
  | .agg xs => match xs.toList with
    | [.int .i64 a, .int .i64 b] => if 0 ≤ a ∧ 0 ≤ b then some (plD a.toNat b.toNat, []) else none
    | _ => none
  | _ => none
theorem plR_mk (s i : Nat) : plR (plV s i) = some (plD s i, []) := by
  simp [plR, plV]
theorem plD_inj {s i s' i' : Nat} (h : plD s i = plD s' i') : s = s' ∧ i = i' := by
  unfold plD at h
  simp only [DataW.agg.injEq, List.cons.injEq, DataW.lit.injEq, Lit.int.injEq] at h
  omega
theorem plR_inv {v : Value} {s i : Nat} {ps : List MemPlace} (h : plR v = some (plD s i, ps)) : v = plV s i := by
  unfold plR at h
  split at h
  · rename_i xs
    split at h
    · rename_i a b hx
      split at h
      · rename_i hab
        simp only [Option.some.injEq, Prod.mk.injEq] at h
        obtain ⟨e1, e2⟩ := plD_inj h.1
        obtain ⟨xs⟩ := xs
        simp only at hx
        subst hx
        unfold plV
        rw [← e1, ← e2, Int.toNat_of_nonneg hab.1, Int.toNat_of_nonneg hab.2]
      · cases h
    · cases h
  · cases h

abbrev kU : TypeId := 25
abbrev tPl : TypeId := 182
abbrev tMp : TypeId := 137
theorem keyedU : Maps.Keyed Tryd.prog kU := int_keyed Tryd.underlying25
theorem undMp : Tryd.prog.underlying tMp = some (.map kU tPl) := Tryd.underlying137
theorem zeroPl (w : World) : (zeroValue tPl).run Tryd.prog w = .ok (plV 0 0) w := Tryd.zeroValue182 w
theorem u64_wf {id : Int} (h : 0 ≤ id ∧ id < 18446744073709551616) : (Lit.int .u64 id).wf = true := by
  have h1 : IntKind.u64.min = 0 := by decide
  have h2 : IntKind.u64.max = 18446744073709551615 := by decide
  simp only [Lit.wf, h1, h2, Bool.and_eq_true, decide_eq_true_eq]
  omega
theorem keyU {id : Int} (h : 0 ≤ id ∧ id < 18446744073709551616) : keyOf Tryd.prog kU (.int .u64 id) = some (.int .u64 id) := by
  exact keyOf_int_mk Tryd.underlying25 (u64_wf h)

/-- Block b is a map that bears c places, M. -/
def Pl (w : World) (b c : Nat) (M : Int → Option (Nat × Nat)) : Prop :=
  ∃ D : DataW Unit, w.ownsMap Tryd.prog kU plR b c D ∧ Maps.size D = c ∧ ∀ id, match M id with
    | some (s, i) => Maps.has D (.int .u64 id) = true ∧ ∀ z, D.atKey (.int .u64 id) z = plD s i
    | none => Maps.has D (.int .u64 id) = false

theorem Pl.lt {w : World} {b c : Nat} {M : Int → Option (Nat × Nat)} (h : Pl w b c M) : b < w.heap.size := by
  obtain ⟨D, h, _⟩ := h
  exact h.lt

theorem Pl.block {w w' : World} {b c : Nat} {M : Int → Option (Nat × Nat)} (h : Pl w b c M) (hb : w'.heap[b]? = w.heap[b]?) : Pl w' b c M := by
  obtain ⟨D, ⟨es, clock, h1, h2⟩, h3⟩ := h
  exact ⟨D, ⟨es, clock, hb.trans h1, h2⟩, h3⟩

theorem Pl.made (w : World) : Pl (w.alloc (.map #[] 0)) w.heap.size 0 (fun _ => none) :=
  ⟨.map [], World.ownsMap_made w Tryd.prog kU plR, rfl, fun id => Maps.has_false_of_atKey (fun z => by simp [DataW.atKey])⟩

theorem Pl.tight {w : World} {b n : Nat} {D : DataW Unit} (h : w.ownsMap Tryd.prog kU plR b n D) : w.ownsMap Tryd.prog kU plR b (Maps.size D) D := by
  obtain ⟨es, clock, h1, h2, h3, rfl⟩ := h
  refine ⟨es, clock, h1, h2, ?_, rfl⟩
  simp [Maps.size, length_sorted]

/-- Where an ID waits, or that it does not. -/
theorem Pl.look {w : World} {b c : Nat} {M : Int → Option (Nat × Nat)} (h : Pl w b c M) {id : Int} (hid : 0 ≤ id ∧ id < 18446744073709551616) :
    ∃ s i, (Instr.lookup tMp (.map (some b)) (.int .u64 id) true).run Tryd.prog w = .ok (.tuple #[plV s i, .bool (M id).isSome]) w ∧ ∀ p, M id = some p → p = (s, i) := by
  obtain ⟨D, hO, _, hM⟩ := h
  obtain ⟨v, ps, hrun, hv⟩ := hO.look_ok keyedU undMp (zeroPl w) (plR_mk 0 0) (keyU hid)
  have := hM id
  cases e : M id with
  | none =>
    rw [e] at this
    simp only at this
    rw [Maps.atKey_of_not_has this] at hv
    rw [this] at hrun
    exact ⟨0, 0, by rw [plR_inv hv] at hrun; exact hrun, fun p hp => by cases hp⟩
  | some p =>
    obtain ⟨s, i⟩ := p
    rw [e] at this
    simp only at this
    rw [this.2] at hv
    rw [this.1] at hrun
    exact ⟨s, i, by rw [plR_inv hv] at hrun; exact hrun, fun p hp => by cases hp; rfl⟩

theorem Pl.look_none {w : World} {b c : Nat} {M : Int → Option (Nat × Nat)} (h : Pl w b c M) {id : Int} (hid : 0 ≤ id ∧ id < 18446744073709551616) (hM : M id = none) :
    (Instr.lookup tMp (.map (some b)) (.int .u64 id) true).run Tryd.prog w = .ok (.tuple #[.agg #[.int .i64 0, .int .i64 0], .bool false]) w := by
  obtain ⟨D, hO, _, hD⟩ := h
  obtain ⟨v, ps, hrun, hv⟩ := hO.look_ok keyedU undMp (zeroPl w) (plR_mk 0 0) (keyU hid)
  have := hD id
  rw [hM] at this
  simp only at this
  rw [Maps.atKey_of_not_has this] at hv
  rw [this, plR_inv hv] at hrun
  exact hrun

theorem Pl.look_some {w : World} {b c s i : Nat} {M : Int → Option (Nat × Nat)} (h : Pl w b c M) {id : Int} (hid : 0 ≤ id ∧ id < 18446744073709551616) (hM : M id = some (s, i)) :
    (Instr.lookup tMp (.map (some b)) (.int .u64 id) true).run Tryd.prog w = .ok (.tuple #[.agg #[.int .i64 s, .int .i64 i], .bool true]) w := by
  obtain ⟨D, hO, _, hD⟩ := h
  obtain ⟨v, ps, hrun, hv⟩ := hO.look_ok keyedU undMp (zeroPl w) (plR_mk 0 0) (keyU hid)
  have := hD id
  rw [hM] at this
  simp only at this
  rw [this.2] at hv
  rw [this.1, plR_inv hv] at hrun
  exact hrun

theorem Pl.len {w : World} {b c : Nat} {M : Int → Option (Nat × Nat)} (h : Pl w b c M) (ty : TypeId) : (Builtin.len_ #[tMp] ty #[.map (some b)]).run Tryd.prog w = .ok (.int .i64 c) w := by
  obtain ⟨D, hO, hc, _⟩ := h
  rw [← hc]
  exact hO.len undMp ty

def updM (M : Int → Option (Nat × Nat)) (id : Int) (p : Option (Nat × Nat)) : Int → Option (Nat × Nat) := fun x => if x = id then p else M x

/-- What a store says of the map. -/
theorem Pl.put {w : World} {b c : Nat} {M : Int → Option (Nat × Nat)} (h : Pl w b c M) {id : Int} (hid : 0 ≤ id ∧ id < 18446744073709551616) (hc : c < maxLen) (s i : Nat) :
    ∃ w', (Instr.mapUpdate tMp (.map (some b)) (.int .u64 id) (plV s i)).run Tryd.prog w = .ok () w' ∧ Pl w' b (if (M id).isSome then c else c + 1) (updM M id (some (s, i))) ∧ w.mapTurned w' b := by
  obtain ⟨D, hO, hs, hM⟩ := h
  obtain ⟨w', hrun, hO', ht⟩ := hO.store keyedU undMp hc (keyU hid) (plR_mk s i)
  refine ⟨w', hrun, ⟨D.put (.int .u64 id) (plD s i), ?_, ?_, ?_⟩, ht⟩
  · have := Pl.tight hO'
    rw [Maps.size_put (hO.tidy keyedU)] at this
    have hi := hM id
    cases e : M id with
    | none =>
      rw [e] at hi; simp only at hi
      rw [hi] at this; simp only [Option.isSome_none, Bool.false_eq_true, if_false] at this ⊢
      rw [hs] at this; exact this
    | some p =>
      rw [e] at hi; simp only at hi
      rw [hi.1] at this; simp only [Option.isSome_some, if_true] at this ⊢
      rw [hs] at this; exact this
  · rw [Maps.size_put (hO.tidy keyedU)]
    have hi := hM id
    cases e : M id with
    | none => rw [e] at hi; simp only at hi; rw [hi, hs]; simp
    | some p => rw [e] at hi; simp only at hi; rw [hi.1, hs]; simp
  · intro x
    unfold updM
    by_cases hx : x = id
    · subst hx
      rw [if_pos rfl]
      exact ⟨Maps.has_put_same hO.isMap (k := .int .u64 x) (show WideAt.IsKeyLit (.int .u64 x) from True.intro) _, fun z => Maps.atKey_put_same hO.isMap (k := .int .u64 x) (show WideAt.IsKeyLit (.int .u64 x) from True.intro) _ _⟩
    · rw [if_neg hx]
      have hne : (Lit.int .u64 x) ≠ .int .u64 id := fun h => hx (by injection h)
      have hi := hM x
      rw [Maps.has_put_other hne]
      cases e : M x with
      | none => rw [e] at hi; exact hi
      | some p => rw [e] at hi; exact ⟨hi.1, fun z => by rw [Maps.atKey_put_other hne]; exact hi.2 z⟩

/-- What a delete says of it. -/
theorem Pl.del {w : World} {b c : Nat} {M : Int → Option (Nat × Nat)} (h : Pl w b c M) {id : Int} (hid : 0 ≤ id ∧ id < 18446744073709551616) (ty : TypeId) :
    ∃ w', (Builtin.delete_ #[tMp, kU] ty #[.map (some b), .int .u64 id]).run Tryd.prog w = .ok (.tuple #[]) w' ∧ Pl w' b (if (M id).isSome then c - 1 else c) (updM M id none) ∧ w.mapTurned w' b := by
  obtain ⟨D, hO, hs, hM⟩ := h
  obtain ⟨w', hrun, hO', ht⟩ := hO.drop keyedU undMp (keyU hid) ty
  have hd := Maps.size_del (k := .int .u64 id) (hO.tidy keyedU)
  have hcs : Maps.size (D.del (.int .u64 id)) = if (M id).isSome then c - 1 else c := by
    have hi := hM id
    cases e : M id with
    | none => rw [e] at hi; simp only at hi; rw [hi] at hd; simp at hd ⊢; omega
    | some p => rw [e] at hi; simp only at hi; rw [hi.1] at hd; simp at hd ⊢; omega
  refine ⟨w', hrun, ⟨D.del (.int .u64 id), ?_, hcs, ?_⟩, ht⟩
  · rw [← hcs]; exact Pl.tight hO'
  · intro x
    unfold updM
    by_cases hx : x = id
    · subst hx; rw [if_pos rfl]; exact Maps.has_del_same
    · rw [if_neg hx]
      have hne : (Lit.int .u64 x) ≠ .int .u64 id := fun h => hx (by injection h)
      have hi := hM x
      rw [Maps.has_del_other hne]
      cases e : M x with
      | none => rw [e] at hi; exact hi
      | some p => rw [e] at hi; exact ⟨hi.1, fun z => by rw [Maps.atKey_del_other hne]; exact hi.2 z⟩
end Go.Proofs.YtfclmbneimbmnaaDoor

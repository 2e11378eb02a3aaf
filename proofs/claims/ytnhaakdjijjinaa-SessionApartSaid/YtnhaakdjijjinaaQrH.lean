/- Both readers, one thing read. -/
import Derived.Test.YtnhaakdjijjinaaQrC
import Derived.Test.YtnhaakdjijjinaaQa2
import Derived.Deep.RegionWith
namespace Go.Proofs.Ytnhaakdjijjinaa
open Go.RowKit

/-- Bytes don't lie in a block that holds a slice and a flag. -/
theorem RB.beyond {w w' : World} {b' : Nat} {v v' : Value} {ds es : List Nat} {bad' : Bool} {t : TypeId} (h2 : RB w v ds) (k1 : w.heap[b']? = some (.cells #[v', .bool bad'] t (0, 0))) (k2 : RB w v' es) (ht : Rd b' w w') : RB w' v ds := by
  obtain ⟨g1, g2, g3⟩ := h2
  refine ⟨g1, g2, ?_⟩
  rcases g3 with g3 | ⟨x, cap, hv, ha, hm, hc⟩
  · exact .inl g3
  · refine .inr ⟨x, cap, hv, ha, hm, fun i hi => ?_⟩
    have hb : (x.add i).block ≠ b' := by
      intro e
      have hci := hc i hi
      obtain ⟨e2, _⟩ := cell_spot hci
      rw [e2, e] at hci
      unfold World.cell? at hci
      simp only [k1] at hci
      have : (#[v', Value.bool bad'] : Array Value)[(x.add i).off]? = some (Value.int .u8 ((ds.getD i 0 : Nat) : Int)) := by simpa using hci
      rcases h0 : (x.add i).off with _ | _ | k
      · rw [h0] at this
        simp at this
        obtain ⟨a, n, c, hv'⟩ : ∃ a n c, v' = .slice a n c := by
          obtain ⟨a, cap, hq, _, _⟩ := k2.shape
          exact ⟨_, _, _, hq⟩
        rw [hv'] at this
        cases this
      · rw [h0] at this; simp at this
      · rw [h0] at this; simp at this
    rw [ht.cell (p := x.add i) (cell_spot (hc i hi)).2 hb (by simp [Value.ownBlock])]
    exact hc i hi
theorem RF.besides {w w' : World} {b c : Nat} {ds es : List Nat} {bad bad' : Bool} (h : RF w c ds bad) (h' : RR w b es bad') (ht : Rd b w w') (hne : c ≠ b) : RF w' c ds bad := by
  obtain ⟨v, h1, h2, h3, h4⟩ := h
  obtain ⟨v', k1, k2, _⟩ := h'
  exact ⟨v, (ht.block c (lt_of_block h1) hne (by simp [Value.ownBlock])).trans h1, h2.beyond k1 k2 ht, h3, h4⟩
theorem RR.besides {w w' : World} {b c : Nat} {ds es : List Nat} {bad bad' : Bool} (h : RR w b ds bad) (h' : RF w c es bad') (ht : Rd c w w') (hne : b ≠ c) : RR w' b ds bad := by
  obtain ⟨v, h1, h2, h3, h4⟩ := h
  obtain ⟨v', k1, k2, _⟩ := h'
  exact ⟨v, (ht.block b (lt_of_block h1) hne (by simp [Value.ownBlock])).trans h1, h2.beyond k1 k2 ht, h3, h4⟩
/-- Both readers, alike. -/
def Two (w : World) (b c : Nat) (ds : List Nat) (bad : Bool) : Prop := RR w b ds bad ∧ RF w c ds bad ∧ b ≠ c
theorem Two.kept {w w' : World} {b c : Nat} {ds : List Nat} {bad : Bool} (h : Two w b c ds bad) (hb : Below w.heap.size w w') : Two w' b c ds bad := ⟨h.1.kept hb, h.2.1.kept hb, h.2.2⟩
/-- The program's reader has read; the other follows. -/
theorem Two.both {w w1 : World} {b c : Nat} {ds : List Nat} {bad : Bool} {z : Value} {r : Option (Value × List Nat)} {e1 : Ending} (h : Two w b c ds bad) (h1 : Got b w z r e1 w1) :
    ∃ v ds' bad', e1 = .returned v ∧ (v = z ∨ ∃ rest, r = some (v, rest)) ∧ (r = none ∧ ds' = [] ∨ ∃ v', r = some (v', ds')) ∧ RF w1 c ds bad ∧ Rd b w w1 ∧ ∀ e2 w2, GotF c w1 z r e2 w2 → e2 = .returned v ∧ Two w2 b c ds' bad' ∧ Rd c w1 w2 := by
  obtain ⟨hr, hf, hne⟩ := h
  cases r with
  | none =>
    obtain ⟨he, hr1, ht1⟩ := h1.1 rfl
    have hf1 := hf.besides hr ht1 (fun e => hne e.symm)
    refine ⟨z, [], true, he, .inl rfl, .inl ⟨rfl, rfl⟩, hf1, ht1, fun e2 w2 h2 => ?_⟩
    obtain ⟨he2, hf2, ht2⟩ := h2.1 rfl
    exact ⟨he2, ⟨hr1.besides hf1 ht2 hne, hf2, hne⟩, ht2⟩
  | some p =>
    obtain ⟨v, rest⟩ := p
    obtain ⟨he, hr1, ht1⟩ := h1.2 v rest rfl
    have hf1 := hf.besides hr ht1 (fun e => hne e.symm)
    refine ⟨v, rest, false, he, .inr ⟨rest, rfl⟩, .inr ⟨v, rfl⟩, hf1, ht1, fun e2 w2 h2 => ?_⟩
    obtain ⟨he2, hf2, ht2⟩ := h2.2 v rest rfl
    exact ⟨he2, ⟨hr1.besides hf1 ht2 hne, hf2, hne⟩, ht2⟩
/-- What read hands back. -/
def ReadTwo (b c : Nat) (w : World) (ds : List Nat) (e : Ending) (w' : World) : Prop :=
  e = .returned (.bool true) ∧ ∃ ds' bad', Two w' b c ds' bad' ∧ ds'.length ≤ ds.length ∧ ∀ (B : Nat) (W : World), Below B W w → B ≤ w.heap.size → B ≤ b → B ≤ c → Below B W w'
end Go.Proofs.Ytnhaakdjijjinaa

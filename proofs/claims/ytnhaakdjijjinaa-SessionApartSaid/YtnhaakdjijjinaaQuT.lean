/- What two readers and two writers leave of each other. -/
import Derived.Test.YtnhaakdjijjinaaQuS
namespace Go.Proofs.Ytnhaakdjijjinaa
open Go.RowKit

/-- A reader's bytes don't lie in another's block. -/
theorem RR.other {w w' : World} {b b' : Nat} {ds es : List Nat} {bad bad' : Bool} (h : RR w b ds bad) (h' : RR w b' es bad') (ht : Rd b' w w') (hne : b ≠ b') : RR w' b ds bad := by
  obtain ⟨v, h1, h2, h3, h4⟩ := h
  obtain ⟨v', k1, k2, _⟩ := h'
  refine ⟨v, (ht.block b (lt_of_block h1) hne (by simp [Value.ownBlock])).trans h1, ?_, h3, h4⟩
  obtain ⟨g1, g2, g3⟩ := h2
  refine ⟨g1, g2, ?_⟩
  rcases g3 with g3 | ⟨x, cap, hv, ha, hm, hc⟩
  · exact .inl g3
  · refine .inr ⟨x, cap, hv, ha, hm, fun i hi => ?_⟩
    have hb : (x.add i).block ≠ b' := by
      intro e
      have hci := hc i hi
      obtain ⟨e2, _⟩ := cell_spot hci
      rw [e2, e] at hci
      unfold World.cell? at hci
      simp only [k1] at hci
      have : (#[v', Value.bool bad'] : Array Value)[(x.add i).off]? = some (Value.int .u8 ((ds.getD i 0 : Nat) : Int)) := by simpa using hci
      rcases h0 : (x.add i).off with _ | _ | k
      · rw [h0] at this
        simp at this
        obtain ⟨a, n, c, hv'⟩ : ∃ a n c, v' = .slice a n c := by
          obtain ⟨a, cap, hq, _, _⟩ := k2.shape
          exact ⟨_, _, _, hq⟩
        rw [hv'] at this
        cases this
      · rw [h0] at this; simp at this
      · rw [h0] at this; simp at this
    rw [ht.cell (p := x.add i) (cell_spot (hc i hi)).2 hb (by simp [Value.ownBlock])]
    exact hc i hi
theorem WR.other {w w' : World} {b b2 base : Nat} {v v2 : Value} {bs : List Nat} (h : WR w b base v bs) (ht : Turn b2 v2 w w') (hne : b ≠ b2) (h1 : v.ownBlock ≠ some b2) (h2 : v2.ownBlock ≠ some b) (h3 : ∀ k, v.ownBlock = some k → v2.ownBlock ≠ some k) : WR w' b base v bs := by
  obtain ⟨g1, g2, g3, g4, g5⟩ := h
  refine ⟨(ht.block b (lt_of_block g1) hne (fun e => h2 e.symm)).trans g1, g2, Nat.le_trans g3 ht.size, ?_, g5⟩
  obtain ⟨k1, k2⟩ := g4
  refine ⟨k1, ?_⟩
  rcases k2 with k2 | ⟨g, cap, cur, hv, hg, hh, r⟩
  · exact .inl k2
  · refine .inr ⟨g, cap, cur, hv, hg, ?_, r⟩
    have hvb : v.ownBlock = some g := by rw [hv]; rfl
    rw [ht.block g (Array.getElem?_eq_some_iff.mp hh).1 (fun e => h1 (by rw [hvb, e])) (fun e => h3 g hvb e.symm)]
    exact hh
/-- Num's reading, whatever it is. -/
theorem num_once (b : Nat) (ds : List Nat) (w : World) (hr : RR w b ds false) :
    Calls Try.prog 54 #[.pointer (some ⟨b, 0, none⟩), .int .u64 18446744073709551615] w fun e w' => ∃ n rest bad, e = .returned (.int .u64 ((n : Nat) : Int)) ∧ RR w' b rest bad ∧ Rd b w w' ∧ n < 18446744073709551616 ∧ (bad = false → ds = num 0 n ++ rest) := by
  have hlt : ∀ c ∈ ds, c < 256 := by obtain ⟨v, _, h2, _⟩ := hr; exact h2.1
  have hn := num_rd b 18446744073709551615 ds false w hr
  have e : ((18446744073709551615 : Nat) : Int) = 18446744073709551615 := rfl
  rw [e] at hn
  refine hn.mono fun e w' h => ?_
  cases hq : rNum 18446744073709551615 ds with
  | none =>
    rw [hq] at h
    obtain ⟨h1, h2, h3⟩ := h.1 rfl
    exact ⟨0, [], true, h1, h2, h3, by omega, by simp⟩
  | some p =>
    obtain ⟨n, rest⟩ := p
    rw [hq] at h
    obtain ⟨h1, h2, h3⟩ := h.2 _ _ rfl
    unfold rNum at hq
    cases hp : rnum ds with
    | none => rw [hp] at hq; simp at hq
    | some q =>
      obtain ⟨m, bl, r⟩ := q
      rw [hp] at hq
      cases bl with
      | true => simp at hq
      | false =>
        obtain ⟨hx, hy⟩ := rnum_enc hp hlt
        have hm : m = n ∧ r = rest := by
          by_cases hle : m ≤ 18446744073709551615
          · simpa [hle] using hq
          · simp [hle] at hq
        obtain ⟨rfl, rfl⟩ := hm
        exact ⟨m, r, false, h1, h2, h3, hy, fun _ => by simpa using hx⟩
/-- Int's reading, whatever it is. -/
theorem int_once (b : Nat) (ds : List Nat) (w : World) (hr : RR w b ds false) :
    Calls Try.prog 56 #[.pointer (some ⟨b, 0, none⟩)] w fun e w' => ∃ n rest bad, e = .returned (.int .i64 n) ∧ RR w' b rest bad ∧ Rd b w w' ∧ -9223372036854775808 ≤ n ∧ n ≤ 9223372036854775807 ∧ (bad = false → ds = intB n ++ rest) := by
  have hlt : ∀ c ∈ ds, c < 256 := by obtain ⟨v, _, h2, _⟩ := hr; exact h2.1
  refine (int_rd b ds false w hr).mono fun e w' h => ?_
  cases hp : rnum ds with
  | none =>
    rw [rInt_none hp] at h
    obtain ⟨h1, h2, h3⟩ := h.1 rfl
    exact ⟨0, [], true, h1, h2, h3, by omega, by omega, by simp⟩
  | some q =>
    obtain ⟨m, bl, r⟩ := q
    by_cases hle : m ≤ 9223372036854775807
    · rw [rInt_some hp hle] at h
      obtain ⟨h1, h2, h3⟩ := h.2 _ _ rfl
      obtain ⟨hx, _⟩ := rnum_enc hp hlt
      refine ⟨_, r, false, h1, h2, h3, ?_, ?_, fun _ => ?_⟩
      · cases bl <;> simp <;> omega
      · cases bl <;> simp <;> omega
      · cases bl with
        | true =>
          have e : intB (-1 - (m : Int)) = num 128 m := by
            unfold intB
            rw [if_pos (by omega)]
            congr 1
            omega
          simpa [e] using hx
        | false =>
          have e : intB (m : Int) = num 0 m := by
            unfold intB
            rw [if_neg (by omega), Int.toNat_natCast]
          simpa [e] using hx
    · rw [rInt_big hp hle] at h
      obtain ⟨h1, h2, h3⟩ := h.1 rfl
      exact ⟨0, [], true, h1, h2, h3, by omega, by omega, by simp⟩
end Go.Proofs.Ytnhaakdjijjinaa

/- Both readers, one thing read: Raw. -/
import Derived.Test.YtkeloeppploiaaaQrL
namespace Go.Proofs.Ytkeloeppploiaaa
open Go.RowKit

/-- What Raw reads, what is left, and whether it is bad. -/
def rawX (n : Int) (ds : List Nat) (bad : Bool) : List Nat × List Nat × Bool := if n < 0 ∨ (ds.length : Int) < n then ([], [], true) else (ds.take n.toNat, ds.drop n.toNat, bad)
theorem rawX_len (n : Int) (ds : List Nat) (bad : Bool) : (rawX n ds bad).2.1.length ≤ ds.length := by
  unfold rawX; split
  · simp
  · simp only [List.length_drop]; omega
theorem raw_rr (b : Nat) (n : Int) (ds : List Nat) (bad : Bool) (w : World) (hr : RR w b ds bad) (h63 : n ≤ 9223372036854775807) (hl : ds.length ≤ 3000) :
    Calls Try.prog 30 #[.pointer (some ⟨b, 0, none⟩), .int .i64 n] w fun e w' => ∃ v, e = .returned v ∧ RB w' v (rawX n ds bad).1 ∧ RR w' b (rawX n ds bad).2.1 (rawX n ds bad).2.2 ∧ Rd b w w' := by
  by_cases hn : n < 0
  · have e : rawX n ds bad = ([], [], true) := by unfold rawX; rw [if_pos (.inl hn)]
    rw [e]
    exact (raw_neg b n ds bad w hr hn).mono fun e w' ⟨h1, h2, h3⟩ => ⟨_, h1, RB.nil _, h2, h3⟩
  · obtain ⟨m, rfl⟩ : ∃ m : Nat, n = (m : Int) := ⟨n.toNat, by omega⟩
    by_cases ho : ds.length < m
    · have e : rawX (m : Int) ds bad = ([], [], true) := by unfold rawX; rw [if_pos (.inr (by omega))]
      rw [e]
      exact (raw_over b m ds bad w hr ho (by omega)).mono fun e w' ⟨h1, h2, h3⟩ => ⟨_, h1, RB.nil _, h2, h3⟩
    · have e : rawX (m : Int) ds bad = (ds.take m, ds.drop m, bad) := by unfold rawX; rw [if_neg (by omega), Int.toNat_natCast]
      rw [e]
      exact (raw_yes b m ds bad w hr (by omega) (by omega)).mono fun e w' h => h
theorem raw_rf (b : Nat) (n : Int) (ds : List Nat) (bad : Bool) (w : World) (hr : RF w b ds bad) (hl : ds.length ≤ 3000) :
    Calls Try.prog 53 #[.pointer (some ⟨b, 0, none⟩), .int .i64 n] w fun e w' => ∃ v, e = .returned v ∧ RB w' v (rawX n ds bad).1 ∧ RF w' b (rawX n ds bad).2.1 (rawX n ds bad).2.2 ∧ Rd b w w' := by
  by_cases hn : n < 0
  · have e : rawX n ds bad = ([], [], true) := by unfold rawX; rw [if_pos (.inl hn)]
    rw [e]
    exact (rawf_neg b n ds bad w hr hn).mono fun e w' ⟨h1, h2, h3⟩ => ⟨_, h1, RB.nil _, h2, h3⟩
  · obtain ⟨m, rfl⟩ : ∃ m : Nat, n = (m : Int) := ⟨n.toNat, by omega⟩
    by_cases ho : ds.length < m
    · have e : rawX (m : Int) ds bad = ([], [], true) := by unfold rawX; rw [if_pos (.inr (by omega))]
      rw [e]
      exact (rawf_over b m ds bad w hr ho).mono fun e w' ⟨h1, h2, h3⟩ => ⟨_, h1, RB.nil _, h2, h3⟩
    · have e : rawX (m : Int) ds bad = (ds.take m, ds.drop m, bad) := by unfold rawX; rw [if_neg (by omega), Int.toNat_natCast]
      rw [e]
      exact (rawf_yes b m ds bad w hr (by omega) (by omega)).mono fun e w' h => h
end Go.Proofs.Ytkeloeppploiaaa

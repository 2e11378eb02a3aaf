/- Commands: the law of what may be and what is the same. -/
import Derived.Test.YtibjboacjobaoaaNkQ
import Derived.Test.YtibjboacjobaoaaNkU
import Derived.Test.YtibjboacjobaoaaNkV
namespace Go.Proofs.Ytibjboacjobaoaa
open Go.RowKit
theorem ctells_walk (kd cl rq id cn tm off : Int) (a : Option Addr) (n ca : Nat) (b : Option Addr) (m cb : Nat) (tc : Int) (d : Option Addr) (l cd : Nat) (tr tb : Int) (F T G U B P : Nat → Int) (kd' cl' rq' id' cn' tm' off' : Int) (a' : Option Addr) (n' ca' : Nat) (b' : Option Addr) (m' cb' : Nat) (tc' : Int) (d' : Option Addr) (l' cd' : Nat) (tr' tb' : Int) (F' T' G' U' B' P' : Nat → Int) (kind : Int) (w : World) (h1 : CmdIn w kd cl rq id cn tm off a n b m tc d l tr tb F T G U B P) (h2 : CmdIn w kd' cl' rq' id' cn' tm' off' a' n' b' m' tc' d' l' tr' tb' F' T' G' U' B' P') :
    Calls Try.prog 3 #[cmdV kd cl rq id cn tm off a n ca b m cb tc d l cd tr tb, cmdV kd' cl' rq' id' cn' tm' off' a' n' ca' b' m' cb' tc' d' l' cd' tr' tb', .int .i64 kind] w fun e w' => e = .returned (.bool true) ∧ Below w.heap.size w w' := by
  obtain ⟨hS, hR, hD, -⟩ := h1
  obtain ⟨hS', hR', hD', -⟩ := h2
  obtain ⟨l1, hl1⟩ : ∃ x, (decide (n ≤ 60 ∧ m ≤ 60) && decide ((l : Int) ≤ 60)) = x := ⟨_, rfl⟩
  obtain ⟨l2, hl2⟩ : ∃ x, (decide (n' ≤ 60 ∧ m' ≤ 60) && decide ((l' : Int) ≤ 60)) = x := ⟨_, rfl⟩
  cases l1
  · exact ctells_skip kd cl rq id cn tm off a n ca b m cb tc d l cd tr tb F T G U B P kd' cl' rq' id' cn' tm' off' a' n' ca' b' m' cb' tc' d' l' cd' tr' tb' F' T' G' U' B' P' kind w hS hR hD hS' hR' hD' (by rw [hl1, Bool.false_and])
  cases l2
  · exact ctells_skip kd cl rq id cn tm off a n ca b m cb tc d l cd tr tb F T G U B P kd' cl' rq' id' cn' tm' off' a' n' ca' b' m' cb' tc' d' l' cd' tr' tb' F' T' G' U' B' P' kind w hS hR hD hS' hR' hD' (by rw [hl2, Bool.and_false])
  by_cases hk1 : 1 ≤ kind
  · by_cases hk2 : kind ≤ 12
    · exact ctells_in kd cl rq id cn tm off a n ca b m cb tc d l cd tr tb F T G U B P kd' cl' rq' id' cn' tm' off' a' n' ca' b' m' cb' tc' d' l' cd' tr' tb' F' T' G' U' B' P' kind w hS hR hD hS' hR' hD' hl1 hl2 hk1 hk2
    · exact ctells_hi kd cl rq id cn tm off a n ca b m cb tc d l cd tr tb F T G U B P kd' cl' rq' id' cn' tm' off' a' n' ca' b' m' cb' tc' d' l' cd' tr' tb' F' T' G' U' B' P' kind w hS hR hD hS' hR' hD' hl1 hl2 hk1 hk2
  · exact ctells_lo kd cl rq id cn tm off a n ca b m cb tc d l cd tr tb F T G U B P kd' cl' rq' id' cn' tm' off' a' n' ca' b' m' cb' tc' d' l' cd' tr' tb' F' T' G' U' B' P' kind w hS hR hD hS' hR' hD' hl1 hl2 hk1
end Go.Proofs.Ytibjboacjobaoaa

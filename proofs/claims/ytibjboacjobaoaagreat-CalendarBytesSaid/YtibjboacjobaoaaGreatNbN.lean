/- The law of a calendar's bytes: for every input. -/
import Derived.Test.YtibjboacjobaoaaGreatNbM
import Derived.Test.YtibjboacjobaoaaGreatNbI
namespace Go.Proofs.YtibjboacjobaoaaGreat
open Go.RowKit
theorem cbytes_walk (off : Int) (a : Option Addr) (n ca : Nat) (b : Option Addr) (m cb : Nat) (F T G U : Nat → Int) (off' : Int) (a' : Option Addr) (n' ca' : Nat) (b' : Option Addr) (m' cb' : Nat) (F' T' G' U' : Nat → Int) (p : Option Addr) (k cap : Nat) (bs : List Nat) (w : World) (hS : Sps w a n F T) (hR : Sps w b m G U) (hS' : Sps w a' n' F' T') (hR' : Sps w b' m' G' U') (h1 : BSc cap w p k bs) (hown : ∀ j, w.heap.size ≤ j → (Value.slice p k cap).ownBlock ≠ some j) :
    Calls Tryz.prog 3 #[calV off a n ca b m cb, calV off' a' n' ca' b' m' cb', .slice p k cap] w fun e w' => e = .returned (.bool true) ∧ Below w.heap.size w w' := by
  by_cases hl : (n ≤ 60 ∧ m ≤ 60) ∧ (n' ≤ 60 ∧ m' ≤ 60) ∧ k ≤ 3000
  · have hrb := h1.2 (by omega)
    by_cases hz : checkE off F T n G U m = 0
    · exact cbytes_yes off a n ca b m cb F T G U off' a' n' ca' b' m' cb' F' T' G' U' p k cap bs w hS hR hS' hR' hrb hown hl _ rfl hz
    · exact cbytes_no off a n ca b m cb F T G U off' a' n' ca' b' m' cb' F' T' G' U' p k cap bs w hS hR hS' hR' hrb hown hl _ rfl hz
  · exact cbytes_skip off a n ca b m cb F T G U off' a' n' ca' b' m' cb' F' T' G' U' p k cap bs w hS hR hS' hR' hl
end Go.Proofs.YtibjboacjobaoaaGreat

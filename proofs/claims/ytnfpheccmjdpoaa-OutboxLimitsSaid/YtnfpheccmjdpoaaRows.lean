/-
  No cell of these rows narrows 'for every input' (looked for: loops, veiled, ifaces, maps, wideKeys, modest, calm, conditions, laid).
  DERIVED. THE GIVEN ROWS OF THIS SEAT. 5 by the template 'for every input the law returns true; each argument reads behind the call as it read before'; 0 by the template 'total and deterministic' (their statements: YtnfpheccmjdpoaaTotals.lean).
  GIVEN WITH THE SEED: the statements are not yours to turn. If you find one false, say at which input.
  Laid BY PROGRAM, IN A SANDBOX (cutbox-rows.mjs): the forced cells as the released guide's own fill.sh prints them over the translation 7454097ba30de27b… (all of the seat's roots in one cut). By AI agents, Wed Nov 11 2026. No macro, syntax, notation, axiom, sorry.
-/
import Derived.Test.YtnfpheccmjdpoaaChecked
import GoSem.Claim
import GoSem.ClaimJoined
import GoSem.ClaimMapViews
import Derived.JoinedTies
import Derived.KernelRfl
namespace Go.Proofs.Ytnfpheccmjdpoaa
/- THE CELL 'sum', in the pinned program and in every row, IS THE sha256 OF THE DUMP (.gsa) THAT YtnfpheccmjdpoaaProg.lean LOADS. Nothing in Lean hashes anything: it is a label: what it is worth is what the hold of that sum in a sandbox is worth. -/
noncomputable def Try.pinned : Pinned := { name := "ytnfpheccmjdpoaa", sum := "7454097ba30de27b4e0062ed5ead1dd5e413ac794976b7698ffe06dcb1ed14dc", checked := Try.checked }
namespace Rows
def none {H : Type} : Left H := { results := [], args := [] }

/-- 'curfewlaw17.OutboxPlays': WHATEVER THE INPUT: true; the input reads as it did. -/
def outboxPlaysSpec : ChangeSpec := { name := "outboxPlays", fn := fun _ => fun
  | [d1, d2] => { results := [.lit (.bool true)], args := [d1, d2] }
  | _ => none }
def outboxPlaysRow : OpenClaim := { program := "ytnfpheccmjdpoaa", sum := "7454097ba30de27b4e0062ed5ead1dd5e413ac794976b7698ffe06dcb1ed14dc", func := "curfew/curfewlaw17.OutboxPlays", spec := "outboxPlays", unfollowed := true, recurses := true, apart := false }
def OutboxPlaysSaid : Prop := outboxPlaysRow.holds Try.pinned (OpenSpec.ofChange outboxPlaysSpec)

/-- ITS FALSE NEIGHBOUR: 'it returns false'. Refute it at one input. -/
def outboxPlaysWrong : ChangeSpec := { name := "outboxPlays", fn := fun _ => fun
  | [d1, d2] => { results := [.lit (.bool false)], args := [d1, d2] }
  | _ => none }
def OutboxPlaysWrongFalsely : Prop := outboxPlaysRow.holds Try.pinned (OpenSpec.ofChange outboxPlaysWrong)

/-- 'curfewlaw17.OutboxLimits': WHATEVER THE INPUT: true; the input reads as it did. -/
def outboxLimitsSpec : ChangeSpec := { name := "outboxLimits", fn := fun _ => fun
  | [d] => { results := [.lit (.bool true)], args := [d] }
  | _ => none }
def outboxLimitsRow : OpenClaim := { program := "ytnfpheccmjdpoaa", sum := "7454097ba30de27b4e0062ed5ead1dd5e413ac794976b7698ffe06dcb1ed14dc", func := "curfew/curfewlaw17.OutboxLimits", spec := "outboxLimits", unfollowed := true, recurses := true, apart := false }
def OutboxLimitsSaid : Prop := outboxLimitsRow.holds Try.pinned (OpenSpec.ofChange outboxLimitsSpec)

/-- ITS FALSE NEIGHBOUR: 'it returns false'. Refute it at one input. -/
def outboxLimitsWrong : ChangeSpec := { name := "outboxLimits", fn := fun _ => fun
  | [d] => { results := [.lit (.bool false)], args := [d] }
  | _ => none }
def OutboxLimitsWrongFalsely : Prop := outboxLimitsRow.holds Try.pinned (OpenSpec.ofChange outboxLimitsWrong)

/-- 'curfewlaw17.OutboxFull': WHATEVER THE INPUT: true; the input reads as it did. -/
def outboxFullSpec : ChangeSpec := { name := "outboxFull", fn := fun _ => fun
  | [d1, d2, d3] => { results := [.lit (.bool true)], args := [d1, d2, d3] }
  | _ => none }
def outboxFullRow : OpenClaim := { program := "ytnfpheccmjdpoaa", sum := "7454097ba30de27b4e0062ed5ead1dd5e413ac794976b7698ffe06dcb1ed14dc", func := "curfew/curfewlaw17.OutboxFull", spec := "outboxFull", unfollowed := true, recurses := true, apart := false }
def OutboxFullSaid : Prop := outboxFullRow.holds Try.pinned (OpenSpec.ofChange outboxFullSpec)

/-- ITS FALSE NEIGHBOUR: 'it returns false'. Refute it at one input. -/
def outboxFullWrong : ChangeSpec := { name := "outboxFull", fn := fun _ => fun
  | [d1, d2, d3] => { results := [.lit (.bool false)], args := [d1, d2, d3] }
  | _ => none }
def OutboxFullWrongFalsely : Prop := outboxFullRow.holds Try.pinned (OpenSpec.ofChange outboxFullWrong)

/-- 'curfewlaw17.OutboxBytes': WHATEVER THE INPUT: true; the input reads as it did. -/
def outboxBytesSpec : ChangeSpec := { name := "outboxBytes", fn := fun _ => fun
  | [d1, d2, d3] => { results := [.lit (.bool true)], args := [d1, d2, d3] }
  | _ => none }
def outboxBytesRow : OpenClaim := { program := "ytnfpheccmjdpoaa", sum := "7454097ba30de27b4e0062ed5ead1dd5e413ac794976b7698ffe06dcb1ed14dc", func := "curfew/curfewlaw17.OutboxBytes", spec := "outboxBytes", unfollowed := true, recurses := true, apart := false }
def OutboxBytesSaid : Prop := outboxBytesRow.holds Try.pinned (OpenSpec.ofChange outboxBytesSpec)

/-- ITS FALSE NEIGHBOUR: 'it returns false'. Refute it at one input. -/
def outboxBytesWrong : ChangeSpec := { name := "outboxBytes", fn := fun _ => fun
  | [d1, d2, d3] => { results := [.lit (.bool false)], args := [d1, d2, d3] }
  | _ => none }
def OutboxBytesWrongFalsely : Prop := outboxBytesRow.holds Try.pinned (OpenSpec.ofChange outboxBytesWrong)

/-- 'curfewlaw17.OutboxApart': WHATEVER THE INPUT: true; the input reads as it did. -/
def outboxApartSpec : ChangeSpec := { name := "outboxApart", fn := fun _ => fun
  | [d1, d2, d3] => { results := [.lit (.bool true)], args := [d1, d2, d3] }
  | _ => none }
def outboxApartRow : OpenClaim := { program := "ytnfpheccmjdpoaa", sum := "7454097ba30de27b4e0062ed5ead1dd5e413ac794976b7698ffe06dcb1ed14dc", func := "curfew/curfewlaw17.OutboxApart", spec := "outboxApart", unfollowed := true, recurses := true, apart := false }
def OutboxApartSaid : Prop := outboxApartRow.holds Try.pinned (OpenSpec.ofChange outboxApartSpec)

/-- ITS FALSE NEIGHBOUR: 'it returns false'. Refute it at one input. -/
def outboxApartWrong : ChangeSpec := { name := "outboxApart", fn := fun _ => fun
  | [d1, d2, d3] => { results := [.lit (.bool false)], args := [d1, d2, d3] }
  | _ => none }
def OutboxApartWrongFalsely : Prop := outboxApartRow.holds Try.pinned (OpenSpec.ofChange outboxApartWrong)

/- THE SECOND FORM. 'bulk': how many values and letters a reading holds, each counted each time it is reached (what is shared counts as often as it is met; a slice's spare places count too). A statement '..UptoSaid' is the law's where the arguments, and the package variables that the reading takes, are together of bulk at most 1048576: NARROWER than '..Said'. Prove '..Said' where nothing that the law and all that it calls make is longer than what came in: it says more and counts as full. Else prove '..UptoSaid'. A law counts once. -/
mutual
def uptoBulk {H : Type} : DataW H → Nat
  | .lit (.string bytes) => bytes.length + 1
  | .lit _ => 1
  | .nil => 1
  | .ptr d => uptoBulk d + 1
  | .slice elems spare => uptoBulkAll elems + uptoBulkAll spare + 1
  | .agg parts => uptoBulkAll parts + 1
  | .iface _ d => uptoBulk d + 1
  | .map entries => uptoBulkEntries entries + 1
  | .held _ => 1
def uptoBulkAll {H : Type} : List (DataW H) → Nat
  | [] => 0
  | d :: r => uptoBulk d + uptoBulkAll r
def uptoBulkEntries {H : Type} : List (Lit × DataW H) → Nat
  | [] => 0
  | x :: r => uptoBulkEntry x + uptoBulkEntries r
def uptoBulkEntry {H : Type} : Lit × DataW H → Nat
  | (.string bytes, d) => bytes.length + uptoBulk d + 1
  | (_, d) => uptoBulk d + 1
 end
def uptoSmall : (H : Type) → List (DataW H) → Bool := fun _ ds => decide (uptoBulkAll ds ≤ 1048576)
def OpenSpec.upto (s : _root_.Go.ChangeSpec) : _root_.Go.OpenSpec := { _root_.Go.OpenSpec.ofChange s with cond := some uptoSmall }

/-- 'curfewlaw17.OutboxPlays', WHERE WHAT IT READS IS OF BULK AT MOST 1048576: true; the input reads as it did. -/
def outboxPlaysUptoRow : OpenClaim := { program := "ytnfpheccmjdpoaa", sum := "7454097ba30de27b4e0062ed5ead1dd5e413ac794976b7698ffe06dcb1ed14dc", func := "curfew/curfewlaw17.OutboxPlays", spec := "outboxPlays", unfollowed := true, recurses := true, apart := false, narrowed := true }
def OutboxPlaysUptoSaid : Prop := outboxPlaysUptoRow.holds Try.pinned (OpenSpec.upto outboxPlaysSpec)

/-- 'curfewlaw17.OutboxLimits', WHERE WHAT IT READS IS OF BULK AT MOST 1048576: true; the input reads as it did. -/
def outboxLimitsUptoRow : OpenClaim := { program := "ytnfpheccmjdpoaa", sum := "7454097ba30de27b4e0062ed5ead1dd5e413ac794976b7698ffe06dcb1ed14dc", func := "curfew/curfewlaw17.OutboxLimits", spec := "outboxLimits", unfollowed := true, recurses := true, apart := false, narrowed := true }
def OutboxLimitsUptoSaid : Prop := outboxLimitsUptoRow.holds Try.pinned (OpenSpec.upto outboxLimitsSpec)

/-- 'curfewlaw17.OutboxFull', WHERE WHAT IT READS IS OF BULK AT MOST 1048576: true; the input reads as it did. -/
def outboxFullUptoRow : OpenClaim := { program := "ytnfpheccmjdpoaa", sum := "7454097ba30de27b4e0062ed5ead1dd5e413ac794976b7698ffe06dcb1ed14dc", func := "curfew/curfewlaw17.OutboxFull", spec := "outboxFull", unfollowed := true, recurses := true, apart := false, narrowed := true }
def OutboxFullUptoSaid : Prop := outboxFullUptoRow.holds Try.pinned (OpenSpec.upto outboxFullSpec)

/-- 'curfewlaw17.OutboxBytes', WHERE WHAT IT READS IS OF BULK AT MOST 1048576: true; the input reads as it did. -/
def outboxBytesUptoRow : OpenClaim := { program := "ytnfpheccmjdpoaa", sum := "7454097ba30de27b4e0062ed5ead1dd5e413ac794976b7698ffe06dcb1ed14dc", func := "curfew/curfewlaw17.OutboxBytes", spec := "outboxBytes", unfollowed := true, recurses := true, apart := false, narrowed := true }
def OutboxBytesUptoSaid : Prop := outboxBytesUptoRow.holds Try.pinned (OpenSpec.upto outboxBytesSpec)

/-- 'curfewlaw17.OutboxApart', WHERE WHAT IT READS IS OF BULK AT MOST 1048576: true; the input reads as it did. -/
def outboxApartUptoRow : OpenClaim := { program := "ytnfpheccmjdpoaa", sum := "7454097ba30de27b4e0062ed5ead1dd5e413ac794976b7698ffe06dcb1ed14dc", func := "curfew/curfewlaw17.OutboxApart", spec := "outboxApart", unfollowed := true, recurses := true, apart := false, narrowed := true }
def OutboxApartUptoSaid : Prop := outboxApartUptoRow.holds Try.pinned (OpenSpec.upto outboxApartSpec)

end Rows
end Go.Proofs.Ytnfpheccmjdpoaa

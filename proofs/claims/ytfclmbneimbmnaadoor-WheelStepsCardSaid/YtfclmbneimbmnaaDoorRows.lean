/-
  NARROWER THAN 'FOR EVERY INPUT', by the rows' own cells (each row's printed sentence says how): SlotsSort: laid · SlotsPlay: laid · WheelPlays: laid · WheelFires: laid · WheelSteps: laid · WheelFull: laid · WheelNobody: laid · DeadlinePlays: laid · DeadlineOnce: laid · DeadlineApart: laid · DeadlineBytes: laid · DeadlineNobody: laid.
  DERIVED. THE GIVEN ROWS OF THIS SEAT. 12 by the template 'for every input the law returns true; each argument reads behind the call as it read before'; 0 by the template 'total and deterministic' (their statements: YtfclmbneimbmnaaDoorTotals.lean).
  GIVEN WITH THE SEED: the statements are not yours to turn. If you find one false, say at which input.
  Laid BY PROGRAM, IN A SANDBOX (cutbox-rows.mjs): the forced cells as the released guide's own fill.sh prints them over the translation 98e9e6c98615b345… (all of the seat's roots in one cut). By AI agents, Wed Nov 11 2026. No macro, syntax, notation, axiom, sorry.
-/
import Derived.Test.YtfclmbneimbmnaaDoorChecked
import GoSem.Claim
import GoSem.ClaimJoined
import GoSem.ClaimMapViews
import Derived.JoinedTies
import Derived.KernelRfl
namespace Go.Proofs.YtfclmbneimbmnaaDoor
/- THE CELL 'sum', in the pinned program and in every row, IS THE sha256 OF THE DUMP (.gsa) THAT YtfclmbneimbmnaaDoorProg.lean LOADS. Nothing in Lean hashes anything: it is a label: what it is worth is what the hold of that sum in a sandbox is worth. -/
noncomputable def Tryd.pinned : Pinned := { name := "ytfclmbneimbmnaadoor", sum := "98e9e6c98615b345381ee0e0688639f6cd76f0e81d4da1a53f0f55ec49c36bb8", checked := Tryd.checked }
namespace Rows
def none {H : Type} : Left H := { results := [], args := [] }

/- WHAT THE LISTED PACKAGE-LEVEL VARIABLES READ AS WHEN THE CALL BEGINS. Each datum BY PROGRAM (the guide's laid-datum.mjs) off the statement by which the dump's own 'gosem.cut.vars' lays the variable. In a bare row this is a premise. The card (YtfclmbneimbmnaaDoorCards.lean) ties it to the program's text. -/
def laid_math_bits_deBruijn64tab {H : Type} : DataW H := .agg [.lit (.int .u8 0), .lit (.int .u8 1), .lit (.int .u8 56), .lit (.int .u8 2), .lit (.int .u8 57), .lit (.int .u8 49), .lit (.int .u8 28), .lit (.int .u8 3), .lit (.int .u8 61), .lit (.int .u8 58), .lit (.int .u8 42), .lit (.int .u8 50), .lit (.int .u8 38), .lit (.int .u8 29), .lit (.int .u8 17), .lit (.int .u8 4), .lit (.int .u8 62), .lit (.int .u8 47), .lit (.int .u8 59), .lit (.int .u8 36), .lit (.int .u8 45), .lit (.int .u8 43), .lit (.int .u8 51), .lit (.int .u8 22), .lit (.int .u8 53), .lit (.int .u8 39), .lit (.int .u8 33), .lit (.int .u8 30), .lit (.int .u8 24), .lit (.int .u8 18), .lit (.int .u8 12), .lit (.int .u8 5), .lit (.int .u8 63), .lit (.int .u8 55), .lit (.int .u8 48), .lit (.int .u8 27), .lit (.int .u8 60), .lit (.int .u8 41), .lit (.int .u8 37), .lit (.int .u8 16), .lit (.int .u8 46), .lit (.int .u8 35), .lit (.int .u8 44), .lit (.int .u8 21), .lit (.int .u8 52), .lit (.int .u8 32), .lit (.int .u8 23), .lit (.int .u8 11), .lit (.int .u8 54), .lit (.int .u8 26), .lit (.int .u8 40), .lit (.int .u8 15), .lit (.int .u8 34), .lit (.int .u8 20), .lit (.int .u8 31), .lit (.int .u8 10), .lit (.int .u8 25), .lit (.int .u8 14), .lit (.int .u8 19), .lit (.int .u8 9), .lit (.int .u8 13), .lit (.int .u8 8), .lit (.int .u8 7), .lit (.int .u8 6)]

/-- 'curfewlaw11.SlotsSort': WHATEVER THE INPUT: true; the input reads as it did. -/
def slotsSortSpec : ChangeSpec := { name := "slotsSort", fn := fun _ => fun
  | [d] => { results := [.lit (.bool true)], args := [d] }
  | _ => none }
def slotsSortRow : OpenClaim := { program := "ytfclmbneimbmnaadoor", sum := "98e9e6c98615b345381ee0e0688639f6cd76f0e81d4da1a53f0f55ec49c36bb8", func := "curfew/curfewlaw11.SlotsSort", spec := "slotsSort", unfollowed := true, recurses := true, named := ["math/bits.deBruijn64tab"], apart := false, laid := [("math/bits.deBruijn64tab", laid_math_bits_deBruijn64tab)] }
def SlotsSortSaid : Prop := slotsSortRow.holds Tryd.pinned (OpenSpec.ofChange slotsSortSpec)

/-- ITS FALSE NEIGHBOUR: 'it returns false'. Refute it at one input. -/
def slotsSortWrong : ChangeSpec := { name := "slotsSort", fn := fun _ => fun
  | [d] => { results := [.lit (.bool false)], args := [d] }
  | _ => none }
def SlotsSortWrongFalsely : Prop := slotsSortRow.holds Tryd.pinned (OpenSpec.ofChange slotsSortWrong)

/-- 'curfewlaw11.SlotsPlay': WHATEVER THE INPUT: true; the input reads as it did. -/
def slotsPlaySpec : ChangeSpec := { name := "slotsPlay", fn := fun _ => fun
  | [d] => { results := [.lit (.bool true)], args := [d] }
  | _ => none }
def slotsPlayRow : OpenClaim := { program := "ytfclmbneimbmnaadoor", sum := "98e9e6c98615b345381ee0e0688639f6cd76f0e81d4da1a53f0f55ec49c36bb8", func := "curfew/curfewlaw11.SlotsPlay", spec := "slotsPlay", unfollowed := true, recurses := true, named := ["math/bits.deBruijn64tab"], apart := false, laid := [("math/bits.deBruijn64tab", laid_math_bits_deBruijn64tab)] }
def SlotsPlaySaid : Prop := slotsPlayRow.holds Tryd.pinned (OpenSpec.ofChange slotsPlaySpec)

/-- ITS FALSE NEIGHBOUR: 'it returns false'. Refute it at one input. -/
def slotsPlayWrong : ChangeSpec := { name := "slotsPlay", fn := fun _ => fun
  | [d] => { results := [.lit (.bool false)], args := [d] }
  | _ => none }
def SlotsPlayWrongFalsely : Prop := slotsPlayRow.holds Tryd.pinned (OpenSpec.ofChange slotsPlayWrong)

/-- 'curfewlaw12.WheelPlays': WHATEVER THE INPUT: true; the input reads as it did. -/
def wheelPlaysSpec : ChangeSpec := { name := "wheelPlays", fn := fun _ => fun
  | [d1, d2] => { results := [.lit (.bool true)], args := [d1, d2] }
  | _ => none }
def wheelPlaysRow : OpenClaim := { program := "ytfclmbneimbmnaadoor", sum := "98e9e6c98615b345381ee0e0688639f6cd76f0e81d4da1a53f0f55ec49c36bb8", func := "curfew/curfewlaw12.WheelPlays", spec := "wheelPlays", unfollowed := true, recurses := true, named := ["math/bits.deBruijn64tab"], apart := false, laid := [("math/bits.deBruijn64tab", laid_math_bits_deBruijn64tab)] }
def WheelPlaysSaid : Prop := wheelPlaysRow.holds Tryd.pinned (OpenSpec.ofChange wheelPlaysSpec)

/-- ITS FALSE NEIGHBOUR: 'it returns false'. Refute it at one input. -/
def wheelPlaysWrong : ChangeSpec := { name := "wheelPlays", fn := fun _ => fun
  | [d1, d2] => { results := [.lit (.bool false)], args := [d1, d2] }
  | _ => none }
def WheelPlaysWrongFalsely : Prop := wheelPlaysRow.holds Tryd.pinned (OpenSpec.ofChange wheelPlaysWrong)

/-- 'curfewlaw12.WheelFires': WHATEVER THE INPUT: true; the input reads as it did. -/
def wheelFiresSpec : ChangeSpec := { name := "wheelFires", fn := fun _ => fun
  | [d1, d2, d3] => { results := [.lit (.bool true)], args := [d1, d2, d3] }
  | _ => none }
def wheelFiresRow : OpenClaim := { program := "ytfclmbneimbmnaadoor", sum := "98e9e6c98615b345381ee0e0688639f6cd76f0e81d4da1a53f0f55ec49c36bb8", func := "curfew/curfewlaw12.WheelFires", spec := "wheelFires", unfollowed := true, recurses := true, named := ["math/bits.deBruijn64tab"], apart := false, laid := [("math/bits.deBruijn64tab", laid_math_bits_deBruijn64tab)] }
def WheelFiresSaid : Prop := wheelFiresRow.holds Tryd.pinned (OpenSpec.ofChange wheelFiresSpec)

/-- ITS FALSE NEIGHBOUR: 'it returns false'. Refute it at one input. -/
def wheelFiresWrong : ChangeSpec := { name := "wheelFires", fn := fun _ => fun
  | [d1, d2, d3] => { results := [.lit (.bool false)], args := [d1, d2, d3] }
  | _ => none }
def WheelFiresWrongFalsely : Prop := wheelFiresRow.holds Tryd.pinned (OpenSpec.ofChange wheelFiresWrong)

/-- 'curfewlaw12.WheelSteps': WHATEVER THE INPUT: true; the input reads as it did. -/
def wheelStepsSpec : ChangeSpec := { name := "wheelSteps", fn := fun _ => fun
  | [d1, d2, d3, d4] => { results := [.lit (.bool true)], args := [d1, d2, d3, d4] }
  | _ => none }
def wheelStepsRow : OpenClaim := { program := "ytfclmbneimbmnaadoor", sum := "98e9e6c98615b345381ee0e0688639f6cd76f0e81d4da1a53f0f55ec49c36bb8", func := "curfew/curfewlaw12.WheelSteps", spec := "wheelSteps", unfollowed := true, recurses := true, named := ["math/bits.deBruijn64tab"], apart := false, laid := [("math/bits.deBruijn64tab", laid_math_bits_deBruijn64tab)] }
def WheelStepsSaid : Prop := wheelStepsRow.holds Tryd.pinned (OpenSpec.ofChange wheelStepsSpec)

/-- ITS FALSE NEIGHBOUR: 'it returns false'. Refute it at one input. -/
def wheelStepsWrong : ChangeSpec := { name := "wheelSteps", fn := fun _ => fun
  | [d1, d2, d3, d4] => { results := [.lit (.bool false)], args := [d1, d2, d3, d4] }
  | _ => none }
def WheelStepsWrongFalsely : Prop := wheelStepsRow.holds Tryd.pinned (OpenSpec.ofChange wheelStepsWrong)

/-- 'curfewlaw12.WheelFull': WHATEVER THE INPUT: true; the input reads as it did. -/
def wheelFullSpec : ChangeSpec := { name := "wheelFull", fn := fun _ => fun
  | [d1, d2, d3] => { results := [.lit (.bool true)], args := [d1, d2, d3] }
  | _ => none }
def wheelFullRow : OpenClaim := { program := "ytfclmbneimbmnaadoor", sum := "98e9e6c98615b345381ee0e0688639f6cd76f0e81d4da1a53f0f55ec49c36bb8", func := "curfew/curfewlaw12.WheelFull", spec := "wheelFull", unfollowed := true, recurses := true, named := ["math/bits.deBruijn64tab"], apart := false, laid := [("math/bits.deBruijn64tab", laid_math_bits_deBruijn64tab)] }
def WheelFullSaid : Prop := wheelFullRow.holds Tryd.pinned (OpenSpec.ofChange wheelFullSpec)

/-- ITS FALSE NEIGHBOUR: 'it returns false'. Refute it at one input. -/
def wheelFullWrong : ChangeSpec := { name := "wheelFull", fn := fun _ => fun
  | [d1, d2, d3] => { results := [.lit (.bool false)], args := [d1, d2, d3] }
  | _ => none }
def WheelFullWrongFalsely : Prop := wheelFullRow.holds Tryd.pinned (OpenSpec.ofChange wheelFullWrong)

/-- 'curfewlaw12.WheelNobody': WHATEVER THE INPUT: true; the input reads as it did. -/
def wheelNobodySpec : ChangeSpec := { name := "wheelNobody", fn := fun _ => fun
  | [d1, d2] => { results := [.lit (.bool true)], args := [d1, d2] }
  | _ => none }
def wheelNobodyRow : OpenClaim := { program := "ytfclmbneimbmnaadoor", sum := "98e9e6c98615b345381ee0e0688639f6cd76f0e81d4da1a53f0f55ec49c36bb8", func := "curfew/curfewlaw12.WheelNobody", spec := "wheelNobody", unfollowed := true, recurses := true, named := ["math/bits.deBruijn64tab"], apart := false, laid := [("math/bits.deBruijn64tab", laid_math_bits_deBruijn64tab)] }
def WheelNobodySaid : Prop := wheelNobodyRow.holds Tryd.pinned (OpenSpec.ofChange wheelNobodySpec)

/-- ITS FALSE NEIGHBOUR: 'it returns false'. Refute it at one input. -/
def wheelNobodyWrong : ChangeSpec := { name := "wheelNobody", fn := fun _ => fun
  | [d1, d2] => { results := [.lit (.bool false)], args := [d1, d2] }
  | _ => none }
def WheelNobodyWrongFalsely : Prop := wheelNobodyRow.holds Tryd.pinned (OpenSpec.ofChange wheelNobodyWrong)

/-- 'curfewlaw13.DeadlinePlays': WHATEVER THE INPUT: true; the input reads as it did. -/
def deadlinePlaysSpec : ChangeSpec := { name := "deadlinePlays", fn := fun _ => fun
  | [d1, d2] => { results := [.lit (.bool true)], args := [d1, d2] }
  | _ => none }
def deadlinePlaysRow : OpenClaim := { program := "ytfclmbneimbmnaadoor", sum := "98e9e6c98615b345381ee0e0688639f6cd76f0e81d4da1a53f0f55ec49c36bb8", func := "curfew/curfewlaw13.DeadlinePlays", spec := "deadlinePlays", unfollowed := true, recurses := true, named := ["math/bits.deBruijn64tab"], apart := false, laid := [("math/bits.deBruijn64tab", laid_math_bits_deBruijn64tab)] }
def DeadlinePlaysSaid : Prop := deadlinePlaysRow.holds Tryd.pinned (OpenSpec.ofChange deadlinePlaysSpec)

/-- ITS FALSE NEIGHBOUR: 'it returns false'. Refute it at one input. -/
def deadlinePlaysWrong : ChangeSpec := { name := "deadlinePlays", fn := fun _ => fun
  | [d1, d2] => { results := [.lit (.bool false)], args := [d1, d2] }
  | _ => none }
def DeadlinePlaysWrongFalsely : Prop := deadlinePlaysRow.holds Tryd.pinned (OpenSpec.ofChange deadlinePlaysWrong)

/-- 'curfewlaw13.DeadlineOnce': WHATEVER THE INPUT: true; the input reads as it did. -/
def deadlineOnceSpec : ChangeSpec := { name := "deadlineOnce", fn := fun _ => fun
  | [d1, d2] => { results := [.lit (.bool true)], args := [d1, d2] }
  | _ => none }
def deadlineOnceRow : OpenClaim := { program := "ytfclmbneimbmnaadoor", sum := "98e9e6c98615b345381ee0e0688639f6cd76f0e81d4da1a53f0f55ec49c36bb8", func := "curfew/curfewlaw13.DeadlineOnce", spec := "deadlineOnce", unfollowed := true, recurses := true, named := ["math/bits.deBruijn64tab"], apart := false, laid := [("math/bits.deBruijn64tab", laid_math_bits_deBruijn64tab)] }
def DeadlineOnceSaid : Prop := deadlineOnceRow.holds Tryd.pinned (OpenSpec.ofChange deadlineOnceSpec)

/-- ITS FALSE NEIGHBOUR: 'it returns false'. Refute it at one input. -/
def deadlineOnceWrong : ChangeSpec := { name := "deadlineOnce", fn := fun _ => fun
  | [d1, d2] => { results := [.lit (.bool false)], args := [d1, d2] }
  | _ => none }
def DeadlineOnceWrongFalsely : Prop := deadlineOnceRow.holds Tryd.pinned (OpenSpec.ofChange deadlineOnceWrong)

/-- 'curfewlaw13.DeadlineApart': WHATEVER THE INPUT: true; the input reads as it did. -/
def deadlineApartSpec : ChangeSpec := { name := "deadlineApart", fn := fun _ => fun
  | [d1, d2, d3] => { results := [.lit (.bool true)], args := [d1, d2, d3] }
  | _ => none }
def deadlineApartRow : OpenClaim := { program := "ytfclmbneimbmnaadoor", sum := "98e9e6c98615b345381ee0e0688639f6cd76f0e81d4da1a53f0f55ec49c36bb8", func := "curfew/curfewlaw13.DeadlineApart", spec := "deadlineApart", unfollowed := true, recurses := true, named := ["math/bits.deBruijn64tab"], apart := false, laid := [("math/bits.deBruijn64tab", laid_math_bits_deBruijn64tab)] }
def DeadlineApartSaid : Prop := deadlineApartRow.holds Tryd.pinned (OpenSpec.ofChange deadlineApartSpec)

/-- ITS FALSE NEIGHBOUR: 'it returns false'. Refute it at one input. -/
def deadlineApartWrong : ChangeSpec := { name := "deadlineApart", fn := fun _ => fun
  | [d1, d2, d3] => { results := [.lit (.bool false)], args := [d1, d2, d3] }
  | _ => none }
def DeadlineApartWrongFalsely : Prop := deadlineApartRow.holds Tryd.pinned (OpenSpec.ofChange deadlineApartWrong)

/-- 'curfewlaw13.DeadlineBytes': WHATEVER THE INPUT: true; the input reads as it did. -/
def deadlineBytesSpec : ChangeSpec := { name := "deadlineBytes", fn := fun _ => fun
  | [d1, d2, d3] => { results := [.lit (.bool true)], args := [d1, d2, d3] }
  | _ => none }
def deadlineBytesRow : OpenClaim := { program := "ytfclmbneimbmnaadoor", sum := "98e9e6c98615b345381ee0e0688639f6cd76f0e81d4da1a53f0f55ec49c36bb8", func := "curfew/curfewlaw13.DeadlineBytes", spec := "deadlineBytes", unfollowed := true, recurses := true, named := ["math/bits.deBruijn64tab"], apart := false, laid := [("math/bits.deBruijn64tab", laid_math_bits_deBruijn64tab)] }
def DeadlineBytesSaid : Prop := deadlineBytesRow.holds Tryd.pinned (OpenSpec.ofChange deadlineBytesSpec)

/-- ITS FALSE NEIGHBOUR: 'it returns false'. Refute it at one input. -/
def deadlineBytesWrong : ChangeSpec := { name := "deadlineBytes", fn := fun _ => fun
  | [d1, d2, d3] => { results := [.lit (.bool false)], args := [d1, d2, d3] }
  | _ => none }
def DeadlineBytesWrongFalsely : Prop := deadlineBytesRow.holds Tryd.pinned (OpenSpec.ofChange deadlineBytesWrong)

/-- 'curfewlaw13.DeadlineNobody': WHATEVER THE INPUT: true; the input reads as it did. -/
def deadlineNobodySpec : ChangeSpec := { name := "deadlineNobody", fn := fun _ => fun
  | [d1, d2] => { results := [.lit (.bool true)], args := [d1, d2] }
  | _ => none }
def deadlineNobodyRow : OpenClaim := { program := "ytfclmbneimbmnaadoor", sum := "98e9e6c98615b345381ee0e0688639f6cd76f0e81d4da1a53f0f55ec49c36bb8", func := "curfew/curfewlaw13.DeadlineNobody", spec := "deadlineNobody", unfollowed := true, recurses := true, named := ["math/bits.deBruijn64tab"], apart := false, laid := [("math/bits.deBruijn64tab", laid_math_bits_deBruijn64tab)] }
def DeadlineNobodySaid : Prop := deadlineNobodyRow.holds Tryd.pinned (OpenSpec.ofChange deadlineNobodySpec)

/-- ITS FALSE NEIGHBOUR: 'it returns false'. Refute it at one input. -/
def deadlineNobodyWrong : ChangeSpec := { name := "deadlineNobody", fn := fun _ => fun
  | [d1, d2] => { results := [.lit (.bool false)], args := [d1, d2] }
  | _ => none }
def DeadlineNobodyWrongFalsely : Prop := deadlineNobodyRow.holds Tryd.pinned (OpenSpec.ofChange deadlineNobodyWrong)

/- THE SECOND FORM. 'bulk': how many values and letters a reading holds, each counted each time it is reached (what is shared counts as often as it is met; a slice's spare places count too). A statement '..UptoSaid' is the law's where the arguments, and the package variables that the reading takes, are together of bulk at most 1048576: NARROWER than '..Said'. Prove '..Said' where nothing that the law and all that it calls make is longer than what came in: it says more and counts as full. Else prove '..UptoSaid'. A law counts once. -/
mutual
def uptoBulk {H : Type} : DataW H → Nat
  | .lit (.string bytes) => bytes.length + 1
  | .lit _ => 1
  | .nil => 1
  | .ptr d => uptoBulk d + 1
  | .slice elems spare => uptoBulkAll elems + uptoBulkAll spare + 1
  | .agg parts => uptoBulkAll parts + 1
  | .iface _ d => uptoBulk d + 1
  | .map entries => uptoBulkEntries entries + 1
  | .held _ => 1
def uptoBulkAll {H : Type} : List (DataW H) → Nat
  | [] => 0
  | d :: r => uptoBulk d + uptoBulkAll r
def uptoBulkEntries {H : Type} : List (Lit × DataW H) → Nat
  | [] => 0
  | x :: r => uptoBulkEntry x + uptoBulkEntries r
def uptoBulkEntry {H : Type} : Lit × DataW H → Nat
  | (.string bytes, d) => bytes.length + uptoBulk d + 1
  | (_, d) => uptoBulk d + 1
 end
def uptoSmall : (H : Type) → List (DataW H) → Bool := fun _ ds => decide (uptoBulkAll ds ≤ 1048576)
def OpenSpec.upto (s : _root_.Go.ChangeSpec) : _root_.Go.OpenSpec := { _root_.Go.OpenSpec.ofChange s with cond := some uptoSmall }

/-- 'curfewlaw11.SlotsSort', WHERE WHAT IT READS IS OF BULK AT MOST 1048576: true; the input reads as it did. -/
def slotsSortUptoRow : OpenClaim := { program := "ytfclmbneimbmnaadoor", sum := "98e9e6c98615b345381ee0e0688639f6cd76f0e81d4da1a53f0f55ec49c36bb8", func := "curfew/curfewlaw11.SlotsSort", spec := "slotsSort", unfollowed := true, recurses := true, named := ["math/bits.deBruijn64tab"], apart := false, laid := [("math/bits.deBruijn64tab", laid_math_bits_deBruijn64tab)], narrowed := true }
def SlotsSortUptoSaid : Prop := slotsSortUptoRow.holds Tryd.pinned (OpenSpec.upto slotsSortSpec)

/-- 'curfewlaw11.SlotsPlay', WHERE WHAT IT READS IS OF BULK AT MOST 1048576: true; the input reads as it did. -/
def slotsPlayUptoRow : OpenClaim := { program := "ytfclmbneimbmnaadoor", sum := "98e9e6c98615b345381ee0e0688639f6cd76f0e81d4da1a53f0f55ec49c36bb8", func := "curfew/curfewlaw11.SlotsPlay", spec := "slotsPlay", unfollowed := true, recurses := true, named := ["math/bits.deBruijn64tab"], apart := false, laid := [("math/bits.deBruijn64tab", laid_math_bits_deBruijn64tab)], narrowed := true }
def SlotsPlayUptoSaid : Prop := slotsPlayUptoRow.holds Tryd.pinned (OpenSpec.upto slotsPlaySpec)

/-- 'curfewlaw12.WheelPlays', WHERE WHAT IT READS IS OF BULK AT MOST 1048576: true; the input reads as it did. -/
def wheelPlaysUptoRow : OpenClaim := { program := "ytfclmbneimbmnaadoor", sum := "98e9e6c98615b345381ee0e0688639f6cd76f0e81d4da1a53f0f55ec49c36bb8", func := "curfew/curfewlaw12.WheelPlays", spec := "wheelPlays", unfollowed := true, recurses := true, named := ["math/bits.deBruijn64tab"], apart := false, laid := [("math/bits.deBruijn64tab", laid_math_bits_deBruijn64tab)], narrowed := true }
def WheelPlaysUptoSaid : Prop := wheelPlaysUptoRow.holds Tryd.pinned (OpenSpec.upto wheelPlaysSpec)

/-- 'curfewlaw12.WheelFires', WHERE WHAT IT READS IS OF BULK AT MOST 1048576: true; the input reads as it did. -/
def wheelFiresUptoRow : OpenClaim := { program := "ytfclmbneimbmnaadoor", sum := "98e9e6c98615b345381ee0e0688639f6cd76f0e81d4da1a53f0f55ec49c36bb8", func := "curfew/curfewlaw12.WheelFires", spec := "wheelFires", unfollowed := true, recurses := true, named := ["math/bits.deBruijn64tab"], apart := false, laid := [("math/bits.deBruijn64tab", laid_math_bits_deBruijn64tab)], narrowed := true }
def WheelFiresUptoSaid : Prop := wheelFiresUptoRow.holds Tryd.pinned (OpenSpec.upto wheelFiresSpec)

/-- 'curfewlaw12.WheelSteps', WHERE WHAT IT READS IS OF BULK AT MOST 1048576: true; the input reads as it did. -/
def wheelStepsUptoRow : OpenClaim := { program := "ytfclmbneimbmnaadoor", sum := "98e9e6c98615b345381ee0e0688639f6cd76f0e81d4da1a53f0f55ec49c36bb8", func := "curfew/curfewlaw12.WheelSteps", spec := "wheelSteps", unfollowed := true, recurses := true, named := ["math/bits.deBruijn64tab"], apart := false, laid := [("math/bits.deBruijn64tab", laid_math_bits_deBruijn64tab)], narrowed := true }
def WheelStepsUptoSaid : Prop := wheelStepsUptoRow.holds Tryd.pinned (OpenSpec.upto wheelStepsSpec)

/-- 'curfewlaw12.WheelFull', WHERE WHAT IT READS IS OF BULK AT MOST 1048576: true; the input reads as it did. -/
def wheelFullUptoRow : OpenClaim := { program := "ytfclmbneimbmnaadoor", sum := "98e9e6c98615b345381ee0e0688639f6cd76f0e81d4da1a53f0f55ec49c36bb8", func := "curfew/curfewlaw12.WheelFull", spec := "wheelFull", unfollowed := true, recurses := true, named := ["math/bits.deBruijn64tab"], apart := false, laid := [("math/bits.deBruijn64tab", laid_math_bits_deBruijn64tab)], narrowed := true }
def WheelFullUptoSaid : Prop := wheelFullUptoRow.holds Tryd.pinned (OpenSpec.upto wheelFullSpec)

/-- 'curfewlaw12.WheelNobody', WHERE WHAT IT READS IS OF BULK AT MOST 1048576: true; the input reads as it did. -/
def wheelNobodyUptoRow : OpenClaim := { program := "ytfclmbneimbmnaadoor", sum := "98e9e6c98615b345381ee0e0688639f6cd76f0e81d4da1a53f0f55ec49c36bb8", func := "curfew/curfewlaw12.WheelNobody", spec := "wheelNobody", unfollowed := true, recurses := true, named := ["math/bits.deBruijn64tab"], apart := false, laid := [("math/bits.deBruijn64tab", laid_math_bits_deBruijn64tab)], narrowed := true }
def WheelNobodyUptoSaid : Prop := wheelNobodyUptoRow.holds Tryd.pinned (OpenSpec.upto wheelNobodySpec)

/-- 'curfewlaw13.DeadlinePlays', WHERE WHAT IT READS IS OF BULK AT MOST 1048576: true; the input reads as it did. -/
def deadlinePlaysUptoRow : OpenClaim := { program := "ytfclmbneimbmnaadoor", sum := "98e9e6c98615b345381ee0e0688639f6cd76f0e81d4da1a53f0f55ec49c36bb8", func := "curfew/curfewlaw13.DeadlinePlays", spec := "deadlinePlays", unfollowed := true, recurses := true, named := ["math/bits.deBruijn64tab"], apart := false, laid := [("math/bits.deBruijn64tab", laid_math_bits_deBruijn64tab)], narrowed := true }
def DeadlinePlaysUptoSaid : Prop := deadlinePlaysUptoRow.holds Tryd.pinned (OpenSpec.upto deadlinePlaysSpec)

/-- 'curfewlaw13.DeadlineOnce', WHERE WHAT IT READS IS OF BULK AT MOST 1048576: true; the input reads as it did. -/
def deadlineOnceUptoRow : OpenClaim := { program := "ytfclmbneimbmnaadoor", sum := "98e9e6c98615b345381ee0e0688639f6cd76f0e81d4da1a53f0f55ec49c36bb8", func := "curfew/curfewlaw13.DeadlineOnce", spec := "deadlineOnce", unfollowed := true, recurses := true, named := ["math/bits.deBruijn64tab"], apart := false, laid := [("math/bits.deBruijn64tab", laid_math_bits_deBruijn64tab)], narrowed := true }
def DeadlineOnceUptoSaid : Prop := deadlineOnceUptoRow.holds Tryd.pinned (OpenSpec.upto deadlineOnceSpec)

/-- 'curfewlaw13.DeadlineApart', WHERE WHAT IT READS IS OF BULK AT MOST 1048576: true; the input reads as it did. -/
def deadlineApartUptoRow : OpenClaim := { program := "ytfclmbneimbmnaadoor", sum := "98e9e6c98615b345381ee0e0688639f6cd76f0e81d4da1a53f0f55ec49c36bb8", func := "curfew/curfewlaw13.DeadlineApart", spec := "deadlineApart", unfollowed := true, recurses := true, named := ["math/bits.deBruijn64tab"], apart := false, laid := [("math/bits.deBruijn64tab", laid_math_bits_deBruijn64tab)], narrowed := true }
def DeadlineApartUptoSaid : Prop := deadlineApartUptoRow.holds Tryd.pinned (OpenSpec.upto deadlineApartSpec)

/-- 'curfewlaw13.DeadlineBytes', WHERE WHAT IT READS IS OF BULK AT MOST 1048576: true; the input reads as it did. -/
def deadlineBytesUptoRow : OpenClaim := { program := "ytfclmbneimbmnaadoor", sum := "98e9e6c98615b345381ee0e0688639f6cd76f0e81d4da1a53f0f55ec49c36bb8", func := "curfew/curfewlaw13.DeadlineBytes", spec := "deadlineBytes", unfollowed := true, recurses := true, named := ["math/bits.deBruijn64tab"], apart := false, laid := [("math/bits.deBruijn64tab", laid_math_bits_deBruijn64tab)], narrowed := true }
def DeadlineBytesUptoSaid : Prop := deadlineBytesUptoRow.holds Tryd.pinned (OpenSpec.upto deadlineBytesSpec)

/-- 'curfewlaw13.DeadlineNobody', WHERE WHAT IT READS IS OF BULK AT MOST 1048576: true; the input reads as it did. -/
def deadlineNobodyUptoRow : OpenClaim := { program := "ytfclmbneimbmnaadoor", sum := "98e9e6c98615b345381ee0e0688639f6cd76f0e81d4da1a53f0f55ec49c36bb8", func := "curfew/curfewlaw13.DeadlineNobody", spec := "deadlineNobody", unfollowed := true, recurses := true, named := ["math/bits.deBruijn64tab"], apart := false, laid := [("math/bits.deBruijn64tab", laid_math_bits_deBruijn64tab)], narrowed := true }
def DeadlineNobodyUptoSaid : Prop := deadlineNobodyUptoRow.holds Tryd.pinned (OpenSpec.upto deadlineNobodySpec)

end Rows
end Go.Proofs.YtfclmbneimbmnaaDoor

/-
  No cell of these rows narrows 'for every input' (looked for: loops, veiled, ifaces, maps, wideKeys, modest, calm, conditions, laid).
  DERIVED. THE GIVEN ROWS OF THIS SEAT. 9 by the template 'for every input the law returns true; each argument reads behind the call as it read before'; 0 by the template 'total and deterministic' (their statements: YtkeloeppploiaaaTotals.lean).
  GIVEN WITH THE SEED: the statements are not yours to turn. If you find one false, say at which input.
  Laid BY PROGRAM, IN A SANDBOX (cutbox-rows.mjs): the forced cells as the released guide's own fill.sh prints them over the translation 612876e2e12c5623… (all of the seat's roots in one cut). By AI agents, Wed Nov 11 2026. No macro, syntax, notation, axiom, sorry.
-/
import Derived.Test.YtkeloeppploiaaaChecked
import GoSem.Claim
import GoSem.ClaimJoined
import GoSem.ClaimMapViews
import Derived.JoinedTies
import Derived.KernelRfl
namespace Go.Proofs.Ytkeloeppploiaaa
/- THE CELL 'sum', in the pinned program and in every row, IS THE sha256 OF THE DUMP (.gsa) THAT YtkeloeppploiaaaProg.lean LOADS. Nothing in Lean hashes anything: it is a label: what it is worth is what the hold of that sum in a sandbox is worth. -/
noncomputable def Try.pinned : Pinned := { name := "ytkeloeppploiaaa", sum := "612876e2e12c562320c592868e954b84a45c017828e8b0c2fa8549e15bd0340c", checked := Try.checked }
namespace Rows
def none {H : Type} : Left H := { results := [], args := [] }

/-- 'curfewlaw01.QuillWrites': WHATEVER THE INPUT: true; the input reads as it did. -/
def quillWritesSpec : ChangeSpec := { name := "quillWrites", fn := fun _ => fun
  | [d1, d2, d3] => { results := [.lit (.bool true)], args := [d1, d2, d3] }
  | _ => none }
def quillWritesRow : OpenClaim := { program := "ytkeloeppploiaaa", sum := "612876e2e12c562320c592868e954b84a45c017828e8b0c2fa8549e15bd0340c", func := "curfew/curfewlaw01.QuillWrites", spec := "quillWrites", unfollowed := true, recurses := true, apart := false }
def QuillWritesSaid : Prop := quillWritesRow.holds Try.pinned (OpenSpec.ofChange quillWritesSpec)

/-- ITS FALSE NEIGHBOUR: 'it returns false'. Refute it at one input. -/
def quillWritesWrong : ChangeSpec := { name := "quillWrites", fn := fun _ => fun
  | [d1, d2, d3] => { results := [.lit (.bool false)], args := [d1, d2, d3] }
  | _ => none }
def QuillWritesWrongFalsely : Prop := quillWritesRow.holds Try.pinned (OpenSpec.ofChange quillWritesWrong)

/-- 'curfewlaw01.QuillReads': WHATEVER THE INPUT: true; the input reads as it did. -/
def quillReadsSpec : ChangeSpec := { name := "quillReads", fn := fun _ => fun
  | [d1, d2] => { results := [.lit (.bool true)], args := [d1, d2] }
  | _ => none }
def quillReadsRow : OpenClaim := { program := "ytkeloeppploiaaa", sum := "612876e2e12c562320c592868e954b84a45c017828e8b0c2fa8549e15bd0340c", func := "curfew/curfewlaw01.QuillReads", spec := "quillReads", unfollowed := true, recurses := true, apart := false }
def QuillReadsSaid : Prop := quillReadsRow.holds Try.pinned (OpenSpec.ofChange quillReadsSpec)

/-- ITS FALSE NEIGHBOUR: 'it returns false'. Refute it at one input. -/
def quillReadsWrong : ChangeSpec := { name := "quillReads", fn := fun _ => fun
  | [d1, d2] => { results := [.lit (.bool false)], args := [d1, d2] }
  | _ => none }
def QuillReadsWrongFalsely : Prop := quillReadsRow.holds Try.pinned (OpenSpec.ofChange quillReadsWrong)

/-- 'curfewlaw01.QuillBack': WHATEVER THE INPUT: true; the input reads as it did. -/
def quillBackSpec : ChangeSpec := { name := "quillBack", fn := fun _ => fun
  | [d] => { results := [.lit (.bool true)], args := [d] }
  | _ => none }
def quillBackRow : OpenClaim := { program := "ytkeloeppploiaaa", sum := "612876e2e12c562320c592868e954b84a45c017828e8b0c2fa8549e15bd0340c", func := "curfew/curfewlaw01.QuillBack", spec := "quillBack", unfollowed := true, recurses := true, apart := false }
def QuillBackSaid : Prop := quillBackRow.holds Try.pinned (OpenSpec.ofChange quillBackSpec)

/-- ITS FALSE NEIGHBOUR: 'it returns false'. Refute it at one input. -/
def quillBackWrong : ChangeSpec := { name := "quillBack", fn := fun _ => fun
  | [d] => { results := [.lit (.bool false)], args := [d] }
  | _ => none }
def QuillBackWrongFalsely : Prop := quillBackRow.holds Try.pinned (OpenSpec.ofChange quillBackWrong)

/-- 'curfewlaw01.QuillOnce': WHATEVER THE INPUT: true; the input reads as it did. -/
def quillOnceSpec : ChangeSpec := { name := "quillOnce", fn := fun _ => fun
  | [d] => { results := [.lit (.bool true)], args := [d] }
  | _ => none }
def quillOnceRow : OpenClaim := { program := "ytkeloeppploiaaa", sum := "612876e2e12c562320c592868e954b84a45c017828e8b0c2fa8549e15bd0340c", func := "curfew/curfewlaw01.QuillOnce", spec := "quillOnce", unfollowed := true, recurses := true, apart := false }
def QuillOnceSaid : Prop := quillOnceRow.holds Try.pinned (OpenSpec.ofChange quillOnceSpec)

/-- ITS FALSE NEIGHBOUR: 'it returns false'. Refute it at one input. -/
def quillOnceWrong : ChangeSpec := { name := "quillOnce", fn := fun _ => fun
  | [d] => { results := [.lit (.bool false)], args := [d] }
  | _ => none }
def QuillOnceWrongFalsely : Prop := quillOnceRow.holds Try.pinned (OpenSpec.ofChange quillOnceWrong)

/-- 'curfewlaw01.QuillNobody': WHATEVER THE INPUT: true; the input reads as it did. -/
def quillNobodySpec : ChangeSpec := { name := "quillNobody", fn := fun _ => fun
  | [d1, d2, d3] => { results := [.lit (.bool true)], args := [d1, d2, d3] }
  | _ => none }
def quillNobodyRow : OpenClaim := { program := "ytkeloeppploiaaa", sum := "612876e2e12c562320c592868e954b84a45c017828e8b0c2fa8549e15bd0340c", func := "curfew/curfewlaw01.QuillNobody", spec := "quillNobody", unfollowed := true, recurses := true, apart := false }
def QuillNobodySaid : Prop := quillNobodyRow.holds Try.pinned (OpenSpec.ofChange quillNobodySpec)

/-- ITS FALSE NEIGHBOUR: 'it returns false'. Refute it at one input. -/
def quillNobodyWrong : ChangeSpec := { name := "quillNobody", fn := fun _ => fun
  | [d1, d2, d3] => { results := [.lit (.bool false)], args := [d1, d2, d3] }
  | _ => none }
def QuillNobodyWrongFalsely : Prop := quillNobodyRow.holds Try.pinned (OpenSpec.ofChange quillNobodyWrong)

/-- 'curfewlaw02.CrcSums': WHATEVER THE INPUT: true; the input reads as it did. -/
def crcSumsSpec : ChangeSpec := { name := "crcSums", fn := fun _ => fun
  | [d1, d2] => { results := [.lit (.bool true)], args := [d1, d2] }
  | _ => none }
def crcSumsRow : OpenClaim := { program := "ytkeloeppploiaaa", sum := "612876e2e12c562320c592868e954b84a45c017828e8b0c2fa8549e15bd0340c", func := "curfew/curfewlaw02.CrcSums", spec := "crcSums", unfollowed := true, recurses := true, apart := false }
def CrcSumsSaid : Prop := crcSumsRow.holds Try.pinned (OpenSpec.ofChange crcSumsSpec)

/-- ITS FALSE NEIGHBOUR: 'it returns false'. Refute it at one input. -/
def crcSumsWrong : ChangeSpec := { name := "crcSums", fn := fun _ => fun
  | [d1, d2] => { results := [.lit (.bool false)], args := [d1, d2] }
  | _ => none }
def CrcSumsWrongFalsely : Prop := crcSumsRow.holds Try.pinned (OpenSpec.ofChange crcSumsWrong)

/-- 'curfewlaw02.CrcSeals': WHATEVER THE INPUT: true; the input reads as it did. -/
def crcSealsSpec : ChangeSpec := { name := "crcSeals", fn := fun _ => fun
  | [d1, d2] => { results := [.lit (.bool true)], args := [d1, d2] }
  | _ => none }
def crcSealsRow : OpenClaim := { program := "ytkeloeppploiaaa", sum := "612876e2e12c562320c592868e954b84a45c017828e8b0c2fa8549e15bd0340c", func := "curfew/curfewlaw02.CrcSeals", spec := "crcSeals", unfollowed := true, recurses := true, apart := false }
def CrcSealsSaid : Prop := crcSealsRow.holds Try.pinned (OpenSpec.ofChange crcSealsSpec)

/-- ITS FALSE NEIGHBOUR: 'it returns false'. Refute it at one input. -/
def crcSealsWrong : ChangeSpec := { name := "crcSeals", fn := fun _ => fun
  | [d1, d2] => { results := [.lit (.bool false)], args := [d1, d2] }
  | _ => none }
def CrcSealsWrongFalsely : Prop := crcSealsRow.holds Try.pinned (OpenSpec.ofChange crcSealsWrong)

/-- 'curfewlaw02.CrcBursts': WHATEVER THE INPUT: true; the input reads as it did. -/
def crcBurstsSpec : ChangeSpec := { name := "crcBursts", fn := fun _ => fun
  | [d1, d2, d3] => { results := [.lit (.bool true)], args := [d1, d2, d3] }
  | _ => none }
def crcBurstsRow : OpenClaim := { program := "ytkeloeppploiaaa", sum := "612876e2e12c562320c592868e954b84a45c017828e8b0c2fa8549e15bd0340c", func := "curfew/curfewlaw02.CrcBursts", spec := "crcBursts", unfollowed := true, recurses := true, apart := false }
def CrcBurstsSaid : Prop := crcBurstsRow.holds Try.pinned (OpenSpec.ofChange crcBurstsSpec)

/-- ITS FALSE NEIGHBOUR: 'it returns false'. Refute it at one input. -/
def crcBurstsWrong : ChangeSpec := { name := "crcBursts", fn := fun _ => fun
  | [d1, d2, d3] => { results := [.lit (.bool false)], args := [d1, d2, d3] }
  | _ => none }
def CrcBurstsWrongFalsely : Prop := crcBurstsRow.holds Try.pinned (OpenSpec.ofChange crcBurstsWrong)

/-- 'curfewlaw02.CrcApart': WHATEVER THE INPUT: true; the input reads as it did. -/
def crcApartSpec : ChangeSpec := { name := "crcApart", fn := fun _ => fun
  | [d1, d2] => { results := [.lit (.bool true)], args := [d1, d2] }
  | _ => none }
def crcApartRow : OpenClaim := { program := "ytkeloeppploiaaa", sum := "612876e2e12c562320c592868e954b84a45c017828e8b0c2fa8549e15bd0340c", func := "curfew/curfewlaw02.CrcApart", spec := "crcApart", unfollowed := true, recurses := true, apart := false }
def CrcApartSaid : Prop := crcApartRow.holds Try.pinned (OpenSpec.ofChange crcApartSpec)

/-- ITS FALSE NEIGHBOUR: 'it returns false'. Refute it at one input. -/
def crcApartWrong : ChangeSpec := { name := "crcApart", fn := fun _ => fun
  | [d1, d2] => { results := [.lit (.bool false)], args := [d1, d2] }
  | _ => none }
def CrcApartWrongFalsely : Prop := crcApartRow.holds Try.pinned (OpenSpec.ofChange crcApartWrong)

/- THE SECOND FORM. 'bulk': how many values and letters a reading holds, each counted each time it is reached (what is shared counts as often as it is met; a slice's spare places count too). A statement '..UptoSaid' is the law's where the arguments, and the package variables that the reading takes, are together of bulk at most 1048576: NARROWER than '..Said'. Prove '..Said' where nothing that the law and all that it calls make is longer than what came in: it says more and counts as full. Else prove '..UptoSaid'. A law counts once. -/
mutual
def uptoBulk {H : Type} : DataW H → Nat
  | .lit (.string bytes) => bytes.length + 1
  | .lit _ => 1
  | .nil => 1
  | .ptr d => uptoBulk d + 1
  | .slice elems spare => uptoBulkAll elems + uptoBulkAll spare + 1
  | .agg parts => uptoBulkAll parts + 1
  | .iface _ d => uptoBulk d + 1
  | .map entries => uptoBulkEntries entries + 1
  | .held _ => 1
def uptoBulkAll {H : Type} : List (DataW H) → Nat
  | [] => 0
  | d :: r => uptoBulk d + uptoBulkAll r
def uptoBulkEntries {H : Type} : List (Lit × DataW H) → Nat
  | [] => 0
  | x :: r => uptoBulkEntry x + uptoBulkEntries r
def uptoBulkEntry {H : Type} : Lit × DataW H → Nat
  | (.string bytes, d) => bytes.length + uptoBulk d + 1
  | (_, d) => uptoBulk d + 1
 end
def uptoSmall : (H : Type) → List (DataW H) → Bool := fun _ ds => decide (uptoBulkAll ds ≤ 1048576)
def OpenSpec.upto (s : _root_.Go.ChangeSpec) : _root_.Go.OpenSpec := { _root_.Go.OpenSpec.ofChange s with cond := some uptoSmall }

/-- 'curfewlaw01.QuillWrites', WHERE WHAT IT READS IS OF BULK AT MOST 1048576: true; the input reads as it did. -/
def quillWritesUptoRow : OpenClaim := { program := "ytkeloeppploiaaa", sum := "612876e2e12c562320c592868e954b84a45c017828e8b0c2fa8549e15bd0340c", func := "curfew/curfewlaw01.QuillWrites", spec := "quillWrites", unfollowed := true, recurses := true, apart := false, narrowed := true }
def QuillWritesUptoSaid : Prop := quillWritesUptoRow.holds Try.pinned (OpenSpec.upto quillWritesSpec)

/-- 'curfewlaw01.QuillReads', WHERE WHAT IT READS IS OF BULK AT MOST 1048576: true; the input reads as it did. -/
def quillReadsUptoRow : OpenClaim := { program := "ytkeloeppploiaaa", sum := "612876e2e12c562320c592868e954b84a45c017828e8b0c2fa8549e15bd0340c", func := "curfew/curfewlaw01.QuillReads", spec := "quillReads", unfollowed := true, recurses := true, apart := false, narrowed := true }
def QuillReadsUptoSaid : Prop := quillReadsUptoRow.holds Try.pinned (OpenSpec.upto quillReadsSpec)

/-- 'curfewlaw01.QuillBack', WHERE WHAT IT READS IS OF BULK AT MOST 1048576: true; the input reads as it did. -/
def quillBackUptoRow : OpenClaim := { program := "ytkeloeppploiaaa", sum := "612876e2e12c562320c592868e954b84a45c017828e8b0c2fa8549e15bd0340c", func := "curfew/curfewlaw01.QuillBack", spec := "quillBack", unfollowed := true, recurses := true, apart := false, narrowed := true }
def QuillBackUptoSaid : Prop := quillBackUptoRow.holds Try.pinned (OpenSpec.upto quillBackSpec)

/-- 'curfewlaw01.QuillOnce', WHERE WHAT IT READS IS OF BULK AT MOST 1048576: true; the input reads as it did. -/
def quillOnceUptoRow : OpenClaim := { program := "ytkeloeppploiaaa", sum := "612876e2e12c562320c592868e954b84a45c017828e8b0c2fa8549e15bd0340c", func := "curfew/curfewlaw01.QuillOnce", spec := "quillOnce", unfollowed := true, recurses := true, apart := false, narrowed := true }
def QuillOnceUptoSaid : Prop := quillOnceUptoRow.holds Try.pinned (OpenSpec.upto quillOnceSpec)

/-- 'curfewlaw01.QuillNobody', WHERE WHAT IT READS IS OF BULK AT MOST 1048576: true; the input reads as it did. -/
def quillNobodyUptoRow : OpenClaim := { program := "ytkeloeppploiaaa", sum := "612876e2e12c562320c592868e954b84a45c017828e8b0c2fa8549e15bd0340c", func := "curfew/curfewlaw01.QuillNobody", spec := "quillNobody", unfollowed := true, recurses := true, apart := false, narrowed := true }
def QuillNobodyUptoSaid : Prop := quillNobodyUptoRow.holds Try.pinned (OpenSpec.upto quillNobodySpec)

/-- 'curfewlaw02.CrcSums', WHERE WHAT IT READS IS OF BULK AT MOST 1048576: true; the input reads as it did. -/
def crcSumsUptoRow : OpenClaim := { program := "ytkeloeppploiaaa", sum := "612876e2e12c562320c592868e954b84a45c017828e8b0c2fa8549e15bd0340c", func := "curfew/curfewlaw02.CrcSums", spec := "crcSums", unfollowed := true, recurses := true, apart := false, narrowed := true }
def CrcSumsUptoSaid : Prop := crcSumsUptoRow.holds Try.pinned (OpenSpec.upto crcSumsSpec)

/-- 'curfewlaw02.CrcSeals', WHERE WHAT IT READS IS OF BULK AT MOST 1048576: true; the input reads as it did. -/
def crcSealsUptoRow : OpenClaim := { program := "ytkeloeppploiaaa", sum := "612876e2e12c562320c592868e954b84a45c017828e8b0c2fa8549e15bd0340c", func := "curfew/curfewlaw02.CrcSeals", spec := "crcSeals", unfollowed := true, recurses := true, apart := false, narrowed := true }
def CrcSealsUptoSaid : Prop := crcSealsUptoRow.holds Try.pinned (OpenSpec.upto crcSealsSpec)

/-- 'curfewlaw02.CrcBursts', WHERE WHAT IT READS IS OF BULK AT MOST 1048576: true; the input reads as it did. -/
def crcBurstsUptoRow : OpenClaim := { program := "ytkeloeppploiaaa", sum := "612876e2e12c562320c592868e954b84a45c017828e8b0c2fa8549e15bd0340c", func := "curfew/curfewlaw02.CrcBursts", spec := "crcBursts", unfollowed := true, recurses := true, apart := false, narrowed := true }
def CrcBurstsUptoSaid : Prop := crcBurstsUptoRow.holds Try.pinned (OpenSpec.upto crcBurstsSpec)

/-- 'curfewlaw02.CrcApart', WHERE WHAT IT READS IS OF BULK AT MOST 1048576: true; the input reads as it did. -/
def crcApartUptoRow : OpenClaim := { program := "ytkeloeppploiaaa", sum := "612876e2e12c562320c592868e954b84a45c017828e8b0c2fa8549e15bd0340c", func := "curfew/curfewlaw02.CrcApart", spec := "crcApart", unfollowed := true, recurses := true, apart := false, narrowed := true }
def CrcApartUptoSaid : Prop := crcApartUptoRow.holds Try.pinned (OpenSpec.upto crcApartSpec)

end Rows
end Go.Proofs.Ytkeloeppploiaaa

/-
  No cell of these rows narrows 'for every input' (looked for: loops, veiled, ifaces, maps, wideKeys, modest, calm, conditions, laid).
  DERIVED. THE GIVEN ROWS OF THIS SEAT. 8 by the template 'for every input the law returns true; each argument reads behind the call as it read before'; 0 by the template 'total and deterministic' (their statements: YtfakgemifbgafaaTotals.lean).
  GIVEN WITH THE SEED: the statements are not yours to turn. If you find one false, say at which input.
  Laid BY PROGRAM, IN A SANDBOX (cutbox-rows.mjs): the forced cells as the released guide's own fill.sh prints them over the translation 242dd155ddb58b56… (all of the seat's roots in one cut). By AI agents, Wed Nov 11 2026. No macro, syntax, notation, axiom, sorry.
-/
import Derived.Test.YtfakgemifbgafaaChecked
import GoSem.Claim
import GoSem.ClaimJoined
import GoSem.ClaimMapViews
import Derived.JoinedTies
import Derived.KernelRfl
namespace Go.Proofs.Ytfakgemifbgafaa
/- THE CELL 'sum', in the pinned program and in every row, IS THE sha256 OF THE DUMP (.gsa) THAT YtfakgemifbgafaaProg.lean LOADS. Nothing in Lean hashes anything: it is a label: what it is worth is what the hold of that sum in a sandbox is worth. -/
noncomputable def Try.pinned : Pinned := { name := "ytfakgemifbgafaa", sum := "242dd155ddb58b565afd68e193665886c55c3c2d9b13284335e3058148c5275f", checked := Try.checked }
namespace Rows
def none {H : Type} : Left H := { results := [], args := [] }

/-- 'curfewlaw04.LazyChain': WHATEVER THE INPUT: true; the input reads as it did. -/
def lazyChainSpec : ChangeSpec := { name := "lazyChain", fn := fun _ => fun
  | [d1, d2] => { results := [.lit (.bool true)], args := [d1, d2] }
  | _ => none }
def lazyChainRow : OpenClaim := { program := "ytfakgemifbgafaa", sum := "242dd155ddb58b565afd68e193665886c55c3c2d9b13284335e3058148c5275f", func := "curfew/curfewlaw04.LazyChain", spec := "lazyChain", inPlace := ["sync/atomic.LoadUint32", "sync/atomic.AddInt64", "sync/atomic.StoreUint32", "(*internal/sync.Mutex).Lock", "internal/race.Disable", "sync/atomic.CompareAndSwapInt32", "internal/race.Enable", "internal/race.Acquire", "(*internal/sync.Mutex).lockSlow", "internal/sync.runtime_canSpin", "internal/sync.runtime_doSpin", "internal/sync.throw", "internal/sync.runtime_nanotime", "internal/sync.runtime_SemacquireMutex", "sync/atomic.AddInt32", "(*internal/sync.Mutex).Unlock", "internal/race.ReleaseMerge", "(*internal/sync.Mutex).unlockSlow", "internal/sync.fatal", "internal/sync.runtime_Semrelease", "sync/atomic.LoadInt64"], unfollowed := true, recurses := true, apart := false }
def LazyChainSaid : Prop := lazyChainRow.holds Try.pinned (OpenSpec.ofChange lazyChainSpec)

/-- ITS FALSE NEIGHBOUR: 'it returns false'. Refute it at one input. -/
def lazyChainWrong : ChangeSpec := { name := "lazyChain", fn := fun _ => fun
  | [d1, d2] => { results := [.lit (.bool false)], args := [d1, d2] }
  | _ => none }
def LazyChainWrongFalsely : Prop := lazyChainRow.holds Try.pinned (OpenSpec.ofChange lazyChainWrong)

/-- 'curfewlaw04.LazyRows': WHATEVER THE INPUT: true; the input reads as it did. -/
def lazyRowsSpec : ChangeSpec := { name := "lazyRows", fn := fun _ => fun
  | [d1, d2] => { results := [.lit (.bool true)], args := [d1, d2] }
  | _ => none }
def lazyRowsRow : OpenClaim := { program := "ytfakgemifbgafaa", sum := "242dd155ddb58b565afd68e193665886c55c3c2d9b13284335e3058148c5275f", func := "curfew/curfewlaw04.LazyRows", spec := "lazyRows", inPlace := ["sync/atomic.LoadUint32", "sync/atomic.AddInt64", "sync/atomic.StoreUint32", "(*internal/sync.Mutex).Lock", "internal/race.Disable", "sync/atomic.CompareAndSwapInt32", "internal/race.Enable", "internal/race.Acquire", "(*internal/sync.Mutex).lockSlow", "internal/sync.runtime_canSpin", "internal/sync.runtime_doSpin", "internal/sync.throw", "internal/sync.runtime_nanotime", "internal/sync.runtime_SemacquireMutex", "sync/atomic.AddInt32", "(*internal/sync.Mutex).Unlock", "internal/race.ReleaseMerge", "(*internal/sync.Mutex).unlockSlow", "internal/sync.fatal", "internal/sync.runtime_Semrelease", "sync/atomic.LoadInt64"], unfollowed := true, recurses := true, apart := false }
def LazyRowsSaid : Prop := lazyRowsRow.holds Try.pinned (OpenSpec.ofChange lazyRowsSpec)

/-- ITS FALSE NEIGHBOUR: 'it returns false'. Refute it at one input. -/
def lazyRowsWrong : ChangeSpec := { name := "lazyRows", fn := fun _ => fun
  | [d1, d2] => { results := [.lit (.bool false)], args := [d1, d2] }
  | _ => none }
def LazyRowsWrongFalsely : Prop := lazyRowsRow.holds Try.pinned (OpenSpec.ofChange lazyRowsWrong)

/-- 'curfewlaw05.MeterPlays': WHATEVER THE INPUT: true; the input reads as it did. -/
def meterPlaysSpec : ChangeSpec := { name := "meterPlays", fn := fun _ => fun
  | [d1, d2] => { results := [.lit (.bool true)], args := [d1, d2] }
  | _ => none }
def meterPlaysRow : OpenClaim := { program := "ytfakgemifbgafaa", sum := "242dd155ddb58b565afd68e193665886c55c3c2d9b13284335e3058148c5275f", func := "curfew/curfewlaw05.MeterPlays", spec := "meterPlays", inPlace := ["sync/atomic.LoadUint64", "sync/atomic.CompareAndSwapUint64"], unfollowed := true, recurses := true, apart := false }
def MeterPlaysSaid : Prop := meterPlaysRow.holds Try.pinned (OpenSpec.ofChange meterPlaysSpec)

/-- ITS FALSE NEIGHBOUR: 'it returns false'. Refute it at one input. -/
def meterPlaysWrong : ChangeSpec := { name := "meterPlays", fn := fun _ => fun
  | [d1, d2] => { results := [.lit (.bool false)], args := [d1, d2] }
  | _ => none }
def MeterPlaysWrongFalsely : Prop := meterPlaysRow.holds Try.pinned (OpenSpec.ofChange meterPlaysWrong)

/-- 'curfewlaw05.MeterOnce': WHATEVER THE INPUT: true; the input reads as it did. -/
def meterOnceSpec : ChangeSpec := { name := "meterOnce", fn := fun _ => fun
  | [d1, d2] => { results := [.lit (.bool true)], args := [d1, d2] }
  | _ => none }
def meterOnceRow : OpenClaim := { program := "ytfakgemifbgafaa", sum := "242dd155ddb58b565afd68e193665886c55c3c2d9b13284335e3058148c5275f", func := "curfew/curfewlaw05.MeterOnce", spec := "meterOnce", inPlace := ["sync/atomic.LoadUint64", "sync/atomic.CompareAndSwapUint64"], unfollowed := true, recurses := true, apart := false }
def MeterOnceSaid : Prop := meterOnceRow.holds Try.pinned (OpenSpec.ofChange meterOnceSpec)

/-- ITS FALSE NEIGHBOUR: 'it returns false'. Refute it at one input. -/
def meterOnceWrong : ChangeSpec := { name := "meterOnce", fn := fun _ => fun
  | [d1, d2] => { results := [.lit (.bool false)], args := [d1, d2] }
  | _ => none }
def MeterOnceWrongFalsely : Prop := meterOnceRow.holds Try.pinned (OpenSpec.ofChange meterOnceWrong)

/-- 'curfewlaw05.MeterSizes': WHATEVER THE INPUT: true; the input reads as it did. -/
def meterSizesSpec : ChangeSpec := { name := "meterSizes", fn := fun _ => fun
  | [d1, d2, d3] => { results := [.lit (.bool true)], args := [d1, d2, d3] }
  | _ => none }
def meterSizesRow : OpenClaim := { program := "ytfakgemifbgafaa", sum := "242dd155ddb58b565afd68e193665886c55c3c2d9b13284335e3058148c5275f", func := "curfew/curfewlaw05.MeterSizes", spec := "meterSizes", inPlace := ["sync/atomic.LoadUint64", "sync/atomic.CompareAndSwapUint64"], unfollowed := true, recurses := true, apart := false }
def MeterSizesSaid : Prop := meterSizesRow.holds Try.pinned (OpenSpec.ofChange meterSizesSpec)

/-- ITS FALSE NEIGHBOUR: 'it returns false'. Refute it at one input. -/
def meterSizesWrong : ChangeSpec := { name := "meterSizes", fn := fun _ => fun
  | [d1, d2, d3] => { results := [.lit (.bool false)], args := [d1, d2, d3] }
  | _ => none }
def MeterSizesWrongFalsely : Prop := meterSizesRow.holds Try.pinned (OpenSpec.ofChange meterSizesWrong)

/-- 'curfewlaw06.DicePlay': WHATEVER THE INPUT: true; the input reads as it did. -/
def dicePlaySpec : ChangeSpec := { name := "dicePlay", fn := fun _ => fun
  | [d1, d2] => { results := [.lit (.bool true)], args := [d1, d2] }
  | _ => none }
def dicePlayRow : OpenClaim := { program := "ytfakgemifbgafaa", sum := "242dd155ddb58b565afd68e193665886c55c3c2d9b13284335e3058148c5275f", func := "curfew/curfewlaw06.DicePlay", spec := "dicePlay", unfollowed := true, recurses := true, apart := false }
def DicePlaySaid : Prop := dicePlayRow.holds Try.pinned (OpenSpec.ofChange dicePlaySpec)

/-- ITS FALSE NEIGHBOUR: 'it returns false'. Refute it at one input. -/
def dicePlayWrong : ChangeSpec := { name := "dicePlay", fn := fun _ => fun
  | [d1, d2] => { results := [.lit (.bool false)], args := [d1, d2] }
  | _ => none }
def DicePlayWrongFalsely : Prop := dicePlayRow.holds Try.pinned (OpenSpec.ofChange dicePlayWrong)

/-- 'curfewlaw06.DiceBounds': WHATEVER THE INPUT: true; the input reads as it did. -/
def diceBoundsSpec : ChangeSpec := { name := "diceBounds", fn := fun _ => fun
  | [d1, d2, d3, d4, d5] => { results := [.lit (.bool true)], args := [d1, d2, d3, d4, d5] }
  | _ => none }
def diceBoundsRow : OpenClaim := { program := "ytfakgemifbgafaa", sum := "242dd155ddb58b565afd68e193665886c55c3c2d9b13284335e3058148c5275f", func := "curfew/curfewlaw06.DiceBounds", spec := "diceBounds", unfollowed := true, recurses := true, apart := false }
def DiceBoundsSaid : Prop := diceBoundsRow.holds Try.pinned (OpenSpec.ofChange diceBoundsSpec)

/-- ITS FALSE NEIGHBOUR: 'it returns false'. Refute it at one input. -/
def diceBoundsWrong : ChangeSpec := { name := "diceBounds", fn := fun _ => fun
  | [d1, d2, d3, d4, d5] => { results := [.lit (.bool false)], args := [d1, d2, d3, d4, d5] }
  | _ => none }
def DiceBoundsWrongFalsely : Prop := diceBoundsRow.holds Try.pinned (OpenSpec.ofChange diceBoundsWrong)

/-- 'curfewlaw06.DiceSame': WHATEVER THE INPUT: true; the input reads as it did. -/
def diceSameSpec : ChangeSpec := { name := "diceSame", fn := fun _ => fun
  | [d1, d2, d3, d4, d5] => { results := [.lit (.bool true)], args := [d1, d2, d3, d4, d5] }
  | _ => none }
def diceSameRow : OpenClaim := { program := "ytfakgemifbgafaa", sum := "242dd155ddb58b565afd68e193665886c55c3c2d9b13284335e3058148c5275f", func := "curfew/curfewlaw06.DiceSame", spec := "diceSame", unfollowed := true, recurses := true, apart := false }
def DiceSameSaid : Prop := diceSameRow.holds Try.pinned (OpenSpec.ofChange diceSameSpec)

/-- ITS FALSE NEIGHBOUR: 'it returns false'. Refute it at one input. -/
def diceSameWrong : ChangeSpec := { name := "diceSame", fn := fun _ => fun
  | [d1, d2, d3, d4, d5] => { results := [.lit (.bool false)], args := [d1, d2, d3, d4, d5] }
  | _ => none }
def DiceSameWrongFalsely : Prop := diceSameRow.holds Try.pinned (OpenSpec.ofChange diceSameWrong)

/- THE SECOND FORM. 'bulk': how many values and letters a reading holds, each counted each time it is reached (what is shared counts as often as it is met; a slice's spare places count too). A statement '..UptoSaid' is the law's where the arguments, and the package variables that the reading takes, are together of bulk at most 1048576: NARROWER than '..Said'. Prove '..Said' where nothing that the law and all that it calls make is longer than what came in: it says more and counts as full. Else prove '..UptoSaid'. A law counts once. -/
mutual
def uptoBulk {H : Type} : DataW H → Nat
  | .lit (.string bytes) => bytes.length + 1
  | .lit _ => 1
  | .nil => 1
  | .ptr d => uptoBulk d + 1
  | .slice elems spare => uptoBulkAll elems + uptoBulkAll spare + 1
  | .agg parts => uptoBulkAll parts + 1
  | .iface _ d => uptoBulk d + 1
  | .map entries => uptoBulkEntries entries + 1
  | .held _ => 1
def uptoBulkAll {H : Type} : List (DataW H) → Nat
  | [] => 0
  | d :: r => uptoBulk d + uptoBulkAll r
def uptoBulkEntries {H : Type} : List (Lit × DataW H) → Nat
  | [] => 0
  | x :: r => uptoBulkEntry x + uptoBulkEntries r
def uptoBulkEntry {H : Type} : Lit × DataW H → Nat
  | (.string bytes, d) => bytes.length + uptoBulk d + 1
  | (_, d) => uptoBulk d + 1
 end
def uptoSmall : (H : Type) → List (DataW H) → Bool := fun _ ds => decide (uptoBulkAll ds ≤ 1048576)
def OpenSpec.upto (s : _root_.Go.ChangeSpec) : _root_.Go.OpenSpec := { _root_.Go.OpenSpec.ofChange s with cond := some uptoSmall }

/-- 'curfewlaw04.LazyChain', WHERE WHAT IT READS IS OF BULK AT MOST 1048576: true; the input reads as it did. -/
def lazyChainUptoRow : OpenClaim := { program := "ytfakgemifbgafaa", sum := "242dd155ddb58b565afd68e193665886c55c3c2d9b13284335e3058148c5275f", func := "curfew/curfewlaw04.LazyChain", spec := "lazyChain", inPlace := ["sync/atomic.LoadUint32", "sync/atomic.AddInt64", "sync/atomic.StoreUint32", "(*internal/sync.Mutex).Lock", "internal/race.Disable", "sync/atomic.CompareAndSwapInt32", "internal/race.Enable", "internal/race.Acquire", "(*internal/sync.Mutex).lockSlow", "internal/sync.runtime_canSpin", "internal/sync.runtime_doSpin", "internal/sync.throw", "internal/sync.runtime_nanotime", "internal/sync.runtime_SemacquireMutex", "sync/atomic.AddInt32", "(*internal/sync.Mutex).Unlock", "internal/race.ReleaseMerge", "(*internal/sync.Mutex).unlockSlow", "internal/sync.fatal", "internal/sync.runtime_Semrelease", "sync/atomic.LoadInt64"], unfollowed := true, recurses := true, apart := false, narrowed := true }
def LazyChainUptoSaid : Prop := lazyChainUptoRow.holds Try.pinned (OpenSpec.upto lazyChainSpec)

/-- 'curfewlaw04.LazyRows', WHERE WHAT IT READS IS OF BULK AT MOST 1048576: true; the input reads as it did. -/
def lazyRowsUptoRow : OpenClaim := { program := "ytfakgemifbgafaa", sum := "242dd155ddb58b565afd68e193665886c55c3c2d9b13284335e3058148c5275f", func := "curfew/curfewlaw04.LazyRows", spec := "lazyRows", inPlace := ["sync/atomic.LoadUint32", "sync/atomic.AddInt64", "sync/atomic.StoreUint32", "(*internal/sync.Mutex).Lock", "internal/race.Disable", "sync/atomic.CompareAndSwapInt32", "internal/race.Enable", "internal/race.Acquire", "(*internal/sync.Mutex).lockSlow", "internal/sync.runtime_canSpin", "internal/sync.runtime_doSpin", "internal/sync.throw", "internal/sync.runtime_nanotime", "internal/sync.runtime_SemacquireMutex", "sync/atomic.AddInt32", "(*internal/sync.Mutex).Unlock", "internal/race.ReleaseMerge", "(*internal/sync.Mutex).unlockSlow", "internal/sync.fatal", "internal/sync.runtime_Semrelease", "sync/atomic.LoadInt64"], unfollowed := true, recurses := true, apart := false, narrowed := true }
def LazyRowsUptoSaid : Prop := lazyRowsUptoRow.holds Try.pinned (OpenSpec.upto lazyRowsSpec)

/-- 'curfewlaw05.MeterPlays', WHERE WHAT IT READS IS OF BULK AT MOST 1048576: true; the input reads as it did. -/
def meterPlaysUptoRow : OpenClaim := { program := "ytfakgemifbgafaa", sum := "242dd155ddb58b565afd68e193665886c55c3c2d9b13284335e3058148c5275f", func := "curfew/curfewlaw05.MeterPlays", spec := "meterPlays", inPlace := ["sync/atomic.LoadUint64", "sync/atomic.CompareAndSwapUint64"], unfollowed := true, recurses := true, apart := false, narrowed := true }
def MeterPlaysUptoSaid : Prop := meterPlaysUptoRow.holds Try.pinned (OpenSpec.upto meterPlaysSpec)

/-- 'curfewlaw05.MeterOnce', WHERE WHAT IT READS IS OF BULK AT MOST 1048576: true; the input reads as it did. -/
def meterOnceUptoRow : OpenClaim := { program := "ytfakgemifbgafaa", sum := "242dd155ddb58b565afd68e193665886c55c3c2d9b13284335e3058148c5275f", func := "curfew/curfewlaw05.MeterOnce", spec := "meterOnce", inPlace := ["sync/atomic.LoadUint64", "sync/atomic.CompareAndSwapUint64"], unfollowed := true, recurses := true, apart := false, narrowed := true }
def MeterOnceUptoSaid : Prop := meterOnceUptoRow.holds Try.pinned (OpenSpec.upto meterOnceSpec)

/-- 'curfewlaw05.MeterSizes', WHERE WHAT IT READS IS OF BULK AT MOST 1048576: true; the input reads as it did. -/
def meterSizesUptoRow : OpenClaim := { program := "ytfakgemifbgafaa", sum := "242dd155ddb58b565afd68e193665886c55c3c2d9b13284335e3058148c5275f", func := "curfew/curfewlaw05.MeterSizes", spec := "meterSizes", inPlace := ["sync/atomic.LoadUint64", "sync/atomic.CompareAndSwapUint64"], unfollowed := true, recurses := true, apart := false, narrowed := true }
def MeterSizesUptoSaid : Prop := meterSizesUptoRow.holds Try.pinned (OpenSpec.upto meterSizesSpec)

/-- 'curfewlaw06.DicePlay', WHERE WHAT IT READS IS OF BULK AT MOST 1048576: true; the input reads as it did. -/
def dicePlayUptoRow : OpenClaim := { program := "ytfakgemifbgafaa", sum := "242dd155ddb58b565afd68e193665886c55c3c2d9b13284335e3058148c5275f", func := "curfew/curfewlaw06.DicePlay", spec := "dicePlay", unfollowed := true, recurses := true, apart := false, narrowed := true }
def DicePlayUptoSaid : Prop := dicePlayUptoRow.holds Try.pinned (OpenSpec.upto dicePlaySpec)

/-- 'curfewlaw06.DiceBounds', WHERE WHAT IT READS IS OF BULK AT MOST 1048576: true; the input reads as it did. -/
def diceBoundsUptoRow : OpenClaim := { program := "ytfakgemifbgafaa", sum := "242dd155ddb58b565afd68e193665886c55c3c2d9b13284335e3058148c5275f", func := "curfew/curfewlaw06.DiceBounds", spec := "diceBounds", unfollowed := true, recurses := true, apart := false, narrowed := true }
def DiceBoundsUptoSaid : Prop := diceBoundsUptoRow.holds Try.pinned (OpenSpec.upto diceBoundsSpec)

/-- 'curfewlaw06.DiceSame', WHERE WHAT IT READS IS OF BULK AT MOST 1048576: true; the input reads as it did. -/
def diceSameUptoRow : OpenClaim := { program := "ytfakgemifbgafaa", sum := "242dd155ddb58b565afd68e193665886c55c3c2d9b13284335e3058148c5275f", func := "curfew/curfewlaw06.DiceSame", spec := "diceSame", unfollowed := true, recurses := true, apart := false, narrowed := true }
def DiceSameUptoSaid : Prop := diceSameUptoRow.holds Try.pinned (OpenSpec.upto diceSameSpec)

end Rows
end Go.Proofs.Ytfakgemifbgafaa

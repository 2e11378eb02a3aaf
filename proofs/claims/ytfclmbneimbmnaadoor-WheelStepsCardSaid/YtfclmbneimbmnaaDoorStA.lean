/- The shelf's laying of slices.insertionSortCmpFunc at this program's things, in plain words. -/
import Derived.Test.YtfclmbneimbmnaaDoorRows
import Derived.Shelf.SlLaysF0
import Derived.KernelRfl
namespace Go.Proofs.YtfclmbneimbmnaaDoor
open Go.Shelf
def insTh_ren : Go.Shelf.Ren := ⟨fun | 20 => 128 | n => n, fun | 24 => 27 | 22 => 22 | 3 => 3 | 25 => 136 | 4 => 4 | 0 => 0 | n => n, fun | n => n⟩
set_option maxRecDepth 100000 in
theorem insTh : SlLaysF0.n20 Tryd.prog insTh_ren := {
  mixed := by kernel_rfl,
  f20 := ⟨Tryd.f128.name, by decide, Tryd.func128.trans (congrArg some (by kernel_rfl))⟩,
  t0 := Tryd.underlying0,
  a0 := Tryd.isAgg0,
  z0 := Tryd.sizeOf0,
  v0 := Tryd.zeroValue0,
  t3 := Tryd.underlying3,
  a3 := Tryd.isAgg3,
  z3 := Tryd.sizeOf3,
  v3 := Tryd.zeroValue3,
  t4 := Tryd.underlying4,
  a4 := Tryd.isAgg4,
  z4 := Tryd.sizeOf4,
  v4 := Tryd.zeroValue4,
  t22 := Tryd.underlying22,
  a22 := Tryd.isAgg22,
  z22 := Tryd.sizeOf22,
  v22 := Tryd.zeroValue22,
  t25 := Tryd.underlying136,
  a25 := Tryd.isAgg136,
  z25 := Tryd.sizeOf136,
  v25 := Tryd.zeroValue136 }
end Go.Proofs.YtfclmbneimbmnaaDoor

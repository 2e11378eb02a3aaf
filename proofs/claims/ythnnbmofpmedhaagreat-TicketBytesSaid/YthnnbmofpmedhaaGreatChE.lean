/- The reference's first step. -/
import Derived.Test.YthnnbmofpmedhaaGreatChD
import Derived.Deep.RegionHeld3
namespace Go.Proofs.YthnnbmofpmedhaaGreat
open Go.RowKit
end Go.Proofs.YthnnbmofpmedhaaGreat

/- Tickets: Resolve, Ahead. -/
import Derived.Test.YthnnbmofpmedhaaGreatTkC
namespace Go.Proofs.YthnnbmofpmedhaaGreat
open Go.RowKit
end Go.Proofs.YthnnbmofpmedhaaGreat

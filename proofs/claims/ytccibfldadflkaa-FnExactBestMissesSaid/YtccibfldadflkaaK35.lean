/- The texts N4 N5, joined. No statement is proved here. -/
import Derived.Test.YtccibfldadflkaaK08
import Derived.Deep.RegionHeld3
/- Contracts of the laws' own helpers for nests: comparisons. -/
namespace Go.Proofs.Ytccibfldadflkaa
open Go.RowKit

end Go.Proofs.Ytccibfldadflkaa

/- Contracts: sides of loops, validity of nests. -/
namespace Go.Proofs.Ytccibfldadflkaa
open Go.RowKit

end Go.Proofs.Ytccibfldadflkaa

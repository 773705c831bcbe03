/- The texts N4 N5, joined. No statement is proved here. -/
import Derived.Test.YtggpjapmhakklaaK40
import Derived.Deep.RegionHeld3
/- Contracts of the laws' own helpers for nests: comparisons. -/
namespace Go.Proofs.Ytggpjapmhakklaa
open Go.RowKit

end Go.Proofs.Ytggpjapmhakklaa

/- Contracts: sides of loops, validity of nests. -/
namespace Go.Proofs.Ytggpjapmhakklaa
open Go.RowKit

end Go.Proofs.Ytggpjapmhakklaa

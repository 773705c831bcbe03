/- The texts D6 N7, joined. No statement is proved here. -/
import Derived.Test.YtggpjapmhakklaaK16
import Derived.Deep.RegionHeld3
import Derived.Test.YtggpjapmhakklaaK07
/- Draws: a valid expression. -/
namespace Go.Proofs.Ytggpjapmhakklaa
open Go.RowKit

end Go.Proofs.Ytggpjapmhakklaa

/- Contracts: comparisons of loops and nests. -/
namespace Go.Proofs.Ytggpjapmhakklaa
open Go.RowKit

end Go.Proofs.Ytggpjapmhakklaa

/- The texts A14 A15, joined. No statement is proved here. -/
import Derived.Test.YtggpjapmhakklaaK27
import Derived.Test.YtggpjapmhakklaaK35
import Derived.Test.YtggpjapmhakklaaK34
import Derived.Deep.RegionHeld3
/- Contracts: multiples. -/
namespace Go.Proofs.Ytggpjapmhakklaa
open Go.RowKit

end Go.Proofs.Ytggpjapmhakklaa

/- Contracts: substitutions. -/
namespace Go.Proofs.Ytggpjapmhakklaa
open Go.RowKit

end Go.Proofs.Ytggpjapmhakklaa

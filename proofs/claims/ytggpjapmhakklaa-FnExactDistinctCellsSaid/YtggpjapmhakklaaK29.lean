/- The texts N5b N6, joined. No statement is proved here. -/
import Derived.Test.YtggpjapmhakklaaK32
import Derived.Test.YtggpjapmhakklaaK34
import Derived.Test.YtggpjapmhakklaaK30
/- Contract: linearWithin. -/
namespace Go.Proofs.Ytggpjapmhakklaa
open Go.RowKit

end Go.Proofs.Ytggpjapmhakklaa

/- Contracts: validity of nests. -/
namespace Go.Proofs.Ytggpjapmhakklaa
open Go.RowKit

end Go.Proofs.Ytggpjapmhakklaa

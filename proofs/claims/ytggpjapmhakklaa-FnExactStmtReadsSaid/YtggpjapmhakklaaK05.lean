/- The texts A13 D2, joined. No statement is proved here. -/
import Derived.Test.YtggpjapmhakklaaK15
/- Contracts: the model's sums and multiples. -/
namespace Go.Proofs.Ytggpjapmhakklaa
open Go.RowKit

end Go.Proofs.Ytggpjapmhakklaa

/- A number from the source. -/
namespace Go.Proofs.Ytggpjapmhakklaa
open Go.RowKit

end Go.Proofs.Ytggpjapmhakklaa

/- The texts D7 D8, joined. No statement is proved here. -/
import Derived.Test.YtggpjapmhakklaaK33
import Derived.Test.YtggpjapmhakklaaK11
/- Draws: a copy of an expression, sometimes made invalid. -/
namespace Go.Proofs.Ytggpjapmhakklaa
open Go.RowKit

end Go.Proofs.Ytggpjapmhakklaa

/- Draws: the arguments of AddAffine. -/
namespace Go.Proofs.Ytggpjapmhakklaa
open Go.RowKit

end Go.Proofs.Ytggpjapmhakklaa

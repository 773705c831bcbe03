/- The texts A9 N1, joined. No statement is proved here. -/
import Derived.Test.YtggpjapmhakklaaK34
import Derived.Test.YtggpjapmhakklaaK03
/- Contracts: EvalAffine and its model. -/
namespace Go.Proofs.Ytggpjapmhakklaa
open Go.RowKit

end Go.Proofs.Ytggpjapmhakklaa

/- Contracts of the laws' own helpers for lists of expressions and nests: sizes. -/
namespace Go.Proofs.Ytggpjapmhakklaa
open Go.RowKit

end Go.Proofs.Ytggpjapmhakklaa

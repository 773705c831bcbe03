/- Draws: a copy of an expression, sometimes made invalid. -/
import Derived.Test.YtkcbnkgegopkhaaD6
import Derived.Test.YtkcbnkgegopkhaaA17
namespace Go.Proofs.Ytkcbnkgegopkhaa
open Go.RowKit

end Go.Proofs.Ytkcbnkgegopkhaa

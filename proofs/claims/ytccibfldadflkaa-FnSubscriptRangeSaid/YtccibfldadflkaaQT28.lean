/- The texts N7, joined. No statement is proved here. -/
import Derived.Test.YtccibfldadflkaaQT10
/- Contracts: comparisons of loops and nests. -/
namespace Go.Proofs.Ytccibfldadflkaa
open Go.RowKit

end Go.Proofs.Ytccibfldadflkaa

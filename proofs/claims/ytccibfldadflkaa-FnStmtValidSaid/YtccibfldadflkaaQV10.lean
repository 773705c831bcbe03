/- The texts N6, joined. No statement is proved here. -/
import Derived.Test.YtccibfldadflkaaQV09
/- Contracts: validity of nests. -/
namespace Go.Proofs.Ytccibfldadflkaa
open Go.RowKit

end Go.Proofs.Ytccibfldadflkaa

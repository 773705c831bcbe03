/- The texts A13 A14 N1, joined. No statement is proved here. -/
import Derived.Test.YtccibfldadflkaaQT04
import Derived.Test.YtccibfldadflkaaQT03
import Derived.Test.YtccibfldadflkaaQT06
import Derived.Deep.RegionHeld3
import Derived.Test.YtccibfldadflkaaQT44
import Derived.Test.YtccibfldadflkaaQT39
/- Contracts: the model's sums and multiples. -/
namespace Go.Proofs.Ytccibfldadflkaa
open Go.RowKit

end Go.Proofs.Ytccibfldadflkaa

/- Contracts: multiples. -/
namespace Go.Proofs.Ytccibfldadflkaa
open Go.RowKit

end Go.Proofs.Ytccibfldadflkaa

/- Contracts of the laws' own helpers for lists of expressions and nests: sizes. -/
namespace Go.Proofs.Ytccibfldadflkaa
open Go.RowKit

end Go.Proofs.Ytccibfldadflkaa

/- The texts S1 N10, joined. No statement is proved here. -/
import Derived.Test.YtccibfldadflkaaQS48
import Derived.Test.YtccibfldadflkaaQS10
import Derived.Test.YtccibfldadflkaaQS30
import Derived.Test.YtccibfldadflkaaQS45
import Derived.Deep.RegionLaw
/- Sizes of statements. No statement is proved here. -/
namespace Go.Proofs.Ytccibfldadflkaa
open Go.RowKit

end Go.Proofs.Ytccibfldadflkaa

/- Contract: the model's equality of nests. -/
namespace Go.Proofs.Ytccibfldadflkaa
open Go.RowKit

end Go.Proofs.Ytccibfldadflkaa

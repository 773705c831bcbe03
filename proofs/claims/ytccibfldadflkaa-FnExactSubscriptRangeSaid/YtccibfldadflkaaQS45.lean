/- The texts A13 A9 Hd, joined. No statement is proved here. -/
import Derived.Test.YtccibfldadflkaaQS07
import Derived.Test.YtccibfldadflkaaQS09
import Derived.Test.YtccibfldadflkaaQS00
import Derived.Deep.RegionLaw
import Derived.Deep.RegionHeld3
/- Contracts: the model's sums and multiples. -/
namespace Go.Proofs.Ytccibfldadflkaa
open Go.RowKit

end Go.Proofs.Ytccibfldadflkaa

/- Contracts: EvalAffine and its model. -/
namespace Go.Proofs.Ytccibfldadflkaa
open Go.RowKit

end Go.Proofs.Ytccibfldadflkaa

/- A step of a drawn region taken by hand. No statement is proved here. -/
namespace Go.Proofs.Ytccibfldadflkaa
open Go.RowKit

end Go.Proofs.Ytccibfldadflkaa

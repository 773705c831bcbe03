/- The texts A16 A17, joined. No statement is proved here. -/
import Derived.Test.YtccibfldadflkaaK48
import Derived.Test.YtccibfldadflkaaK04
import Derived.Test.YtccibfldadflkaaK05
import Derived.Deep.AppendLies
import Derived.Deep.RegionLaw
import Derived.Deep.DeepCutAuto
import Derived.Deep.RegionHeld3
/- Contracts: SubstAffine. -/
namespace Go.Proofs.Ytccibfldadflkaa
open Go.RowKit

end Go.Proofs.Ytccibfldadflkaa

/- Contracts: the model's substitution. -/
namespace Go.Proofs.Ytccibfldadflkaa
open Go.RowKit

end Go.Proofs.Ytccibfldadflkaa

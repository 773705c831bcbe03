/- The texts D6, joined. No statement is proved here. -/
import Derived.Test.YtccibfldadflkaaK39
import Derived.Deep.RegionHeld3
/- Draws: a valid expression. -/
namespace Go.Proofs.Ytccibfldadflkaa
open Go.RowKit

end Go.Proofs.Ytccibfldadflkaa

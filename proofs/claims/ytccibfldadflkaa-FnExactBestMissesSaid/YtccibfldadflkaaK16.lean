/- The texts D7, joined. No statement is proved here. -/
import Derived.Test.YtccibfldadflkaaK15
import Derived.Test.YtccibfldadflkaaK30
/- Draws: a copy of an expression, sometimes made invalid. -/
namespace Go.Proofs.Ytccibfldadflkaa
open Go.RowKit

end Go.Proofs.Ytccibfldadflkaa

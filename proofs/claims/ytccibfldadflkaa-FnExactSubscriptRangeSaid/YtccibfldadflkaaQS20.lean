/- The texts D7, joined. No statement is proved here. -/
import Derived.Test.YtccibfldadflkaaQS19
import Derived.Test.YtccibfldadflkaaQS42
/- Draws: a copy of an expression, sometimes made invalid. -/
namespace Go.Proofs.Ytccibfldadflkaa
open Go.RowKit

end Go.Proofs.Ytccibfldadflkaa

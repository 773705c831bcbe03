/- The texts D7, joined. No statement is proved here. -/
import Derived.Test.YtccibfldadflkaaQV05
import Derived.Test.YtccibfldadflkaaQV43
/- Draws: a copy of an expression, sometimes made invalid. -/
namespace Go.Proofs.Ytccibfldadflkaa
open Go.RowKit

end Go.Proofs.Ytccibfldadflkaa

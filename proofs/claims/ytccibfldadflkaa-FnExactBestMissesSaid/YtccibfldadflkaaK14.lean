/- The texts D2, joined. No statement is proved here. -/
import Derived.Test.YtccibfldadflkaaK13
/- A number from the source. -/
namespace Go.Proofs.Ytccibfldadflkaa
open Go.RowKit

end Go.Proofs.Ytccibfldadflkaa

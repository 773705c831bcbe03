/- The texts D2, joined. No statement is proved here. -/
import Derived.Test.YtccibfldadflkaaQS17
/- A number from the source. -/
namespace Go.Proofs.Ytccibfldadflkaa
open Go.RowKit

end Go.Proofs.Ytccibfldadflkaa

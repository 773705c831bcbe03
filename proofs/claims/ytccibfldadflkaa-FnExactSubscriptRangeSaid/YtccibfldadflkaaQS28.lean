/- The texts S6, joined. No statement is proved here. -/
import Derived.Test.YtccibfldadflkaaQS27
/- The model's checks of a node's own fields. No statement is proved here. -/
namespace Go.Proofs.Ytccibfldadflkaa
open Go.RowKit

end Go.Proofs.Ytccibfldadflkaa

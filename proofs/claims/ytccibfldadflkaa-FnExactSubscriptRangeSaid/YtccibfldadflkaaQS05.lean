/- The texts A10, joined. No statement is proved here. -/
import Derived.Test.YtccibfldadflkaaQS41
/- Contracts: the variables as expressions. -/
namespace Go.Proofs.Ytccibfldadflkaa
open Go.RowKit

end Go.Proofs.Ytccibfldadflkaa

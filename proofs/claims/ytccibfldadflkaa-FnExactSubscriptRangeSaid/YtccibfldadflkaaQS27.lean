/- The texts S5, joined. No statement is proved here. -/
import Derived.Test.YtccibfldadflkaaQS44
import Derived.Test.YtccibfldadflkaaQS47
import Derived.Test.YtccibfldadflkaaQS14
/- The model's checks of statements: accesses, nodes. No statement is proved here. -/
namespace Go.Proofs.Ytccibfldadflkaa
open Go.RowKit

end Go.Proofs.Ytccibfldadflkaa

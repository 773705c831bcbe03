/- The texts S5, joined. No statement is proved here. -/
import Derived.Test.YtccibfldadflkaaQT48
import Derived.Test.YtccibfldadflkaaQT08
import Derived.Test.YtccibfldadflkaaQT10
/- The model's checks of statements: accesses, nodes. No statement is proved here. -/
namespace Go.Proofs.Ytccibfldadflkaa
open Go.RowKit

end Go.Proofs.Ytccibfldadflkaa

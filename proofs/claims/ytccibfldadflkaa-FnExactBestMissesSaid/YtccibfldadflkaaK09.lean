/- The texts N5b, joined. No statement is proved here. -/
import Derived.Test.YtccibfldadflkaaK48
import Derived.Test.YtccibfldadflkaaK06
import Derived.Test.YtccibfldadflkaaK35
/- Contract: linearWithin. -/
namespace Go.Proofs.Ytccibfldadflkaa
open Go.RowKit

end Go.Proofs.Ytccibfldadflkaa

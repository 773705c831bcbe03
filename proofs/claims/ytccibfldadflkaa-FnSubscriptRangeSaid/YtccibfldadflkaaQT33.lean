/- The texts A16 S1, joined. No statement is proved here. -/
import Derived.Test.YtccibfldadflkaaQT34
import Derived.Test.YtccibfldadflkaaQT03
import Derived.Test.YtccibfldadflkaaQT40
import Derived.Test.YtccibfldadflkaaQT46
/- Contracts: SubstAffine. -/
namespace Go.Proofs.Ytccibfldadflkaa
open Go.RowKit

end Go.Proofs.Ytccibfldadflkaa

/- Sizes of statements. No statement is proved here. -/
namespace Go.Proofs.Ytccibfldadflkaa
open Go.RowKit

end Go.Proofs.Ytccibfldadflkaa

/- The texts A7, joined. No statement is proved here. -/
import Derived.Test.YtccibfldadflkaaK32
/- Contracts: depths and values of affine expressions. -/
namespace Go.Proofs.Ytccibfldadflkaa
open Go.RowKit

end Go.Proofs.Ytccibfldadflkaa

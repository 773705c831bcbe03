/- The texts A8, joined. No statement is proved here. -/
import Derived.Test.YtccibfldadflkaaQV06
/- Contracts: values of affine expressions. -/
namespace Go.Proofs.Ytccibfldadflkaa
open Go.RowKit

end Go.Proofs.Ytccibfldadflkaa

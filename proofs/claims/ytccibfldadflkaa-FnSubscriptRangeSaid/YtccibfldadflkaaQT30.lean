/- The texts S9, joined. No statement is proved here. -/
import Derived.Test.YtccibfldadflkaaQT29
/- The model's StmtValid. No statement is proved here. -/
namespace Go.Proofs.Ytccibfldadflkaa
open Go.RowKit

end Go.Proofs.Ytccibfldadflkaa

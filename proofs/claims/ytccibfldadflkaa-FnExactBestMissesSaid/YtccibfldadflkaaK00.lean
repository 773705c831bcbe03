/- The texts A1, joined. No statement is proved here. -/
import Derived.Test.YtccibfldadflkaaK29
import Derived.BigQuiet
import Derived.Deep.QuietTactic
/- Contracts of the small functions: tests of limits, validity. -/
namespace Go.Proofs.Ytccibfldadflkaa
open Go.RowKit

end Go.Proofs.Ytccibfldadflkaa

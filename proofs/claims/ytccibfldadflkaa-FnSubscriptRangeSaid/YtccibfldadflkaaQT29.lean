/- The texts S8, joined. No statement is proved here. -/
import Derived.Test.YtccibfldadflkaaQT27
import Derived.Test.YtccibfldadflkaaQT38
/- The model's check of an expression. (Written by s8.py.) No statement is proved here. -/
namespace Go.Proofs.Ytccibfldadflkaa
open Go.RowKit

end Go.Proofs.Ytccibfldadflkaa

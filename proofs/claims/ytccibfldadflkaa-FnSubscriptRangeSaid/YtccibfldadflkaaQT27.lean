/- The texts S7, joined. No statement is proved here. -/
import Derived.Test.YtccibfldadflkaaQT49
/- The model's check of a node's own fields. (Written by s7.py.) No statement is proved here. -/
namespace Go.Proofs.Ytccibfldadflkaa
open Go.RowKit

end Go.Proofs.Ytccibfldadflkaa

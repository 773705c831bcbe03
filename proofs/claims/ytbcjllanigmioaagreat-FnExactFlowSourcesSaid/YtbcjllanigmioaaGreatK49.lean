/- The texts G35 G36, joined. No statement is proved here. -/
import Derived.Test.YtbcjllanigmioaaGreatK52
import Derived.Test.YtbcjllanigmioaaGreatK47
import Derived.Sort.OwnSortedInts
/- The program's ascending: slices.Sort and slices.Compact of a row of the call's own; what it lists. No statement is proved here. -/
namespace Go.Proofs.YtbcjllanigmioaaGreat
open Go.RowKit Go.Maps Go.Sort

end Go.Proofs.YtbcjllanigmioaaGreat

/- The program's WrittenCells. No statement is proved here. -/
namespace Go.Proofs.YtbcjllanigmioaaGreat
open Go.RowKit Go.Maps

end Go.Proofs.YtbcjllanigmioaaGreat

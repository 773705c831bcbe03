/- The listed table of powers of ten. No statement is proved here. -/
import Derived.Test.YtcpbfefgjpimiaaDoorT3
import Derived.Test.YtcpbfefgjpimiaaDoorTie
import Derived.LaidMore
import Derived.Lib.LaidTab
import Derived.Stop.Joined
import Derived.Stop.LaidErr
namespace Go.Proofs.YtcpbfefgjpimiaaDoor
open Go.RowKit

theorem gPow : Tryd.prog.globalNamed "internal/strconv.uint64pow10" = some 0 := by kernel_rfl
theorem tPow : (Tryd.prog.globals[0]?).map (·.type) = some 127 := by kernel_rfl
theorem tab_of {W : World} {a b : String × DataW Unit} (h : laidMet Tryd.prog [a, b, ("internal/strconv.uint64pow10", Lib.tabData .u64 Lib.pow10Tab)] W) : Tab W :=
  Lib.tabIs_of_head gPow tPow Tryd.underlying127 Tryd.underlying120 (by kernel_rfl) (by kernel_rfl) h.tail.tail
end Go.Proofs.YtcpbfefgjpimiaaDoor

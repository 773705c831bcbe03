/- Draws: the arguments of AddAffine. -/
import Derived.Test.YtcpbfefgjpimiaaDoorD7
namespace Go.Proofs.YtcpbfefgjpimiaaDoor
open Go.RowKit

theorem row_at {B n : Nat} {w : World} {v : Value} {xs : List Int} (h : w.ownsRow B 3 1 v n (xs.map (Value.int .i64))) (hn : xs.length = n) : IntsAt w v xs := (IntsOwn.mk h hn).at

end Go.Proofs.YtcpbfefgjpimiaaDoor

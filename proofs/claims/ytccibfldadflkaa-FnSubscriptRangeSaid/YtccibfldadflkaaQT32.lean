/- The texts D8 D4, joined. No statement is proved here. -/
import Derived.Test.YtccibfldadflkaaQT16
import Derived.Test.YtccibfldadflkaaQT36
/- Draws: the arguments of AddAffine. -/
namespace Go.Proofs.Ytccibfldadflkaa
open Go.RowKit

theorem row_at {B n : Nat} {w : World} {v : Value} {xs : List Int} (h : w.ownsRow B 3 1 v n (xs.map (Value.int .i64))) (hn : xs.length = n) : IntsAt w v xs := (IntsOwn.mk h hn).at

end Go.Proofs.Ytccibfldadflkaa

/- Draws: a place. -/
namespace Go.Proofs.Ytccibfldadflkaa
open Go.RowKit

end Go.Proofs.Ytccibfldadflkaa

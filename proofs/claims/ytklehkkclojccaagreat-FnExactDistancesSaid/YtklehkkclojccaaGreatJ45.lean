/- The texts G29 E2c, joined. No statement is proved here. -/
import Derived.Test.YtklehkkclojccaaGreatJ46
import Derived.Test.YtklehkkclojccaaGreatJ48
import Derived.Test.YtklehkkclojccaaGreatJ34
namespace Go.Proofs.YtklehkkclojccaaGreat
open Go.RowKit Go.Maps
end Go.Proofs.YtklehkkclojccaaGreat
namespace Go.Proofs.YtklehkkclojccaaGreat
open Go.RowKit Go.Maps
def LB (c : Nat) (b1 b2 b3 : Bool) : Array Bool := #[true, true, true, decide (1 ≤ c), true, true, true, decide (2 ≤ c), true, true, decide (3 ≤ c), b1, b2, b3, decide (4 ≤ c), decide (5 ≤ c), decide (6 ≤ c)]
end Go.Proofs.YtklehkkclojccaaGreat

/- The texts G29 E2c, joined. No statement is proved here. -/
import Derived.Test.YtklehkkclojccaaGreatQI46
import Derived.Test.YtklehkkclojccaaGreatQI48
import Derived.Test.YtklehkkclojccaaGreatQI34
namespace Go.Proofs.YtklehkkclojccaaGreat
open Go.RowKit Go.Maps
end Go.Proofs.YtklehkkclojccaaGreat
namespace Go.Proofs.YtklehkkclojccaaGreat
open Go.RowKit Go.Maps
end Go.Proofs.YtklehkkclojccaaGreat

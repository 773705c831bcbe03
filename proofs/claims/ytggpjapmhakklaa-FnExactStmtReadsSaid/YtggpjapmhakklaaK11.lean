/- The texts A16 A17, joined. No statement is proved here. -/
import Derived.Test.YtggpjapmhakklaaK10
import Derived.Test.YtggpjapmhakklaaK13
import Derived.Test.YtggpjapmhakklaaK15
import Derived.Deep.AppendLies
import Derived.Deep.RegionLaw
import Derived.Deep.DeepCutAuto
import Derived.Deep.RegionHeld3
/- Contracts: SubstAffine. -/
namespace Go.Proofs.Ytggpjapmhakklaa
open Go.RowKit

end Go.Proofs.Ytggpjapmhakklaa

/- Contracts: the model's substitution. -/
namespace Go.Proofs.Ytggpjapmhakklaa
open Go.RowKit

end Go.Proofs.Ytggpjapmhakklaa

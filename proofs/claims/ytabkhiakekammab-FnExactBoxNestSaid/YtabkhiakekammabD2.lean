/- A number from the source. -/
import Derived.Test.YtabkhiakekammabD1
namespace Go.Proofs.Ytabkhiakekammab
open Go.RowKit

end Go.Proofs.Ytabkhiakekammab

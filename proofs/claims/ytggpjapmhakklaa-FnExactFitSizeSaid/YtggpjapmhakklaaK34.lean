/- The texts A7 A8, joined. No statement is proved here. -/
import Derived.Test.YtggpjapmhakklaaK37
/- Contracts: depths and values of affine expressions. -/
namespace Go.Proofs.Ytggpjapmhakklaa
open Go.RowKit

end Go.Proofs.Ytggpjapmhakklaa

/- Contracts: values of affine expressions. -/
namespace Go.Proofs.Ytggpjapmhakklaa
open Go.RowKit

/-- The sum of the constant and of the first n terms. -/
def evalK (xs ps : List Int) (c : Int) : Nat → Int
  | 0 => c
  | n + 1 => evalK xs ps c n + xs.getD n 0 * ps.getD n 0
end Go.Proofs.Ytggpjapmhakklaa

/- The texts A8, joined. No statement is proved here. -/
import Derived.Test.YtccibfldadflkaaK06
/- Contracts: values of affine expressions. -/
namespace Go.Proofs.Ytccibfldadflkaa
open Go.RowKit

/-- The sum of the constant and of the first n terms. -/
def evalK (xs ps : List Int) (c : Int) : Nat → Int
  | 0 => c
  | n + 1 => evalK xs ps c n + xs.getD n 0 * ps.getD n 0
end Go.Proofs.Ytccibfldadflkaa

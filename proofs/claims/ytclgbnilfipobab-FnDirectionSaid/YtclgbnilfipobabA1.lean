/- Contracts of the small functions: tests of limits, validity. -/
import Derived.Test.YtclgbnilfipobabFw
import Derived.BigQuiet
import Derived.Deep.QuietTactic
namespace Go.Proofs.Ytclgbnilfipobab
open Go.RowKit

/-- what szIntS leaves of 'left' -/
def szI (left : Int) (n : Nat) : Int := if left - n < 0 then -1 else left - n

end Go.Proofs.Ytclgbnilfipobab

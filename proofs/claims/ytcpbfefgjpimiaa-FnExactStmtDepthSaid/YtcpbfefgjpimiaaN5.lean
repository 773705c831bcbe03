/- Contracts: sides of loops, validity of nests. -/
import Derived.Test.YtcpbfefgjpimiaaN4
namespace Go.Proofs.Ytcpbfefgjpimiaa
open Go.RowKit

/-- One bound of a side of a loop within d outer ones. -/
def boundB (d : Int) (a : Aff) : Bool := affValidB a.1 a.2 && decide (depR a.1 a.2 ≤ d)
def sideB (zs : List Aff) (d : Int) : Bool := decide (1 ≤ zs.length ∧ zs.length ≤ 2) && zs.all (boundB d)
def loopB (l : Lp) (d : Int) : Bool := sideB l.1 d && sideB l.2 d

theorem depR_four {a b c d k : Int} (h : affValidB [a, b, c, d] k = true) : depR [a, b, c, d] k = dep4 a b c d := by unfold depR; rw [if_pos h]; rfl

end Go.Proofs.Ytcpbfefgjpimiaa

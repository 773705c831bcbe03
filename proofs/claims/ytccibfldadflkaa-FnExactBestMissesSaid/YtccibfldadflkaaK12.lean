/- The texts N11, joined. No statement is proved here. -/
import Derived.Test.YtccibfldadflkaaK11
import Derived.BigQuiet
import Derived.Deep.QuietTactic
/- Contracts: greatest and least values of lists of ints; values of the bounds of a side. | Contracts: the range of a loop at a point. | Contract: the model's range of a loop at a point. | Contracts: LoopRange and PointIn. | Contracts: PointIn and its model. -/
namespace Go.Proofs.Ytccibfldadflkaa
open Go.RowKit

def maxL : List Int → Int
  | [] => 0
  | x :: r => r.foldl (fun a b => if a < b then b else a) x
def minL : List Int → Int
  | [] => 0
  | x :: r => r.foldl (fun a b => if b < a then b else a) x
/-- The value of a bound at a point. -/
def evalA (ps : List Int) (a : Aff) : Int := evalK a.1 ps a.2 ps.length

end Go.Proofs.Ytccibfldadflkaa

namespace Go.Proofs.Ytccibfldadflkaa
open Go.RowKit

def loV (x : Lp) (ps : List Int) : Int := maxL (x.1.map (evalA ps))
def hiV (x : Lp) (ps : List Int) : Int := minL (x.2.map (evalA ps))

end Go.Proofs.Ytccibfldadflkaa

namespace Go.Proofs.Ytccibfldadflkaa
open Go.RowKit

end Go.Proofs.Ytccibfldadflkaa

namespace Go.Proofs.Ytccibfldadflkaa
open Go.RowKit

end Go.Proofs.Ytccibfldadflkaa

namespace Go.Proofs.Ytccibfldadflkaa
open Go.RowKit

theorem IntsOwn.cap {B : Nat} {w : World} {p : Option Addr} {n c : Nat} {xs : List Int} (h : IntsOwn B w (.slice p n c) xs) : n ≤ c := by
  rcases h.2 with ⟨hv, hn⟩ | ⟨g, cap, cur, hv, _, _, h1, _⟩
  · cases hv; omega
  · cases hv; exact h1

end Go.Proofs.Ytccibfldadflkaa

/- Contracts: substitutions. -/
import Derived.Test.YtcpbfefgjpimiaaDoorA14
import Derived.Deep.RegionHeld3
namespace Go.Proofs.YtcpbfefgjpimiaaDoor
open Go.RowKit

/-- What replaces: the coefficient of v is taken out, that many times y is put in. -/
def substL (xs ys : List Int) (v : Nat) : List Int := List.zipWith (· + ·) (xs.set v 0) (ys.map (· * xs.getD v 0))

theorem set5 {W : World} {g h : Nat} {o : Obj} {u0 u1 u2 u3 u4 : Value} (hne : g ≠ h) (hg : W.heap[g]? = some o) :
    (((((W.setCell ⟨h, 0, none⟩ u0).setCell ⟨h, 1, none⟩ u1).setCell ⟨h, 2, none⟩ u2).setCell ⟨h, 3, none⟩ u3).setCell ⟨h, 4, none⟩ u4).heap[g]? = some o :=
  (Below.heap_setCell _ _ _ _ hne).trans ((Below.heap_setCell _ _ _ _ hne).trans ((Below.heap_setCell _ _ _ _ hne).trans ((Below.heap_setCell _ _ _ _ hne).trans ((Below.heap_setCell _ _ _ _ hne).trans hg))))

end Go.Proofs.YtcpbfefgjpimiaaDoor

/- The texts A13 A14 A15 A16, joined. No statement is proved here. -/
import Derived.Test.YtccibfldadflkaaQV02
import Derived.Test.YtccibfldadflkaaQV01
import Derived.Test.YtccibfldadflkaaQV07
import Derived.Deep.RegionHeld3
/- Contracts: the model's sums and multiples. -/
namespace Go.Proofs.Ytccibfldadflkaa
open Go.RowKit

end Go.Proofs.Ytccibfldadflkaa

/- Contracts: multiples. -/
namespace Go.Proofs.Ytccibfldadflkaa
open Go.RowKit

end Go.Proofs.Ytccibfldadflkaa

/- Contracts: substitutions. -/
namespace Go.Proofs.Ytccibfldadflkaa
open Go.RowKit

theorem set5 {W : World} {g h : Nat} {o : Obj} {u0 u1 u2 u3 u4 : Value} (hne : g ≠ h) (hg : W.heap[g]? = some o) :
    (((((W.setCell ⟨h, 0, none⟩ u0).setCell ⟨h, 1, none⟩ u1).setCell ⟨h, 2, none⟩ u2).setCell ⟨h, 3, none⟩ u3).setCell ⟨h, 4, none⟩ u4).heap[g]? = some o :=
  (Below.heap_setCell _ _ _ _ hne).trans ((Below.heap_setCell _ _ _ _ hne).trans ((Below.heap_setCell _ _ _ _ hne).trans ((Below.heap_setCell _ _ _ _ hne).trans ((Below.heap_setCell _ _ _ _ hne).trans hg))))

end Go.Proofs.Ytccibfldadflkaa

/- Contracts: SubstAffine. -/
namespace Go.Proofs.Ytccibfldadflkaa
open Go.RowKit

end Go.Proofs.Ytccibfldadflkaa

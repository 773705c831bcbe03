/- The texts Q2, joined. No statement is proved here. -/
import Derived.Test.YtccibfldadflkaaQV37
import Derived.Test.YtccibfldadflkaaQV09
/- Draws: a copy of a nest. -/
namespace Go.Proofs.Ytccibfldadflkaa
open Go.RowKit

theorem AffsOwn.dr {B g : Nat} {w w' : World} {v : Value} {xs : List Aff} (h : AffsOwn B w v xs) (hD : Dr w g w') (hB : g < B) : AffsOwn B w' v xs := PairsOwn.map' h (fun _ h => row_dr h hD hB) (fun h => ⟨row_dr h.1 hD hB, h.2⟩)
theorem LoopsOwn.dr {B g : Nat} {w w' : World} {v : Value} {xs : List Lp} (h : LoopsOwn B w v xs) (hD : Dr w g w') (hB : g < B) : LoopsOwn B w' v xs := PairsOwn.map' h (fun _ h => row_dr h hD hB) (fun h => ⟨AffsOwn.dr h.1 hD hB, AffsOwn.dr h.2 hD hB⟩)
theorem AffO.ext {B : Nat} {w w' : World} {u0 u1 : Value} {x : Aff} (h : AffO B w u0 u1 x) (hE : Ext w w') : AffO B w' u0 u1 x := ⟨h.1.ext hE, h.2⟩
end Go.Proofs.Ytccibfldadflkaa

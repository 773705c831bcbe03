/- The texts G51 G52 G53, joined. No statement is proved here. -/
import Derived.Test.YtklehkkclojccaaGreatH43
import Derived.Test.YtklehkkclojccaaGreatH46
import Derived.StillTailTactics
import Derived.Test.YtklehkkclojccaaGreatH51
namespace Go.Proofs.YtklehkkclojccaaGreat
open Go.RowKit Go.Maps
end Go.Proofs.YtklehkkclojccaaGreat
namespace Go.Proofs.YtklehkkclojccaaGreat
open Go.RowKit Go.Maps
end Go.Proofs.YtklehkkclojccaaGreat
namespace Go.Proofs.YtklehkkclojccaaGreat
open Go.RowKit Go.Maps
theorem UsesOwn.lvB {B : Nat} {D : Nat → Prop} {w w' : World} {v : Value} {l : List Us} (h : UsesOwn B w v l) (hv : Lv D w w') (hD : ∀ b, B ≤ b → b < w.heap.size → ¬ D b) : UsesOwn B w' v l := by
 obtain ⟨cs, ho, he⟩ := h
 exact ⟨cs, row_lvB ho hv hD, fun i x hi => by obtain ⟨u0, u1, h0, h1, h2⟩ := he i x hi; exact ⟨u0, u1, h0, h1, row_lvB h2.1 hv hD, h2.2⟩⟩
end Go.Proofs.YtklehkkclojccaaGreat

/- The texts G51 G52 G53 G54 G55, joined. No statement is proved here. -/
import Derived.Test.YtklehkkclojccaaGreatQP41
import Derived.Test.YtklehkkclojccaaGreatQP46
import Derived.StillTailTactics
import Derived.Test.YtklehkkclojccaaGreatQP44
set_option maxRecDepth 100000
set_option maxHeartbeats 8000000
set_option linter.unusedVariables false
set_option linter.unusedSimpArgs false
namespace Go.Proofs.YtklehkkclojccaaGreat
open Go.RowKit Go.Maps
end Go.Proofs.YtklehkkclojccaaGreat
namespace Go.Proofs.YtklehkkclojccaaGreat
open Go.RowKit Go.Maps
end Go.Proofs.YtklehkkclojccaaGreat
namespace Go.Proofs.YtklehkkclojccaaGreat
open Go.RowKit Go.Maps
theorem jZB.lvB {B : Nat} {D : Nat → Prop} {w w' : World} {v : Value} {l : List Us} (h : jZB B w v l) (hv : Lv D w w') (hD : ∀ b, B ≤ b → b < w.heap.size → ¬ D b) : jZB B w' v l := by
 obtain ⟨cs, ho, he⟩ := h
 exact ⟨cs, jXp ho hv hD, fun i x hi => by obtain ⟨u0, u1, h0, h1, h2⟩ := he i x hi; exact ⟨u0, u1, h0, h1, jXp h2.1 hv hD, h2.2⟩⟩
end Go.Proofs.YtklehkkclojccaaGreat
namespace Go.Proofs.YtklehkkclojccaaGreat
open Go.RowKit Go.Maps
end Go.Proofs.YtklehkkclojccaaGreat
namespace Go.Proofs.YtklehkkclojccaaGreat
open Go.RowKit Go.Maps
end Go.Proofs.YtklehkkclojccaaGreat

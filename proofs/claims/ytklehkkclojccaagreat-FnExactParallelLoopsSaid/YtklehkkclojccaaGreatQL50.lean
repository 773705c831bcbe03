/- The texts G51 G52 G53 G54 G55, joined. No statement is proved here. -/
import Derived.Test.YtklehkkclojccaaGreatQL41
import Derived.Test.YtklehkkclojccaaGreatQL44
import Derived.StillTailTactics
import Derived.Test.YtklehkkclojccaaGreatQL52
set_option maxRecDepth 100000
set_option maxHeartbeats 8000000
set_option linter.unusedVariables false
set_option linter.unusedSimpArgs false
namespace Go.Proofs.YtklehkkclojccaaGreat
section
open Go.RowKit Go.Maps
end
section
open Go.RowKit Go.Maps
end
section
open Go.RowKit Go.Maps
theorem jZC.lvB {B : Nat} {D : Nat -> Prop} {w w' : World} {v : Value} {l : List Us} (h : jZC B w v l) (hv : Lv D w w') (hD : ∀ b, B <= b -> b < w.heap.size -> ¬ D b) : jZC B w' v l := by
 obtain ⟨cs, ho, he⟩ := h
 exact ⟨cs, jXv ho hv hD, fun i x hi => by obtain ⟨u0, u1, h0, h1, h2⟩ := he i x hi; exact ⟨u0, u1, h0, h1, jXv h2.1 hv hD, h2.2⟩⟩
end
section
open Go.RowKit Go.Maps
end
section
open Go.RowKit Go.Maps
end
end Go.Proofs.YtklehkkclojccaaGreat

/- The texts G34, joined. No statement is proved here. -/
import Derived.Test.YtbcjllanigmioaaGreatK42
import Derived.Test.YtbcjllanigmioaaGreatK39
/- What a program writes, in ascending order: the model's l5Flagged and WrittenCells. No statement is proved here. -/
namespace Go.Proofs.YtbcjllanigmioaaGreat
open Go.RowKit Go.Maps

theorem InssOwn.setOld {B : Nat} {w : World} {v : Value} {l : List In3} (h : InssOwn B w v l) {p : Addr} (hp : p.block < B) (u : Value) : InssOwn B (w.setCell p u) v l := by
  obtain ⟨vs, ho, he⟩ := h
  refine ⟨vs, ownsRow_setCell_below ho hp u, fun i x hi => ?_⟩
  obtain ⟨u0, u1, u2, a0, a1, a2, b0, b1, b2⟩ := he i x hi
  exact ⟨u0, u1, u2, a0, a1, a2, b0, b1, b2.setOld hp u⟩
end Go.Proofs.YtbcjllanigmioaaGreat

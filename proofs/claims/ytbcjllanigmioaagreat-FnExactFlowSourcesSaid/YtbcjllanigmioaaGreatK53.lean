/- The texts G53 G54, joined. No statement is proved here. -/
import Derived.Test.YtbcjllanigmioaaGreatK48
/- Dead instances: pure facts, the model's l6Dead and DeadInstances. No statement is proved here. -/
namespace Go.Proofs.YtbcjllanigmioaaGreat
open Go.RowKit Go.Maps

theorem UsesOwn.lvB {B : Nat} {D : Nat → Prop} {w w' : World} {v : Value} {l : List Us} (h : UsesOwn B w v l) (hv : Lv D w w') (hD : ∀ b, B ≤ b → b < w.heap.size → ¬ D b) : UsesOwn B w' v l := by
  obtain ⟨cs, ho, he⟩ := h
  exact ⟨cs, row_lvB ho hv hD, fun i x hi => by obtain ⟨u0, u1, h0, h1, h2⟩ := he i x hi; exact ⟨u0, u1, h0, h1, row_lvB h2.1 hv hD, h2.2⟩⟩

end Go.Proofs.YtbcjllanigmioaaGreat

/- The program's DeadInstances. No statement is proved here. -/
namespace Go.Proofs.YtbcjllanigmioaaGreat
open Go.RowKit Go.Maps

theorem zeroIn (w : World) : (zeroValue 3).run Tryz.prog w = .ok (.int .i64 0) w := by kernel_rfl
theorem underWr : Tryz.prog.underlying 102 = some (.map 3 3) := by kernel_rfl
def vF (f : Int → Option Nat) : Int → Option Value := fun c => (f c).map (fun (n : Nat) => .int .i64 (n : Int))
end Go.Proofs.YtbcjllanigmioaaGreat

/- The texts A10 A11, joined. No statement is proved here. -/
import Derived.Test.YtggpjapmhakklaaK14
/- Contracts: the variables as expressions. -/
namespace Go.Proofs.Ytggpjapmhakklaa
open Go.RowKit

end Go.Proofs.Ytggpjapmhakklaa

/- Contracts: marks in an affine expression; what stays beside them. -/
namespace Go.Proofs.Ytggpjapmhakklaa
open Go.RowKit

theorem IntsOwn.row {B n : Nat} {w : World} {v : Value} {xs : List Int} (h : IntsOwn B w v xs) (hn : xs.length = n) : w.ownsRow B 3 1 v n (xs.map (Value.int .i64)) := by
  unfold IntsOwn at h; rwa [hn] at h
theorem affEqB_self (xs : List Int) (c : Int) : affEqB xs c xs c = true := by simp [affEqB, eqB]
end Go.Proofs.Ytggpjapmhakklaa

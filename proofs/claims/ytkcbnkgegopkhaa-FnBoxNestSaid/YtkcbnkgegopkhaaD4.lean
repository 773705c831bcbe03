/- Draws: a place. -/
import Derived.Test.YtkcbnkgegopkhaaD3
namespace Go.Proofs.Ytkcbnkgegopkhaa
open Go.RowKit

/-- One element more in a row of the call's own. -/
theorem row_next {B n : Nat} {w : World} {v : Value} {xs : List Int} {y : Int} (h : w.ownsRow B 3 1 v (n + 1) (xs.map (Value.int .i64) ++ [Value.int .i64 y])) : w.ownsRow B 3 1 v (n + 1) ((xs ++ [y]).map (Value.int .i64)) := by
  rw [List.map_append]; exact h

end Go.Proofs.Ytkcbnkgegopkhaa

/- The texts A9 N1, joined. No statement is proved here. -/
import Derived.Test.YtggpjapmhakklaaK12
import Derived.Test.YtggpjapmhakklaaK01
/- Contracts: EvalAffine and its model. -/
namespace Go.Proofs.Ytggpjapmhakklaa
open Go.RowKit

end Go.Proofs.Ytggpjapmhakklaa

/- Contracts of the laws' own helpers for lists of expressions and nests: sizes. -/
namespace Go.Proofs.Ytggpjapmhakklaa
open Go.RowKit

/-- A list of expressions that is small enough to be copied. -/
def SmallAs (zs : List Aff) : Prop := zs.length ≤ 1048576 ∧ ∀ a ∈ zs, a.1.length ≤ 1048576
theorem mem_take_next {α : Type} {p : α → Prop} {xs : List α} {k : Nat} {x : α} (hx : xs[k]? = some x) (h : ∀ a ∈ xs.take k, p a) (h2 : p x) : ∀ a ∈ xs.take (k + 1), p a := by
  intro a ha
  rw [take_next hx, List.mem_append] at ha
  rcases ha with ha | ha
  · exact h a ha
  · rw [List.mem_singleton] at ha; subst ha; exact h2

end Go.Proofs.Ytggpjapmhakklaa

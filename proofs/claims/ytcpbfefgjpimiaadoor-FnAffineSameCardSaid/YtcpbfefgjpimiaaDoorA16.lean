/- Contracts: SubstAffine. -/
import Derived.Test.YtcpbfefgjpimiaaDoorA15
import Derived.Test.YtcpbfefgjpimiaaDoorA10
namespace Go.Proofs.YtcpbfefgjpimiaaDoor
open Go.RowKit

/-- What SubstAffine answers. -/
def substR (xs : List Int) (k v : Int) (ys : List Int) (l : Int) : List Int × Int × Bool :=
  if affValidB xs k = true ∧ affValidB ys l = true ∧ 0 ≤ v ∧ v < 4 then chk (substL xs ys v.toNat) (k + l * xs.getD v.toNat 0) else ([], 0, false)
theorem substR_no {xs ys : List Int} {k l v : Int} (h : affValidB xs k = false ∨ affValidB ys l = false ∨ ¬ (0 ≤ v ∧ v < 4)) : substR xs k v ys l = ([], 0, false) := by
  unfold substR; rw [if_neg]; rintro ⟨h1, h2, h3⟩; rcases h with h | h | h
  · rw [h] at h1; cases h1
  · rw [h] at h2; cases h2
  · exact h h3

end Go.Proofs.YtcpbfefgjpimiaaDoor

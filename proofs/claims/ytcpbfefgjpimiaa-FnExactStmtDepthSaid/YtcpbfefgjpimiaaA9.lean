/- Contracts: EvalAffine and its model. -/
import Derived.Test.YtcpbfefgjpimiaaA8
namespace Go.Proofs.Ytcpbfefgjpimiaa
open Go.RowKit

theorem evalR_yes {xs ps : List Int} {k : Int} (h : affValidB xs k = true) (hp : ptB ps = true) : evalR xs k ps = evalK xs ps k ps.length := by unfold evalR; rw [if_pos ⟨h, hp⟩]
theorem evalR_nov {xs ps : List Int} {k : Int} (h : affValidB xs k = false) : evalR xs k ps = 0 := by unfold evalR; rw [if_neg]; rintro ⟨h1, _⟩; rw [h] at h1; cases h1
theorem evalR_nop {xs ps : List Int} {k : Int} (h : ptB ps = false) : evalR xs k ps = 0 := by unfold evalR; rw [if_neg]; rintro ⟨_, h1⟩; rw [h] at h1; cases h1

end Go.Proofs.Ytcpbfefgjpimiaa

/- Contracts: comparisons of loops and nests. -/
import Derived.Test.YtcpbfefgjpimiaaN6
namespace Go.Proofs.Ytcpbfefgjpimiaa
open Go.RowKit

theorem lp_eq {x y : Lp} (h1 : lEqB x.1 y.1 = true) (h2 : lEqB x.2 y.2 = true) : x = y := by
  obtain ⟨a, b⟩ := x; obtain ⟨c, d⟩ := y
  simp [lEqB] at h1 h2; rw [h1, h2]
theorem lp_ne1 {x y : Lp} (h : lEqB x.1 y.1 = false) : x ≠ y := by intro e; rw [e, lEqB_self] at h; cases h
theorem lp_ne2 {x y : Lp} (h : lEqB x.2 y.2 = false) : x ≠ y := by intro e; rw [e, lEqB_self] at h; cases h

/-- Two loops are the same. -/
def lpEqB (x y : Lp) : Bool := lEqB x.1 y.1 && lEqB x.2 y.2
theorem lp_yes {x y : Lp} (h : lpEqB x y = true) : x = y := by
  unfold lpEqB at h; rw [Bool.and_eq_true] at h; exact lp_eq h.1 h.2
theorem lp_no {x y : Lp} (h : lpEqB x y = false) : x ≠ y := by
  intro e; unfold lpEqB at h; rw [e, lEqB_self, lEqB_self] at h; cases h

end Go.Proofs.Ytcpbfefgjpimiaa

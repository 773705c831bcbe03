/- Contracts: multiples. -/
import Derived.Test.YtcpbfefgjpimiaaA13
import Derived.Test.YtcpbfefgjpimiaaA10
import Derived.Test.YtcpbfefgjpimiaaA8
import Derived.Deep.RegionHeld3
namespace Go.Proofs.Ytcpbfefgjpimiaa
open Go.RowKit

def scaleR (xs : List Int) (c k : Int) : List Int × Int × Bool := if affValidB xs c = true ∧ withinB k 99 = true then chk (xs.map (· * k)) (c * k) else ([], 0, false)
theorem scaleR_nov {xs : List Int} {c k : Int} (h : affValidB xs c = false) : scaleR xs c k = ([], 0, false) := by unfold scaleR; rw [if_neg]; rintro ⟨h1, _⟩; rw [h] at h1; cases h1
theorem scaleR_nok {xs : List Int} {c k : Int} (h : withinB k 99 = false) : scaleR xs c k = ([], 0, false) := by unfold scaleR; rw [if_neg]; rintro ⟨_, h1⟩; rw [h] at h1; cases h1
theorem scaleR_yes {xs : List Int} {c k : Int} (h : affValidB xs c = true) (h2 : withinB k 99 = true) : scaleR xs c k = chk (xs.map (· * k)) (c * k) := by unfold scaleR; rw [if_pos ⟨h, h2⟩]

theorem mul_99 {a k : Int} (h1 : -99 ≤ a) (h2 : a ≤ 99) (h3 : -99 ≤ k) (h4 : k ≤ 99) : -100000 ≤ a * k ∧ a * k ≤ 100000 := by
  constructor
  · have := Int.mul_nonneg (a := a + 99) (b := k + 99) (by omega) (by omega)
    have := Int.mul_nonneg (a := 99 - a) (b := 99 - k) (by omega) (by omega)
    simp only [Int.add_mul, Int.mul_add, Int.sub_mul, Int.mul_sub] at *
    omega
  · have := Int.mul_nonneg (a := a + 99) (b := 99 - k) (by omega) (by omega)
    have := Int.mul_nonneg (a := 99 - a) (b := k + 99) (by omega) (by omega)
    simp only [Int.add_mul, Int.mul_add, Int.sub_mul, Int.mul_sub] at *
    omega

theorem comb_scale {xs : List Int} (k : Int) (h : xs.length = 4) : comb xs k [0, 0, 0, 0] 0 = xs.map (· * k) := by
  obtain ⟨a, b, c, d, rfl⟩ := four h
  simp [comb, Int.mul_comm]

end Go.Proofs.Ytcpbfefgjpimiaa

/- Contracts: the model's sums and multiples. -/
import Derived.Test.YtcpbfefgjpimiaaA12
namespace Go.Proofs.Ytcpbfefgjpimiaa
open Go.RowKit

theorem comb_add (xs ys : List Int) : comb xs 1 ys 1 = List.zipWith (· + ·) xs ys := by simp [comb]

theorem valid_get {xs : List Int} {k : Int} (h : affValidB xs k = true) {i : Nat} {a : Int} (ha : xs[i]? = some a) : -9 ≤ a ∧ a ≤ 9 := by
  simp only [affValidB, Bool.and_eq_true] at h
  have := List.all_eq_true.1 h.2.1 a (List.mem_of_getElem? ha)
  exact withinB_iff.1 this
theorem valid_const {xs : List Int} {k : Int} (h : affValidB xs k = true) : -99 ≤ k ∧ k ≤ 99 := by
  simp only [affValidB, Bool.and_eq_true] at h
  exact withinB_iff.1 h.2.2

end Go.Proofs.Ytcpbfefgjpimiaa

/- Multiples and their values. No statement is proved here. -/
import Derived.Test.YtcpbfefgjpimiaaDoorT7
import Derived.Test.YtcpbfefgjpimiaaDoorA14
import Derived.Test.YtcpbfefgjpimiaaDoorA19
namespace Go.Proofs.YtcpbfefgjpimiaaDoor
open Go.RowKit

theorem scaleR_t {xs r1 : List Int} {c k r2 : Int} (h : scaleR xs c k = (r1, r2, true)) : affValidB xs c = true ∧ withinB k 99 = true ∧ r1 = xs.map (· * k) ∧ r2 = c * k ∧ affValidB r1 r2 = true := by
  unfold scaleR at h
  split at h
  · rename_i hv
    unfold chk at h
    split at h
    · rename_i hc
      simp only [Prod.mk.injEq, and_true] at h
      obtain ⟨rfl, rfl⟩ := h
      exact ⟨hv.1, hv.2, rfl, rfl, hc⟩
    · cases h
  · cases h
theorem withinB_neg {a l : Int} (h : withinB a l = true) : withinB (a * -1) l = true := by
  simp only [withinB, decide_eq_true_eq] at h ⊢
  omega
theorem neg_valid {a b c d k : Int} (h : affValidB [a, b, c, d] k = true) : affValidB [a * -1, b * -1, c * -1, d * -1] (k * -1) = true := by
  obtain ⟨_, _, _, _, he, h0, h1, h2, h3, hk⟩ := valid_four h
  simp only [List.cons.injEq, and_true] at he
  obtain ⟨rfl, rfl, rfl, rfl⟩ := he
  simp [affValidB, withinB]
  omega
theorem scale_neg {a b c d k : Int} (h : affValidB [a, b, c, d] k = true) : scaleR [a, b, c, d] k (-1) = ([a * -1, b * -1, c * -1, d * -1], k * -1, true) := by
  rw [scaleR_yes h (by decide)]
  unfold chk
  rw [if_pos (by simpa using neg_valid h)]
  rfl
theorem add_neg {a b c d k : Int} (h : affValidB [a, b, c, d] k = true) : addR [a, b, c, d] k [a * -1, b * -1, c * -1, d * -1] (k * -1) = ([0, 0, 0, 0], 0, true) := by
  have e0 : ∀ x : Int, x + x * -1 = 0 := fun x => by omega
  unfold addR
  rw [if_pos ⟨h, neg_valid h⟩]
  simp only [List.zipWith_cons_cons, List.zipWith_nil_right, e0]
  unfold chk
  rw [if_pos (by decide)]
theorem fmt_zero : fmtA [0, 0, 0, 0] 0 = [48] := by decide
theorem evalK_scale (a b c d k m : Int) (ps : List Int) (n : Nat) : evalK [a * m, b * m, c * m, d * m] ps (k * m) n = m * evalK [a, b, c, d] ps k n := by
  induction n with
  | zero => simp [evalK, Int.mul_comm]
  | succ n ih =>
    simp only [evalK]
    rw [ih]
    have : [a * m, b * m, c * m, d * m].getD n 0 = [a, b, c, d].getD n 0 * m := by
      match n with
      | 0 => rfl
      | 1 => rfl
      | 2 => rfl
      | 3 => rfl
      | n + 4 => simp
    rw [this, Int.mul_add]
    congr 1
    rw [Int.mul_comm _ m, Int.mul_assoc]
theorem eval_scale {xs r1 : List Int} {k m r2 : Int} (h : scaleR xs k m = (r1, r2, true)) (ps : List Int) : evalR r1 r2 ps = m * evalR xs k ps := by
  obtain ⟨h1, -, rfl, rfl, h5⟩ := scaleR_t h
  cases hp : ptB ps with
  | false => rw [evalR_nop hp, evalR_nop hp]; simp
  | true =>
    rw [evalR_yes h5 hp, evalR_yes h1 hp]
    obtain ⟨a, b, c, d, rfl, _⟩ := valid_four h1
    exact evalK_scale a b c d k m ps _
end Go.Proofs.YtcpbfefgjpimiaaDoor

/- Contracts: AddAffine whatever the arguments; sums of expressions, their values. -/
import Derived.Test.YtcpbfefgjpimiaaDoorA13
import Derived.Test.YtcpbfefgjpimiaaDoorA14
import Derived.Test.YtcpbfefgjpimiaaDoorA9
namespace Go.Proofs.YtcpbfefgjpimiaaDoor
open Go.RowKit

theorem AddAffine_any (s t : Value) (xs ys : List Int) (k l : Int) (w : World) (hs : IntsAt w s xs) (ht : IntsAt w t ys) :
    Calls Tryd.prog 19 #[.agg #[s, .int .i64 k], .agg #[t, .int .i64 l]] w fun e w' => AffRet w.heap.size w' e (addR xs k ys l) ∧ Ext w w' := by
  cases hx : affValidB xs k with
  | false => exact AddAffine_no s t xs ys k l w hs ht (.inl hx)
  | true =>
    cases hy : affValidB ys l with
    | false => exact AddAffine_no s t xs ys k l w hs ht (.inr hy)
    | true => exact AddAffine_yes s t xs ys k l w hs ht hx hy

theorem addR_comm (xs ys : List Int) (k l : Int) : addR xs k ys l = addR ys l xs k := by
  unfold addR
  rw [Int.add_comm k l, List.zipWith_comm]
  have : (fun (b a : Int) => a + b) = (fun b a => b + a) := by funext b a; exact Int.add_comm a b
  rw [this]
  by_cases h1 : affValidB xs k = true <;> by_cases h2 : affValidB ys l = true <;> simp [h1, h2]
theorem addR_true {xs ys r1 : List Int} {k l r2 : Int} (h : addR xs k ys l = (r1, r2, true)) : affValidB xs k = true ∧ affValidB ys l = true ∧ r1 = List.zipWith (· + ·) xs ys ∧ r2 = k + l ∧ affValidB r1 r2 = true := by
  unfold addR at h
  split at h
  · rename_i hv
    unfold chk at h
    split at h
    · rename_i hc
      simp only [Prod.mk.injEq, and_true] at h
      obtain ⟨rfl, rfl⟩ := h
      exact ⟨hv.1, hv.2, rfl, rfl, hc⟩
    · cases h
  · cases h

theorem evalK_bd {a b c d k : Int} {ps : List Int} (hv : affValidB [a, b, c, d] k = true) (hp : ptB ps = true) : ∀ n, n ≤ ps.length → -1000000 ≤ evalK [a, b, c, d] ps k n ∧ evalK [a, b, c, d] ps k n ≤ 1000000 := by
  obtain ⟨_, _, _, _, e, ⟨la, ua⟩, ⟨lb, ub⟩, ⟨lc, uc⟩, ⟨ld, ud⟩, ⟨lk, uk⟩⟩ := valid_four hv
  simp only [List.cons.injEq, and_true] at e
  obtain ⟨rfl, rfl, rfl, rfl⟩ := e
  rcases pt_cases hp with rfl | ⟨x0, rfl, h0⟩ | ⟨x0, x1, rfl, h0, h1⟩ | ⟨x0, x1, x2, rfl, h0, h1, h2⟩ | ⟨x0, x1, x2, x3, rfl, h0, h1, h2, h3⟩
  · intro n hn
    have : n = 0 := by simpa using hn
    subst this; simp [evalK]; omega
  · have m0 := mul_bd la ua h0.1 h0.2
    intro n hn
    simp only [List.length_cons, List.length_nil] at hn
    have : n = 0 ∨ n = 1 := by omega
    rcases this with rfl | rfl <;> simp [evalK] <;> omega
  · have m0 := mul_bd la ua h0.1 h0.2
    have m1 := mul_bd lb ub h1.1 h1.2
    intro n hn
    simp only [List.length_cons, List.length_nil] at hn
    have : n = 0 ∨ n = 1 ∨ n = 2 := by omega
    rcases this with rfl | rfl | rfl <;> simp [evalK] <;> omega
  · have m0 := mul_bd la ua h0.1 h0.2
    have m1 := mul_bd lb ub h1.1 h1.2
    have m2 := mul_bd lc uc h2.1 h2.2
    intro n hn
    simp only [List.length_cons, List.length_nil] at hn
    have : n = 0 ∨ n = 1 ∨ n = 2 ∨ n = 3 := by omega
    rcases this with rfl | rfl | rfl | rfl <;> simp [evalK] <;> omega
  · have m0 := mul_bd la ua h0.1 h0.2
    have m1 := mul_bd lb ub h1.1 h1.2
    have m2 := mul_bd lc uc h2.1 h2.2
    have m3 := mul_bd ld ud h3.1 h3.2
    intro n hn
    simp only [List.length_cons, List.length_nil] at hn
    have : n = 0 ∨ n = 1 ∨ n = 2 ∨ n = 3 ∨ n = 4 := by omega
    rcases this with rfl | rfl | rfl | rfl | rfl <;> simp [evalK] <;> omega

theorem evalR_bd (xs : List Int) (k : Int) (ps : List Int) : -1000000 ≤ evalR xs k ps ∧ evalR xs k ps ≤ 1000000 := by
  unfold evalR
  split
  · rename_i h
    obtain ⟨a, b, c, d, rfl, _⟩ := valid_four h.1
    exact evalK_bd h.1 h.2 _ (Nat.le_refl _)
  · omega

theorem evalK_add (a b c d a' b' c' d' k l : Int) (ps : List Int) (n : Nat) : evalK [a + a', b + b', c + c', d + d'] ps (k + l) n = evalK [a, b, c, d] ps k n + evalK [a', b', c', d'] ps l n := by
  induction n with
  | zero => rfl
  | succ n ih =>
    simp only [evalK]
    rw [ih]
    have : [a + a', b + b', c + c', d + d'].getD n 0 = [a, b, c, d].getD n 0 + [a', b', c', d'].getD n 0 := by
      match n with
      | 0 => rfl
      | 1 => rfl
      | 2 => rfl
      | 3 => rfl
      | n + 4 => simp
    rw [this, Int.add_mul]
    omega

theorem eval_add {xs ys r1 : List Int} {k l r2 : Int} (h : addR xs k ys l = (r1, r2, true)) (ps : List Int) : evalR r1 r2 ps = evalR xs k ps + evalR ys l ps := by
  obtain ⟨h1, h2, rfl, rfl, h5⟩ := addR_true h
  cases hp : ptB ps with
  | false => rw [evalR_nop hp, evalR_nop hp, evalR_nop hp]; rfl
  | true =>
    rw [evalR_yes h5 hp, evalR_yes h1 hp, evalR_yes h2 hp]
    obtain ⟨a, b, c, d, rfl, _⟩ := valid_four h1
    obtain ⟨a', b', c', d', rfl, _⟩ := valid_four h2
    exact evalK_add a b c d a' b' c' d' k l ps _
end Go.Proofs.YtcpbfefgjpimiaaDoor

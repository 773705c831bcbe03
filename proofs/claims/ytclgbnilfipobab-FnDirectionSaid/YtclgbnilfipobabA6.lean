/- Contracts: sums, multiples, substitutions. -/
import Derived.Test.YtclgbnilfipobabA5
namespace Go.Proofs.Ytclgbnilfipobab
open Go.RowKit

/-- An affine expression and a bool are handed back, the expression in new memory. -/
def AffRet (B : Nat) (w : World) (e : Ending) (r : List Int × Int × Bool) : Prop :=
  ∃ p cc, e = .returned (.tuple #[.agg #[.slice p r.1.length cc, .int .i64 r.2.1], .bool r.2.2]) ∧ IntsOwn B w (.slice p r.1.length cc) r.1

def chk (xs : List Int) (c : Int) : List Int × Int × Bool := if affValidB xs c = true then (xs, c, true) else ([], 0, false)

theorem AffRet.none (B : Nat) (w : World) : AffRet B w (.returned (.tuple #[.agg #[.slice none 0 0, .int .i64 0], .bool false])) ([], 0, false) :=
  ⟨Option.none, 0, rfl, World.ownsRow_nil _ _ _ _⟩
theorem AffRet.weak {B B' : Nat} {w : World} {e : Ending} {r : List Int × Int × Bool} (h : AffRet B w e r) (hB : B' ≤ B) : AffRet B' w e r := by
  obtain ⟨p, cc, h1, h2⟩ := h
  exact ⟨p, cc, h1, h2.weak hB⟩

def addR (xs : List Int) (c : Int) (ys : List Int) (d : Int) : List Int × Int × Bool :=
  if affValidB xs c = true ∧ affValidB ys d = true then chk (List.zipWith (· + ·) xs ys) (c + d) else ([], 0, false)

/-- One of the two is not valid. -/
theorem addR_no {xs ys : List Int} {k l : Int} (h : affValidB xs k = false ∨ affValidB ys l = false) : addR xs k ys l = ([], 0, false) := by
  unfold addR; rw [if_neg]; rintro ⟨h1, h2⟩; rcases h with h | h
  · rw [h] at h1; cases h1
  · rw [h] at h2; cases h2

/-- linearOf, whatever the expression. -/
def linR (xs : List Int) (k : Int) : Int × Int × Int × Int × Int × Bool := if affValidB xs k = true then (xs.getD 0 0, xs.getD 1 0, xs.getD 2 0, xs.getD 3 0, k, true) else (0, 0, 0, 0, 0, false)
end Go.Proofs.Ytclgbnilfipobab

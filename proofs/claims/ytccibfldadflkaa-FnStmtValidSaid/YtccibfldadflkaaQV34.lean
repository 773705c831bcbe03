/- The texts A11 N1, joined. No statement is proved here. -/
import Derived.Test.YtccibfldadflkaaQV01
import Derived.Test.YtccibfldadflkaaQV30
/- Contracts: marks in an affine expression; what stays beside them. -/
namespace Go.Proofs.Ytccibfldadflkaa
open Go.RowKit

theorem IntsOwn.row {B n : Nat} {w : World} {v : Value} {xs : List Int} (h : IntsOwn B w v xs) (hn : xs.length = n) : w.ownsRow B 3 1 v n (xs.map (Value.int .i64)) := by
  unfold IntsOwn at h; rwa [hn] at h
theorem own_block_ge {B : Nat} {w : World} {v : Value} {xs : List Int} (h : IntsOwn B w v xs) {b : Nat} (hb : b < B) : some b ≠ v.ownBlock := by
  intro e
  have := (h.lt b e.symm).1
  omega
/-- A row of the call's own stays where another one, made later, is written. -/
theorem IntsOwn.beside {B B' : Nat} {w w' : World} {v u : Value} {xs ys : List Int} (h : IntsOwn B w v xs) (hu : IntsOwn B' w u ys) (hv : ∀ b, v.ownBlock = some b → b < B') (hg : w.grownBy w' u.ownBlock) : IntsOwn B w' v xs := by
  refine World.ownsRow.kept h hg ?_
  cases hb : v.ownBlock with
  | none => exact .inl rfl
  | some b => exact .inr (own_block_ge hu (hv b hb))
end Go.Proofs.Ytccibfldadflkaa

/- Contracts of the laws' own helpers for lists of expressions and nests: sizes. -/
namespace Go.Proofs.Ytccibfldadflkaa
open Go.RowKit

end Go.Proofs.Ytccibfldadflkaa

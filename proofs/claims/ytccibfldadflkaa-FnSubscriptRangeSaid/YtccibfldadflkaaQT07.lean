/- The texts N3, joined. No statement is proved here. -/
import Derived.Test.YtccibfldadflkaaQT40
/- Contracts of the laws' own helpers for nests: copies of loops and nests. -/
namespace Go.Proofs.Ytccibfldadflkaa
open Go.RowKit

theorem blk2_set0' {W : World} {g : Nat} {a b c : Value} {t : TypeId} (h : W.heap[g]? = some (.cells #[a, b] t (0, 0))) : (W.setCell ⟨g, 0, none⟩ c).heap[g]? = some (.cells #[c, b] t (0, 0)) := by
  rw [heap_setCell_same W g 0 _ _ c h]; rfl
theorem blk2_set1' {W : World} {g : Nat} {a b c : Value} {t : TypeId} (h : W.heap[g]? = some (.cells #[a, b] t (0, 0))) : (W.setCell ⟨g, 1, none⟩ c).heap[g]? = some (.cells #[a, c] t (0, 0)) := by
  rw [heap_setCell_same W g 1 _ _ c h]; rfl
theorem blk_off {a : World} {g g' o' : Nat} {o : Obj} (hg : a.heap[g]? = some o) (hne : g ≠ g') (u : Value) : (a.setCell ⟨g', o', none⟩ u).heap[g]? = some o := (Below.heap_setCell _ _ _ _ hne).trans hg

end Go.Proofs.Ytccibfldadflkaa

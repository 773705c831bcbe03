/- The texts G23, joined. No statement is proved here. -/
import Derived.Test.YtggpjapmhakklaaGreatQL21
import Derived.Test.YtggpjapmhakklaaGreatQL40
import Derived.Laws.MakeOwn
set_option maxRecDepth 100000
set_option maxHeartbeats 8000000
set_option linter.unusedVariables false
set_option linter.unusedSimpArgs false
namespace Go.Proofs.YtggpjapmhakklaaGreat
open Go.RowKit
def FlgAt (w : World) (L : Nat) (l : List Bool) : Prop := w.heap[L]? = some (.cells (l.map Value.bool).toArray 4 (0, 0))
theorem FlgAt.cell {w : World} {L m : Nat} {l : List Bool} {b : Bool} (h : FlgAt w L l) (hm : l[m]? = some b) : w.cell? ⟨L, m, none⟩ = some (.bool b) := by
 unfold FlgAt at h
 simp [World.cell?, h, List.getElem?_map, hm]
theorem FlgAt.frozen {w : World} {L m : Nat} {l : List Bool} (h : FlgAt w L l) : w.frozen? ⟨L, m, none⟩ = false := by
 unfold FlgAt at h
 simp [World.frozen?, h]
theorem FlgAt.set {w : World} {L m : Nat} {l : List Bool} (h : FlgAt w L l) (b : Bool) : FlgAt (w.setCell ⟨L, m, none⟩ (.bool b)) L (l.set m b) := by
 have h1 := heap_setCell_same w L m _ _ (.bool b) h
 unfold FlgAt
 rw [h1]
 simp [List.map_set]
end Go.Proofs.YtggpjapmhakklaaGreat

/- The texts U4 U6, joined. No statement is proved here. -/
import Derived.Test.YtccibfldadflkaaK49
import Derived.Test.YtccibfldadflkaaK23
import Derived.Test.YtccibfldadflkaaK40
import Derived.Test.YtccibfldadflkaaK31
/- The model's StackDistances, LruMisses and FitSize. No statement is proved here. -/
namespace Go.Proofs.Ytccibfldadflkaa
open Go.RowKit Go.Maps

theorem own_empty (w : World) : IntsOwn w.heap.size (w.alloc (.cells #[] 3)) (.slice (some ⟨w.heap.size, 0, none⟩) 0 0) [] :=
  World.ownsRow_made w #[] 0 (Nat.le_refl _) (Nat.zero_le _) rfl
end Go.Proofs.Ytccibfldadflkaa

/- The program's StackDistances (by u6.py). No statement is proved here. -/
namespace Go.Proofs.Ytccibfldadflkaa
open Go.RowKit Go.Maps
attribute [local go_sem] Oper.semAt_some

end Go.Proofs.Ytccibfldadflkaa

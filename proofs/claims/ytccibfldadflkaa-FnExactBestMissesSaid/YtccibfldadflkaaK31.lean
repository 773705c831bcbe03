/- The texts U3 U5, joined. No statement is proved here. -/
import Derived.Test.YtccibfldadflkaaK49
import Derived.Test.YtccibfldadflkaaK23
import Derived.Test.YtccibfldadflkaaK43
import Derived.LaidEqlPtr
/- The ring of a cache's entries: unlink, recentOf, since, hold, count, drop (by u3.py). No statement is proved here. -/
namespace Go.Proofs.Ytccibfldadflkaa
open Go.RowKit Go.Maps
attribute [local go_sem] Oper.semAt_some

theorem ret_i {a b : Int} (h : a = b) : Ending.returned (.int .i64 a) = .returned (.int .i64 b) := by rw [h]
theorem IMc.mono {w : World} {b n k : Nat} {F : Int → Option Value} (h : IMc w b n F k) {n' : Nat} (hn : n ≤ n') : IMc w b n' F k := by
  obtain ⟨D, h1, h2⟩ := h
  exact ⟨D, h1.mono hn, h2⟩
end Go.Proofs.Ytccibfldadflkaa

/- The ring of a cache's entries: hold (by u5.py). No statement is proved here. -/
namespace Go.Proofs.Ytccibfldadflkaa
open Go.RowKit Go.Maps
attribute [local go_sem] Oper.semAt_some

end Go.Proofs.Ytccibfldadflkaa

/- The texts N11, joined. No statement is proved here. -/
import Derived.Test.YtccibfldadflkaaQV46
import Derived.BigQuiet
import Derived.Deep.QuietTactic
/- Contracts: greatest and least values of lists of ints; values of the bounds of a side. | Contracts: the range of a loop at a point. | Contract: the model's range of a loop at a point. | Contracts: LoopRange and PointIn. | Contracts: PointIn and its model. -/
namespace Go.Proofs.Ytccibfldadflkaa
open Go.RowKit

end Go.Proofs.Ytccibfldadflkaa

namespace Go.Proofs.Ytccibfldadflkaa
open Go.RowKit

end Go.Proofs.Ytccibfldadflkaa

namespace Go.Proofs.Ytccibfldadflkaa
open Go.RowKit

end Go.Proofs.Ytccibfldadflkaa

namespace Go.Proofs.Ytccibfldadflkaa
open Go.RowKit

end Go.Proofs.Ytccibfldadflkaa

namespace Go.Proofs.Ytccibfldadflkaa
open Go.RowKit

theorem IntsOwn.cap {B : Nat} {w : World} {p : Option Addr} {n c : Nat} {xs : List Int} (h : IntsOwn B w (.slice p n c) xs) : n ≤ c := by
  rcases h.2 with ⟨hv, hn⟩ | ⟨g, cap, cur, hv, _, _, h1, _⟩
  · cases hv; omega
  · cases hv; exact h1

end Go.Proofs.Ytccibfldadflkaa

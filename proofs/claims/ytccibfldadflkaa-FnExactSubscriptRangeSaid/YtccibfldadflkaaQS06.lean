/- The texts A11, joined. No statement is proved here. -/
import Derived.Test.YtccibfldadflkaaQS05
/- Contracts: marks in an affine expression; what stays beside them. -/
namespace Go.Proofs.Ytccibfldadflkaa
open Go.RowKit

theorem IntsOwn.row {B n : Nat} {w : World} {v : Value} {xs : List Int} (h : IntsOwn B w v xs) (hn : xs.length = n) : w.ownsRow B 3 1 v n (xs.map (Value.int .i64)) := by
  unfold IntsOwn at h; rwa [hn] at h
end Go.Proofs.Ytccibfldadflkaa

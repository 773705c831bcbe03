/- The texts G34 G35 G36, joined. No statement is proved here. -/
import Derived.Test.YtmhldhjpfeageabGreatK42
import Derived.Test.YtmhldhjpfeageabGreatK38
import Derived.Test.YtmhldhjpfeageabGreatK53
import Derived.Sort.OwnSortedInts
import Derived.Lib.SlicesCompact
import Derived.Lib.RowBridge
/- What a program writes, in ascending order: the model's l5Flagged and WrittenCells. No statement is proved here. -/
namespace Go.Proofs.YtmhldhjpfeageabGreat
open Go.RowKit Go.Maps
theorem InssOwn.setOld {B : Nat} {w : World} {v : Value} {l : List In3} (h : InssOwn B w v l) {p : Addr} (hp : p.block < B) (u : Value) : InssOwn B (w.setCell p u) v l := by
 obtain ⟨vs, ho, he⟩ := h
 refine ⟨vs, ownsRow_setCell_below ho hp u, fun i x hi => ?_⟩
 obtain ⟨u0, u1, u2, a0, a1, a2, b0, b1, b2⟩ := he i x hi
 exact ⟨u0, u1, u2, a0, a1, a2, b0, b1, b2.setOld hp u⟩
theorem write_bd {ars : List Arr} {s : St} {pt : List Int} (hok : ∀ a ∈ ars, arrOkB a = true) (h : cellsOk ars s pt = true) : 0 ≤ writeCell ars s pt ∧ writeCell ars s pt < totN ars := by
 simp only [cellsOk, Bool.and_eq_true, decide_eq_true_eq] at h
 have h1 := cellI_bd s.1 s.2.1 pt (base := 0) hok
 have h2 : cellI s.1 s.2.1 pt 0 ars = writeCell ars s pt := rfl
 rw [h2] at h1
 omega
end Go.Proofs.YtmhldhjpfeageabGreat
/- The program's ascending: slices.Sort and slices.Compact of a row of the call's own; what it lists. No statement is proved here. -/
namespace Go.Proofs.YtmhldhjpfeageabGreat
open Go.RowKit Go.Maps Go.Sort
end Go.Proofs.YtmhldhjpfeageabGreat
/- The program's WrittenCells. No statement is proved here. -/
namespace Go.Proofs.YtmhldhjpfeageabGreat
open Go.RowKit Go.Maps
end Go.Proofs.YtmhldhjpfeageabGreat

/- The texts I4 G34 G35 G36, joined. No statement is proved here. -/
import Derived.Test.YtklehkkclojccaaGreatK49
import Derived.Test.YtklehkkclojccaaGreatK46
import Derived.Test.YtklehkkclojccaaGreatK41
import Derived.Test.YtklehkkclojccaaGreatK53
import Derived.Sort.OwnSortedInts
import Derived.Lib.SlicesCompact
import Derived.Lib.RowBridge
/- The model's InstanceValue. No statement is proved here. -/
namespace Go.Proofs.YtklehkkclojccaaGreat
open Go.RowKit Go.Maps
theorem rdOk_of {ars : List Arr} {s : St} {pt : List Int} {m : Nat} (hok : ∀ a ∈ ars, arrOkB a = true) (h : cellsOk ars s pt = true) (hm : (m : Int) = totN ars) : rdOk ars m pt 5 s.2.2 := by
 intro a ha
 simp only [cellsOk, Bool.and_eq_true, List.all_eq_true, decide_eq_true_eq] at h
 have h0 := h.1 (cellI a.1 a.2 pt 0 ars) (List.mem_map.2 ⟨a, ha, rfl⟩)
 have h1 := cellI_bd a.1 a.2 pt (base := 0) hok
 omega
theorem validB_shape {arr : ByteArray} {subs : List Aff} {e : Ex} {d : Int} (h : validB arr subs e d = true) : shapeB 5 e d = true := by
 simp only [validB, Bool.and_eq_true] at h
 exact h.2.2.2.1
theorem memB_parts {ars : List Arr} {ps : List Pt} {xs : List Int} (h : memB ars ps xs = true) : valsB xs = true ∧ progB ars ps = true ∧ (xs.length : Int) = totN ars := by
 simp only [memB, Bool.and_eq_true, decide_eq_true_eq] at h
 exact h
end Go.Proofs.YtklehkkclojccaaGreat
/- What a program writes, in ascending order: the model's l5Flagged and WrittenCells. No statement is proved here. -/
namespace Go.Proofs.YtklehkkclojccaaGreat
open Go.RowKit Go.Maps
theorem InssOwn.setOld {B : Nat} {w : World} {v : Value} {l : List In3} (h : InssOwn B w v l) {p : Addr} (hp : p.block < B) (u : Value) : InssOwn B (w.setCell p u) v l := by
 obtain ⟨vs, ho, he⟩ := h
 refine ⟨vs, ownsRow_setCell_below ho hp u, fun i x hi => ?_⟩
 obtain ⟨u0, u1, u2, a0, a1, a2, b0, b1, b2⟩ := he i x hi
 exact ⟨u0, u1, u2, a0, a1, a2, b0, b1, b2.setOld hp u⟩
theorem write_bd {ars : List Arr} {s : St} {pt : List Int} (hok : ∀ a ∈ ars, arrOkB a = true) (h : cellsOk ars s pt = true) : 0 ≤ writeCell ars s pt ∧ writeCell ars s pt < totN ars := by
 simp only [cellsOk, Bool.and_eq_true, decide_eq_true_eq] at h
 have h1 := cellI_bd s.1 s.2.1 pt (base := 0) hok
 have h2 : cellI s.1 s.2.1 pt 0 ars = writeCell ars s pt := rfl
 rw [h2] at h1
 omega
end Go.Proofs.YtklehkkclojccaaGreat
/- The program's ascending: slices.Sort and slices.Compact of a row of the call's own; what it lists. No statement is proved here. -/
namespace Go.Proofs.YtklehkkclojccaaGreat
open Go.RowKit Go.Maps Go.Sort
end Go.Proofs.YtklehkkclojccaaGreat
/- The program's WrittenCells. No statement is proved here. -/
namespace Go.Proofs.YtklehkkclojccaaGreat
open Go.RowKit Go.Maps
end Go.Proofs.YtklehkkclojccaaGreat

/- The texts I4, joined. No statement is proved here. -/
import Derived.Test.YtmhldhjpfeageabGreatK53
import Derived.Test.YtmhldhjpfeageabGreatK48
/- The model's InstanceValue. No statement is proved here. -/
namespace Go.Proofs.YtmhldhjpfeageabGreat
open Go.RowKit Go.Maps
theorem rdOk_of {ars : List Arr} {s : St} {pt : List Int} {m : Nat} (hok : ∀ a ∈ ars, arrOkB a = true) (h : cellsOk ars s pt = true) (hm : (m : Int) = totN ars) : rdOk ars m pt 5 s.2.2 := by
 intro a ha
 simp only [cellsOk, Bool.and_eq_true, List.all_eq_true, decide_eq_true_eq] at h
 have h0 := h.1 (cellI a.1 a.2 pt 0 ars) (List.mem_map.2 ⟨a, ha, rfl⟩)
 have h1 := cellI_bd a.1 a.2 pt (base := 0) hok
 omega
theorem validB_shape {arr : ByteArray} {subs : List Aff} {e : Ex} {d : Int} (h : validB arr subs e d = true) : shapeB 5 e d = true := by
 simp only [validB, Bool.and_eq_true] at h
 exact h.2.2.2.1
theorem memB_parts {ars : List Arr} {ps : List Pt} {xs : List Int} (h : memB ars ps xs = true) : valsB xs = true ∧ progB ars ps = true ∧ (xs.length : Int) = totN ars := by
 simp only [memB, Bool.and_eq_true, decide_eq_true_eq] at h
 exact h
end Go.Proofs.YtmhldhjpfeageabGreat

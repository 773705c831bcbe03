/- The texts G34, joined. No statement is proved here. -/
import Derived.Test.YtbcjllanigmioaaGreatK42
import Derived.Test.YtbcjllanigmioaaGreatK39
/- What a program writes, in ascending order: the model's l5Flagged and WrittenCells. No statement is proved here. -/
namespace Go.Proofs.YtbcjllanigmioaaGreat
open Go.RowKit Go.Maps

/-- The numbers below n that are in s, in ascending order. -/
def fl (n : Nat) (s : List Int) : List Int := ((List.range n).filter (fun (j : Nat) => decide ((j : Int) ∈ s))).map (fun (j : Nat) => (j : Int))
theorem fl_yes {k : Nat} {s : List Int} (h : (k : Int) ∈ s) : fl (k + 1) s = fl k s ++ [(k : Int)] := by simp [fl, List.range_succ, List.filter_append, h]
theorem fl_no {k : Nat} {s : List Int} (h : (k : Int) ∉ s) : fl (k + 1) s = fl k s := by simp [fl, List.range_succ, List.filter_append, h]
theorem InssOwn.setOld {B : Nat} {w : World} {v : Value} {l : List In3} (h : InssOwn B w v l) {p : Addr} (hp : p.block < B) (u : Value) : InssOwn B (w.setCell p u) v l := by
  obtain ⟨vs, ho, he⟩ := h
  refine ⟨vs, ownsRow_setCell_below ho hp u, fun i x hi => ?_⟩
  obtain ⟨u0, u1, u2, a0, a1, a2, b0, b1, b2⟩ := he i x hi
  exact ⟨u0, u1, u2, a0, a1, a2, b0, b1, b2.setOld hp u⟩
theorem write_bd {ars : List Arr} {s : St} {pt : List Int} (hok : ∀ a ∈ ars, arrOkB a = true) (h : cellsOk ars s pt = true) : 0 ≤ writeCell ars s pt ∧ writeCell ars s pt < totN ars := by
  simp only [cellsOk, Bool.and_eq_true, decide_eq_true_eq] at h
  have h1 := cellI_bd s.1 s.2.1 pt (base := 0) hok
  have h2 : cellI s.1 s.2.1 pt 0 ars = writeCell ars s pt := rfl
  rw [h2] at h1
  omega

end Go.Proofs.YtbcjllanigmioaaGreat

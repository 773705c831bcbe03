/- Contracts: validity of nests. -/
import Derived.Test.YtcpbfefgjpimiaaN5b
namespace Go.Proofs.Ytcpbfefgjpimiaa
open Go.RowKit

/-- The nest is valid. -/
def nestB (ls : List Lp) : Bool := decide (ls.length ≤ 4) && (List.range ls.length).all (fun i => match ls[i]? with | some l => loopB l i | none => true)
theorem nestB_iff {ls : List Lp} : nestB ls = true ↔ ls.length ≤ 4 ∧ ∀ (i : Nat) (l : Lp), ls[i]? = some l → loopB l i = true := by
  simp only [nestB, Bool.and_eq_true, decide_eq_true_eq, List.all_eq_true, List.mem_range]
  refine and_congr_right fun _ => ⟨fun h i l hi => ?_, fun h i hi => ?_⟩
  · have := h i (List.getElem?_eq_some_iff.1 hi).1
    rw [hi] at this; exact this
  · obtain ⟨l, hl⟩ := get_some (xs := ls) (k := i) hi
    rw [hl]; exact h i l hl
theorem nestB_no {ls : List Lp} {i : Nat} {l : Lp} (hi : ls[i]? = some l) (h : loopB l i = false) : nestB ls = false := by
  cases hb : nestB ls with
  | false => rfl
  | true => rw [(nestB_iff.1 hb).2 i l hi] at h; cases h
theorem nestB_len {ls : List Lp} (h : ¬ ls.length ≤ 4) : nestB ls = false := by
  cases hb : nestB ls with
  | false => rfl
  | true => exact absurd (nestB_iff.1 hb).1 h

end Go.Proofs.Ytcpbfefgjpimiaa

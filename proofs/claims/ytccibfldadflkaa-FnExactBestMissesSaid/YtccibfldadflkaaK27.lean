/- The texts Op, joined. No statement is proved here. -/
import Derived.Test.YtccibfldadflkaaK29
import Derived.ProofKit
import Derived.OpenShut
import Derived.ShutString
import Derived.ChangeOld
import Derived.Below
import Derived.Lib.SmallJoins
import Derived.Test.YtccibfldadflkaaK48
import Derived.Deep.SlicePairs
import Derived.Test.YtccibfldadflkaaK13
/- The arguments of a law, opened: what they read as. | The arguments of a law, opened: nests. | The arguments of a law, opened: bytes. -/
namespace Go.Proofs.Ytccibfldadflkaa
open Go.RowKit Go.ChangeShapes Go.WideShapes Go.ChangeAt Go.Joins

theorem own : ownKnob Try.prog.godebug = none := by kernel_rfl
theorem laidOut : laidOutB Try.prog = true := by kernel_rfl
theorem cellsInt : Try.prog.cellsOf 3 = 1 := by kernel_rfl

theorem i64_of_wf {n : Int} (h : (Lit.int .i64 n).wf = true) : i64 n := by
  simp [Lit.wf, IntKind.min, IntKind.signed, IntKind.bits] at h
  unfold i64; omega

/-- A slice of ints, as it came in. -/
theorem ints_of_trod {H : Type} {enc : TypeId × Value → H} {W : World} {fuel : Nat} {v : Value} {x : DataW H × List MemPlace} (h : DataW.trod enc Try.prog W 0 (fun _ => true) true fuel 22 [v] = some x) : ∃ xs, IntsAt W v xs ∧ ∀ n ∈ xs, i64 n := by
  rcases open_ints Try.underlying22 Try.underlying3 cellsInt h with ⟨hcs, _⟩ | ⟨a, len, cap, zs, hcs, _, hl, hm, hz, _, hcell, hwz⟩
  · simp only [List.cons.injEq, and_true] at hcs
    subst hcs
    exact ⟨[], ⟨none, 0, rfl, by simp, fun i x hi => by simp at hi⟩, fun n hn => by simp at hn⟩
  · simp only [List.cons.injEq, and_true] at hcs
    subst hcs
    have hz' : zs.length = cap := by simpa using hz
    have hlen : (zs.take len).length = len := by simp; omega
    refine ⟨zs.take len, ⟨some a, cap, by rw [hlen], by rw [hlen]; unfold maxLen at hm; omega, fun i x hi => ?_⟩, fun n hn => ?_⟩
    · have hi' : i < len := by
        rcases Nat.lt_or_ge i len with h | h
        · exact h
        · rw [List.getElem?_eq_none (by omega)] at hi; cases hi
      have hzi : zs[i]? = some x := by rw [List.getElem?_take, if_pos hi'] at hi; exact hi
      have hc := hcell i (by omega)
      have hg : zs.getD i 0 = x := by rw [List.getD_eq_getElem?_getD, hzi]; rfl
      rw [hg] at hc
      have hc0 := hcell 0 (by omega)
      obtain ⟨b, off, spot⟩ := a
      have hs := World.cell?_spot hc0
      have hspot : spot = none := by simpa [Addr.add] using hs
      subst hspot
      exact ⟨b, off, rfl, by rwa [Addr.add_lit] at hc⟩
    · have := hwz n (List.mem_of_mem_take hn)
      exact i64_of_wf this

def RInts (w : World) (v : Value) : Prop := ∃ xs, IntsAt w v xs ∧ ∀ n ∈ xs, i64 n
def RInt (_ : World) (v : Value) : Prop := ∃ n, v = .int .i64 n ∧ i64 n

set_option maxRecDepth 100000 in
theorem open_ints1 {H : Type} {enc : TypeId × Value → H} {W : World} {base : Nat} {v : Value} {d : DataW H} {p : List MemPlace} (hv : Value.okWide Try.prog W .any base 22 v) (h : DataW.Trod enc Try.prog W 0 (fun _ => true) true 22 v d p) : RInts W v := by
  obtain ⟨a0, len, cap, rfl⟩ := okWide_slice Try.underlying22 hv
  obtain ⟨fuel, hf⟩ := h
  exact ints_of_trod (by simpa [Value.cells] using hf)

set_option maxRecDepth 100000 in
theorem open_int1 {H : Type} {enc : TypeId × Value → H} {W : World} {base : Nat} {v : Value} {d : DataW H} {p : List MemPlace} (hv : Value.okWide Try.prog W .any base 3 v) (h : DataW.Trod enc Try.prog W 0 (fun _ => true) true 3 v d p) : RInt W v := by
  obtain ⟨n, rfl, rfl, rfl, wn⟩ := open_int Try.underlying3 hv h
  exact ⟨n, rfl, i64_of_wf wn⟩
end Go.Proofs.Ytccibfldadflkaa

namespace Go.Proofs.Ytccibfldadflkaa
open Go.RowKit Go.ChangeShapes Go.WideShapes Go.ChangeAt Go.Joins

end Go.Proofs.Ytccibfldadflkaa

namespace Go.Proofs.Ytccibfldadflkaa
open Go.RowKit Go.ChangeShapes Go.WideShapes Go.ChangeAt Go.Joins

end Go.Proofs.Ytccibfldadflkaa

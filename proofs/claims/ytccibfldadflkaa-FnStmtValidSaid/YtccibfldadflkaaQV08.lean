/- The texts Op, joined. No statement is proved here. -/
import Derived.Test.YtccibfldadflkaaQV39
import Derived.ProofKit
import Derived.OpenShut
import Derived.ShutString
import Derived.ChangeOld
import Derived.Below
import Derived.Lib.SmallJoins
import Derived.Test.YtccibfldadflkaaQV30
import Derived.Deep.SlicePairs
import Derived.Test.YtccibfldadflkaaQV03
/- The arguments of a law, opened: what they read as. | The arguments of a law, opened: nests. | The arguments of a law, opened: bytes. -/
namespace Go.Proofs.Ytccibfldadflkaa
open Go.RowKit Go.ChangeShapes Go.WideShapes Go.ChangeAt Go.Joins

theorem own : ownKnob Try.prog.godebug = none := by kernel_rfl
theorem laidOut : laidOutB Try.prog = true := by kernel_rfl
end Go.Proofs.Ytccibfldadflkaa

namespace Go.Proofs.Ytccibfldadflkaa
open Go.RowKit Go.ChangeShapes Go.WideShapes Go.ChangeAt Go.Joins

end Go.Proofs.Ytccibfldadflkaa

namespace Go.Proofs.Ytccibfldadflkaa
open Go.RowKit Go.ChangeShapes Go.WideShapes Go.ChangeAt Go.Joins

theorem cellsByte : Try.prog.cellsOf 5 = 1 := by kernel_rfl
def RBytes (w : World) (v : Value) : Prop := ∃ p n c, v = .slice p n c ∧ BytesAt w p n c ∧ (∀ b off, 0 < n → p = some ⟨b, off, none⟩ → b < w.heap.size)

theorem bytes_of_trod {H : Type} {enc : TypeId × Value → H} {W : World} {fuel : Nat} {v : Value} {x : DataW H × List MemPlace} (h : DataW.trod enc Try.prog W 0 (fun _ => true) true fuel 41 [v] = some x) : ∃ p n c, v = .slice p n c ∧ BytesAt W p n c := by
  rcases open_ints Try.underlying41 Try.underlying5 cellsByte h with ⟨hcs, _⟩ | ⟨a, len, cap, zs, hcs, _, hl, hm, hz, _, hcell, hwz⟩
  · simp only [List.cons.injEq, and_true] at hcs
    subst hcs
    exact ⟨none, 0, 0, rfl, Nat.le_refl _, by omega, fun i hi => absurd hi (by omega)⟩
  · simp only [List.cons.injEq, and_true] at hcs
    subst hcs
    have hz' : zs.length = cap := by simpa using hz
    refine ⟨some a, len, cap, rfl, hl, by unfold maxLen at hm; omega, fun i hi => ?_⟩
    have hc := hcell i (by omega)
    have hc0 := hcell 0 (by omega)
    obtain ⟨b, off, spot⟩ := a
    have hs := World.cell?_spot hc0
    have hspot : spot = none := by simpa [Addr.add] using hs
    subst hspot
    obtain ⟨z, hzi⟩ := get_some (xs := zs) (k := i) (by omega)
    have hw := hwz z (List.mem_of_getElem? hzi)
    have hw' : 0 ≤ z ∧ z ≤ 255 := by simpa [Lit.wf, IntKind.min, IntKind.max, IntKind.signed, IntKind.bits] using hw
    obtain ⟨y, rfl⟩ := Int.eq_ofNat_of_zero_le hw'.1
    have hg : zs.getD i 0 = (y : Int) := by rw [List.getD_eq_getElem?_getD, hzi]; rfl
    rw [hg, Addr.add_lit] at hc
    exact ⟨b, off, y, rfl, hc, by omega⟩

set_option maxRecDepth 100000 in
theorem open_bytes {H : Type} {enc : TypeId × Value → H} {W : World} {base : Nat} {v : Value} {d : DataW H} {p : List MemPlace} (hv : Value.okWide Try.prog W .any base 41 v) (h : DataW.Trod enc Try.prog W 0 (fun _ => true) true 41 v d p) : RBytes W v := by
  obtain ⟨a0, len, cap, rfl⟩ := okWide_slice Try.underlying41 hv
  obtain ⟨fuel, hf⟩ := h
  obtain ⟨p, n, c, e, hb⟩ := bytes_of_trod (v := .slice a0 len cap) (by simpa [Value.cells] using hf)
  cases e
  refine ⟨_, _, _, rfl, hb, fun b off hn e => ?_⟩
  obtain ⟨b', off', y, e', hc, _⟩ := hb.2.2 0 hn
  rw [e] at e'
  cases e'
  exact World.block_lt_of_cell? W _ hc
end Go.Proofs.Ytccibfldadflkaa

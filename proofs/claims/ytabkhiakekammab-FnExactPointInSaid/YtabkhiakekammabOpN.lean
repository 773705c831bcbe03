/- The arguments of a law, opened: nests. -/
import Derived.Test.YtabkhiakekammabN0
import Derived.Test.YtabkhiakekammabOp
import Derived.Deep.SlicePairs
namespace Go.Proofs.Ytabkhiakekammab
open Go.RowKit Go.ChangeShapes Go.WideShapes Go.ChangeAt Go.Joins

theorem pairs_mk {α : Type} [Inhabited α] {R : World → Value → Value → α → Prop} {W : World} {a : Addr} {len cap : Nat} {V0 V1 : Nat → Value} (hm : len ≤ 9223372036854775807)
    (hc : ∀ i, i < len → W.cell? (a.add (i * 2)) = some (V0 i) ∧ W.cell? (a.add (i * 2 + 1)) = some (V1 i) ∧ ∃ x, R W (V0 i) (V1 i) x) : ∃ xs, PairsAt R W (.slice (some a) len cap) xs := by
  obtain ⟨f, hf⟩ := Go.Deep.choose_lt (n := len) (p := fun i x => R W (V0 i) (V1 i) x) (fun i hi => (hc i hi).2.2)
  have hlen : ((List.range len).map f).length = len := by simp
  refine ⟨(List.range len).map f, some a, cap, by rw [hlen], by omega, fun i x hi => ?_⟩
  have hlt : i < len := by rw [← hlen]; exact (List.getElem?_eq_some_iff.1 hi).1
  obtain ⟨h0, h1, _⟩ := hc i hlt
  have hx : f i = x := by
    rw [List.getElem?_map, List.getElem?_range hlt] at hi
    simpa using hi
  obtain ⟨b, off, spot⟩ := a
  have hs := World.cell?_spot (hc 0 (by omega)).1
  have hspot : spot = none := by simpa [Addr.add] using hs
  subst hspot
  rw [Addr.add_lit] at h0 h1
  exact ⟨b, off, _, _, rfl, h0, h1, World.block_lt_of_cell? W _ h0, by rw [← hx]; exact hf i hlt⟩

theorem affs_of_trod {H : Type} {enc : TypeId × Value → H} {W : World} {fuel : Nat} {v : Value} {x : DataW H × List MemPlace} (h : DataW.trod enc Try.prog W 0 (fun _ => true) true fuel 42 [v] = some x) : ∃ xs, AffsAt W v xs := by
  rcases Go.Deep.open_slice_pairs Try.underlying42 Try.underlying78 (by kernel_rfl) (by kernel_rfl) (by kernel_rfl) (by kernel_rfl) (by kernel_rfl) h with ⟨hcs, _⟩ | ⟨a, len, cap, m, n, V0, V1, D0, D1, P0, P1, hcs, _, hl, hm, hmm, _, hcell⟩
  · simp only [List.cons.injEq, and_true] at hcs
    subst hcs
    exact ⟨[], none, 0, rfl, by simp, fun i x hi => by simp at hi⟩
  · simp only [List.cons.injEq, and_true] at hcs
    subst hcs
    refine pairs_mk (R := AffR) (V0 := V0) (V1 := V1) (by unfold maxLen at hm; omega) (fun i hi => ?_)
    obtain ⟨h0, h1, t0, t1⟩ := hcell i (by rw [hmm]; split <;> omega)
    obtain ⟨xs, hx, _⟩ := ints_of_trod t0
    obtain ⟨k, e0, _, _⟩ := DataW.trod_int Try.underlying3 t1
    simp only [List.cons.injEq, and_true] at e0
    exact ⟨h0, h1, (xs, k), hx, e0⟩

theorem loops_of_trod {H : Type} {enc : TypeId × Value → H} {W : World} {fuel : Nat} {v : Value} {x : DataW H × List MemPlace} (h : DataW.trod enc Try.prog W 0 (fun _ => true) true fuel 22 [v] = some x) : ∃ xs, LoopsAt W v xs := by
  rcases Go.Deep.open_slice_pairs Try.underlying22 Try.underlying44 (by kernel_rfl) (by kernel_rfl) (by kernel_rfl) (by kernel_rfl) (by kernel_rfl) h with ⟨hcs, _⟩ | ⟨a, len, cap, m, n, V0, V1, D0, D1, P0, P1, hcs, _, hl, hm, hmm, _, hcell⟩
  · simp only [List.cons.injEq, and_true] at hcs
    subst hcs
    exact ⟨[], none, 0, rfl, by simp, fun i x hi => by simp at hi⟩
  · simp only [List.cons.injEq, and_true] at hcs
    subst hcs
    refine pairs_mk (R := LoopR) (V0 := V0) (V1 := V1) (by unfold maxLen at hm; omega) (fun i hi => ?_)
    obtain ⟨h0, h1, t0, t1⟩ := hcell i (by rw [hmm]; split <;> omega)
    obtain ⟨xs, hx⟩ := affs_of_trod t0
    obtain ⟨ys, hy⟩ := affs_of_trod t1
    exact ⟨h0, h1, (xs, ys), hx, hy⟩

def RLoops (w : World) (v : Value) : Prop := ∃ xs, LoopsAt w v xs
set_option maxRecDepth 100000 in
theorem open_loops1 {H : Type} {enc : TypeId × Value → H} {W : World} {base : Nat} {v : Value} {d : DataW H} {p : List MemPlace} (hv : Value.okWide Try.prog W .any base 22 v) (h : DataW.Trod enc Try.prog W 0 (fun _ => true) true 22 v d p) : RLoops W v := by
  obtain ⟨a0, len, cap, rfl⟩ := okWide_slice Try.underlying22 hv
  obtain ⟨fuel, hf⟩ := h
  exact loops_of_trod (by simpa [Value.cells] using hf)
end Go.Proofs.Ytabkhiakekammab

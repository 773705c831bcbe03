/- The texts Op, joined. No statement is proved here. -/
import Derived.Test.YtccibfldadflkaaQS00
import Derived.ProofKit
import Derived.OpenShut
import Derived.ShutString
import Derived.ChangeOld
import Derived.Below
import Derived.Lib.SmallJoins
import Derived.Test.YtccibfldadflkaaQS40
import Derived.Deep.SlicePairs
import Derived.Test.YtccibfldadflkaaQS17
/- The arguments of a law, opened: what they read as. | The arguments of a law, opened: nests. | The arguments of a law, opened: bytes. -/
namespace Go.Proofs.Ytccibfldadflkaa
open Go.RowKit Go.ChangeShapes Go.WideShapes Go.ChangeAt Go.Joins

theorem own : ownKnob Try.prog.godebug = none := by kernel_rfl
theorem laidOut : laidOutB Try.prog = true := by kernel_rfl
theorem cellsInt : Try.prog.cellsOf 3 = 1 := by kernel_rfl

theorem i64_of_wf {n : Int} (h : (Lit.int .i64 n).wf = true) : i64 n := by
  simp [Lit.wf, IntKind.min, IntKind.signed, IntKind.bits] at h
  unfold i64; omega

/-- A slice of ints, as it came in. -/
theorem ints_of_trod {H : Type} {enc : TypeId × Value → H} {W : World} {fuel : Nat} {v : Value} {x : DataW H × List MemPlace} (h : DataW.trod enc Try.prog W 0 (fun _ => true) true fuel 22 [v] = some x) : ∃ xs, IntsAt W v xs ∧ ∀ n ∈ xs, i64 n := by
  rcases open_ints Try.underlying22 Try.underlying3 cellsInt h with ⟨hcs, _⟩ | ⟨a, len, cap, zs, hcs, _, hl, hm, hz, _, hcell, hwz⟩
  · simp only [List.cons.injEq, and_true] at hcs
    subst hcs
    exact ⟨[], ⟨none, 0, rfl, by simp, fun i x hi => by simp at hi⟩, fun n hn => by simp at hn⟩
  · simp only [List.cons.injEq, and_true] at hcs
    subst hcs
    have hz' : zs.length = cap := by simpa using hz
    have hlen : (zs.take len).length = len := by simp; omega
    refine ⟨zs.take len, ⟨some a, cap, by rw [hlen], by rw [hlen]; unfold maxLen at hm; omega, fun i x hi => ?_⟩, fun n hn => ?_⟩
    · have hi' : i < len := by
        rcases Nat.lt_or_ge i len with h | h
        · exact h
        · rw [List.getElem?_eq_none (by omega)] at hi; cases hi
      have hzi : zs[i]? = some x := by rw [List.getElem?_take, if_pos hi'] at hi; exact hi
      have hc := hcell i (by omega)
      have hg : zs.getD i 0 = x := by rw [List.getD_eq_getElem?_getD, hzi]; rfl
      rw [hg] at hc
      have hc0 := hcell 0 (by omega)
      obtain ⟨b, off, spot⟩ := a
      have hs := World.cell?_spot hc0
      have hspot : spot = none := by simpa [Addr.add] using hs
      subst hspot
      exact ⟨b, off, rfl, by rwa [Addr.add_lit] at hc⟩
    · have := hwz n (List.mem_of_mem_take hn)
      exact i64_of_wf this

def RAff (w : World) (v : Value) : Prop := ∃ s xs c, v = .agg #[s, .int .i64 c] ∧ IntsAt w s xs ∧ (∀ n ∈ xs, i64 n) ∧ i64 c
set_option maxRecDepth 100000 in
theorem open_aff {H : Type} {enc : TypeId × Value → H} {W : World} {base : Nat} {v : Value} {d : DataW H} {p : List MemPlace} (hv : Value.okWide Try.prog W .any base 29 v) (h : DataW.Trod enc Try.prog W 0 (fun _ => true) true 29 v d p) : RAff W v := by
  obtain ⟨c0, c1, y0, y1, m, rfl, rfl, rfl, hy0, hy1⟩ := open_agg2 Try.underlying29 (by kernel_rfl) (by kernel_rfl) hv h
  obtain ⟨xs, h1, h2⟩ := ints_of_trod hy0
  obtain ⟨n, e0, _, wn⟩ := DataW.trod_int Try.underlying3 hy1
  simp only [List.cons.injEq, and_true] at e0
  exact ⟨c0, xs, n, by rw [e0], h1, h2, i64_of_wf wn⟩

end Go.Proofs.Ytccibfldadflkaa

namespace Go.Proofs.Ytccibfldadflkaa
open Go.RowKit Go.ChangeShapes Go.WideShapes Go.ChangeAt Go.Joins

theorem pairs_mk {α : Type} [Inhabited α] {R : World → Value → Value → α → Prop} {W : World} {a : Addr} {len cap : Nat} {V0 V1 : Nat → Value} (hm : len ≤ 9223372036854775807)
    (hc : ∀ i, i < len → W.cell? (a.add (i * 2)) = some (V0 i) ∧ W.cell? (a.add (i * 2 + 1)) = some (V1 i) ∧ ∃ x, R W (V0 i) (V1 i) x) : ∃ xs, PairsAt R W (.slice (some a) len cap) xs := by
  obtain ⟨f, hf⟩ := Go.Deep.choose_lt (n := len) (p := fun i x => R W (V0 i) (V1 i) x) (fun i hi => (hc i hi).2.2)
  have hlen : ((List.range len).map f).length = len := by simp
  refine ⟨(List.range len).map f, some a, cap, by rw [hlen], by omega, fun i x hi => ?_⟩
  have hlt : i < len := by rw [← hlen]; exact (List.getElem?_eq_some_iff.1 hi).1
  obtain ⟨h0, h1, _⟩ := hc i hlt
  have hx : f i = x := by
    rw [List.getElem?_map, List.getElem?_range hlt] at hi
    simpa using hi
  obtain ⟨b, off, spot⟩ := a
  have hs := World.cell?_spot (hc 0 (by omega)).1
  have hspot : spot = none := by simpa [Addr.add] using hs
  subst hspot
  rw [Addr.add_lit] at h0 h1
  exact ⟨b, off, _, _, rfl, h0, h1, World.block_lt_of_cell? W _ h0, by rw [← hx]; exact hf i hlt⟩

theorem affs_of_trod {H : Type} {enc : TypeId × Value → H} {W : World} {fuel : Nat} {v : Value} {x : DataW H × List MemPlace} (h : DataW.trod enc Try.prog W 0 (fun _ => true) true fuel 69 [v] = some x) : ∃ xs, AffsAt W v xs := by
  rcases Go.Deep.open_slice_pairs Try.underlying69 Try.underlying29 (by kernel_rfl) (by kernel_rfl) (by kernel_rfl) (by kernel_rfl) (by kernel_rfl) h with ⟨hcs, _⟩ | ⟨a, len, cap, m, n, V0, V1, D0, D1, P0, P1, hcs, _, hl, hm, hmm, _, hcell⟩
  · simp only [List.cons.injEq, and_true] at hcs
    subst hcs
    exact ⟨[], none, 0, rfl, by simp, fun i x hi => by simp at hi⟩
  · simp only [List.cons.injEq, and_true] at hcs
    subst hcs
    refine pairs_mk (R := AffR) (V0 := V0) (V1 := V1) (by unfold maxLen at hm; omega) (fun i hi => ?_)
    obtain ⟨h0, h1, t0, t1⟩ := hcell i (by rw [hmm]; split <;> omega)
    obtain ⟨xs, hx, _⟩ := ints_of_trod t0
    obtain ⟨k, e0, _, _⟩ := DataW.trod_int Try.underlying3 t1
    simp only [List.cons.injEq, and_true] at e0
    exact ⟨h0, h1, (xs, k), hx, e0⟩

theorem loops_of_trod {H : Type} {enc : TypeId × Value → H} {W : World} {fuel : Nat} {v : Value} {x : DataW H × List MemPlace} (h : DataW.trod enc Try.prog W 0 (fun _ => true) true fuel 27 [v] = some x) : ∃ xs, LoopsAt W v xs := by
  rcases Go.Deep.open_slice_pairs Try.underlying27 Try.underlying71 (by kernel_rfl) (by kernel_rfl) (by kernel_rfl) (by kernel_rfl) (by kernel_rfl) h with ⟨hcs, _⟩ | ⟨a, len, cap, m, n, V0, V1, D0, D1, P0, P1, hcs, _, hl, hm, hmm, _, hcell⟩
  · simp only [List.cons.injEq, and_true] at hcs
    subst hcs
    exact ⟨[], none, 0, rfl, by simp, fun i x hi => by simp at hi⟩
  · simp only [List.cons.injEq, and_true] at hcs
    subst hcs
    refine pairs_mk (R := LoopR) (V0 := V0) (V1 := V1) (by unfold maxLen at hm; omega) (fun i hi => ?_)
    obtain ⟨h0, h1, t0, t1⟩ := hcell i (by rw [hmm]; split <;> omega)
    obtain ⟨xs, hx⟩ := affs_of_trod t0
    obtain ⟨ys, hy⟩ := affs_of_trod t1
    exact ⟨h0, h1, (xs, ys), hx, hy⟩

def RLoops (w : World) (v : Value) : Prop := ∃ xs, LoopsAt w v xs
set_option maxRecDepth 100000 in
theorem open_loops1 {H : Type} {enc : TypeId × Value → H} {W : World} {base : Nat} {v : Value} {d : DataW H} {p : List MemPlace} (hv : Value.okWide Try.prog W .any base 27 v) (h : DataW.Trod enc Try.prog W 0 (fun _ => true) true 27 v d p) : RLoops W v := by
  obtain ⟨a0, len, cap, rfl⟩ := okWide_slice Try.underlying27 hv
  obtain ⟨fuel, hf⟩ := h
  exact loops_of_trod (by simpa [Value.cells] using hf)
end Go.Proofs.Ytccibfldadflkaa

namespace Go.Proofs.Ytccibfldadflkaa
open Go.RowKit Go.ChangeShapes Go.WideShapes Go.ChangeAt Go.Joins

end Go.Proofs.Ytccibfldadflkaa

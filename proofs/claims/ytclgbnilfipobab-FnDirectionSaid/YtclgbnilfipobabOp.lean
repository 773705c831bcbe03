/- The arguments of a law, opened: what they read as. | The arguments of a law, opened: nests. | The arguments of a law, opened: bytes. -/
import Derived.Test.YtclgbnilfipobabFw
import Derived.ProofKit
import Derived.OpenShut
import Derived.ShutString
import Derived.ChangeOld
import Derived.Below
import Derived.Lib.SmallJoins
import Derived.Test.YtclgbnilfipobabN0
import Derived.Deep.SlicePairs
import Derived.Test.YtclgbnilfipobabD1
namespace Go.Proofs.Ytclgbnilfipobab
open Go.RowKit Go.ChangeShapes Go.WideShapes Go.ChangeAt Go.Joins

theorem own : ownKnob Try.prog.godebug = none := by kernel_rfl
theorem laidOut : laidOutB Try.prog = true := by kernel_rfl
theorem cellsInt : Try.prog.cellsOf 3 = 1 := by kernel_rfl

theorem i64_of_wf {n : Int} (h : (Lit.int .i64 n).wf = true) : i64 n := by
  simp [Lit.wf, IntKind.min, IntKind.signed, IntKind.bits] at h
  unfold i64; omega

/-- A slice of ints, as it came in. -/
theorem ints_of_trod {H : Type} {enc : TypeId × Value → H} {W : World} {fuel : Nat} {v : Value} {x : DataW H × List MemPlace} (h : DataW.trod enc Try.prog W 0 (fun _ => true) true fuel 22 [v] = some x) : ∃ xs, IntsAt W v xs ∧ ∀ n ∈ xs, i64 n := by
  rcases open_ints Try.underlying22 Try.underlying3 cellsInt h with ⟨hcs, _⟩ | ⟨a, len, cap, zs, hcs, _, hl, hm, hz, _, hcell, hwz⟩
  · simp only [List.cons.injEq, and_true] at hcs
    subst hcs
    exact ⟨[], ⟨none, 0, rfl, by simp, fun i x hi => by simp at hi⟩, fun n hn => by simp at hn⟩
  · simp only [List.cons.injEq, and_true] at hcs
    subst hcs
    have hz' : zs.length = cap := by simpa using hz
    have hlen : (zs.take len).length = len := by simp; omega
    refine ⟨zs.take len, ⟨some a, cap, by rw [hlen], by rw [hlen]; unfold maxLen at hm; omega, fun i x hi => ?_⟩, fun n hn => ?_⟩
    · have hi' : i < len := by
        rcases Nat.lt_or_ge i len with h | h
        · exact h
        · rw [List.getElem?_eq_none (by omega)] at hi; cases hi
      have hzi : zs[i]? = some x := by rw [List.getElem?_take, if_pos hi'] at hi; exact hi
      have hc := hcell i (by omega)
      have hg : zs.getD i 0 = x := by rw [List.getD_eq_getElem?_getD, hzi]; rfl
      rw [hg] at hc
      have hc0 := hcell 0 (by omega)
      obtain ⟨b, off, spot⟩ := a
      have hs := World.cell?_spot hc0
      have hspot : spot = none := by simpa [Addr.add] using hs
      subst hspot
      exact ⟨b, off, rfl, by rwa [Addr.add_lit] at hc⟩
    · have := hwz n (List.mem_of_mem_take hn)
      exact i64_of_wf this

def RInts (w : World) (v : Value) : Prop := ∃ xs, IntsAt w v xs ∧ ∀ n ∈ xs, i64 n
def RAff (w : World) (v : Value) : Prop := ∃ s xs c, v = .agg #[s, .int .i64 c] ∧ IntsAt w s xs ∧ (∀ n ∈ xs, i64 n) ∧ i64 c
def RInt (_ : World) (v : Value) : Prop := ∃ n, v = .int .i64 n ∧ i64 n

set_option maxRecDepth 100000 in
theorem open_ints1 {H : Type} {enc : TypeId × Value → H} {W : World} {base : Nat} {v : Value} {d : DataW H} {p : List MemPlace} (hv : Value.okWide Try.prog W .any base 22 v) (h : DataW.Trod enc Try.prog W 0 (fun _ => true) true 22 v d p) : RInts W v := by
  obtain ⟨a0, len, cap, rfl⟩ := okWide_slice Try.underlying22 hv
  obtain ⟨fuel, hf⟩ := h
  exact ints_of_trod (by simpa [Value.cells] using hf)

set_option maxRecDepth 100000 in
theorem open_int1 {H : Type} {enc : TypeId × Value → H} {W : World} {base : Nat} {v : Value} {d : DataW H} {p : List MemPlace} (hv : Value.okWide Try.prog W .any base 3 v) (h : DataW.Trod enc Try.prog W 0 (fun _ => true) true 3 v d p) : RInt W v := by
  obtain ⟨n, rfl, rfl, rfl, wn⟩ := open_int Try.underlying3 hv h
  exact ⟨n, rfl, i64_of_wf wn⟩
end Go.Proofs.Ytclgbnilfipobab

namespace Go.Proofs.Ytclgbnilfipobab
open Go.RowKit Go.ChangeShapes Go.WideShapes Go.ChangeAt Go.Joins

theorem pairs_mk {α : Type} [Inhabited α] {R : World → Value → Value → α → Prop} {W : World} {a : Addr} {len cap : Nat} {V0 V1 : Nat → Value} (hm : len ≤ 9223372036854775807)
    (hc : ∀ i, i < len → W.cell? (a.add (i * 2)) = some (V0 i) ∧ W.cell? (a.add (i * 2 + 1)) = some (V1 i) ∧ ∃ x, R W (V0 i) (V1 i) x) : ∃ xs, PairsAt R W (.slice (some a) len cap) xs := by
  obtain ⟨f, hf⟩ := Go.Deep.choose_lt (n := len) (p := fun i x => R W (V0 i) (V1 i) x) (fun i hi => (hc i hi).2.2)
  have hlen : ((List.range len).map f).length = len := by simp
  refine ⟨(List.range len).map f, some a, cap, by rw [hlen], by omega, fun i x hi => ?_⟩
  have hlt : i < len := by rw [← hlen]; exact (List.getElem?_eq_some_iff.1 hi).1
  obtain ⟨h0, h1, _⟩ := hc i hlt
  have hx : f i = x := by
    rw [List.getElem?_map, List.getElem?_range hlt] at hi
    simpa using hi
  obtain ⟨b, off, spot⟩ := a
  have hs := World.cell?_spot (hc 0 (by omega)).1
  have hspot : spot = none := by simpa [Addr.add] using hs
  subst hspot
  rw [Addr.add_lit] at h0 h1
  exact ⟨b, off, _, _, rfl, h0, h1, World.block_lt_of_cell? W _ h0, by rw [← hx]; exact hf i hlt⟩

def RLoops (w : World) (v : Value) : Prop := ∃ xs, LoopsAt w v xs
end Go.Proofs.Ytclgbnilfipobab

namespace Go.Proofs.Ytclgbnilfipobab
open Go.RowKit Go.ChangeShapes Go.WideShapes Go.ChangeAt Go.Joins

theorem cellsByte : Try.prog.cellsOf 5 = 1 := by kernel_rfl
def RBytes (w : World) (v : Value) : Prop := ∃ p n c, v = .slice p n c ∧ BytesAt w p n c ∧ (∀ b off, 0 < n → p = some ⟨b, off, none⟩ → b < w.heap.size)

theorem bytes_of_trod {H : Type} {enc : TypeId × Value → H} {W : World} {fuel : Nat} {v : Value} {x : DataW H × List MemPlace} (h : DataW.trod enc Try.prog W 0 (fun _ => true) true fuel 28 [v] = some x) : ∃ p n c, v = .slice p n c ∧ BytesAt W p n c := by
  rcases open_ints Try.underlying28 Try.underlying5 cellsByte h with ⟨hcs, _⟩ | ⟨a, len, cap, zs, hcs, _, hl, hm, hz, _, hcell, hwz⟩
  · simp only [List.cons.injEq, and_true] at hcs
    subst hcs
    exact ⟨none, 0, 0, rfl, Nat.le_refl _, by omega, fun i hi => absurd hi (by omega)⟩
  · simp only [List.cons.injEq, and_true] at hcs
    subst hcs
    have hz' : zs.length = cap := by simpa using hz
    refine ⟨some a, len, cap, rfl, hl, by unfold maxLen at hm; omega, fun i hi => ?_⟩
    have hc := hcell i (by omega)
    have hc0 := hcell 0 (by omega)
    obtain ⟨b, off, spot⟩ := a
    have hs := World.cell?_spot hc0
    have hspot : spot = none := by simpa [Addr.add] using hs
    subst hspot
    obtain ⟨z, hzi⟩ := get_some (xs := zs) (k := i) (by omega)
    have hw := hwz z (List.mem_of_getElem? hzi)
    have hw' : 0 ≤ z ∧ z ≤ 255 := by simpa [Lit.wf, IntKind.min, IntKind.max, IntKind.signed, IntKind.bits] using hw
    obtain ⟨y, rfl⟩ := Int.eq_ofNat_of_zero_le hw'.1
    have hg : zs.getD i 0 = (y : Int) := by rw [List.getD_eq_getElem?_getD, hzi]; rfl
    rw [hg, Addr.add_lit] at hc
    exact ⟨b, off, y, rfl, hc, by omega⟩

set_option maxRecDepth 100000 in
theorem open_bytes {H : Type} {enc : TypeId × Value → H} {W : World} {base : Nat} {v : Value} {d : DataW H} {p : List MemPlace} (hv : Value.okWide Try.prog W .any base 28 v) (h : DataW.Trod enc Try.prog W 0 (fun _ => true) true 28 v d p) : RBytes W v := by
  obtain ⟨a0, len, cap, rfl⟩ := okWide_slice Try.underlying28 hv
  obtain ⟨fuel, hf⟩ := h
  obtain ⟨p, n, c, e, hb⟩ := bytes_of_trod (v := .slice a0 len cap) (by simpa [Value.cells] using hf)
  cases e
  refine ⟨_, _, _, rfl, hb, fun b off hn e => ?_⟩
  obtain ⟨b', off', y, e', hc, _⟩ := hb.2.2 0 hn
  rw [e] at e'
  cases e'
  exact World.block_lt_of_cell? W _ hc
end Go.Proofs.Ytclgbnilfipobab

/- The texts D1 Op A13 A14 A15 D2 A16, joined. No statement is proved here. -/
import Derived.Test.YtclgbnilfipobaaGreatK35
import Derived.BigQuiet
import Derived.Deep.QuietTactic
import Derived.Test.YtclgbnilfipobaaGreatK33
import Derived.ProofKit
import Derived.OpenShut
import Derived.ShutString
import Derived.ChangeOld
import Derived.Below
import Derived.Lib.SmallJoins
import Derived.Deep.SlicePairs
import Derived.Test.YtclgbnilfipobaaGreatK01
import Derived.Deep.RegionHeld3
/- The drawing helpers: the source of bytes, and a number from it. -/
namespace Go.Proofs.YtclgbnilfipobaaGreat
open Go.RowKit

/-- The value v is a slice of bytes that reads in w. -/
def BytesAt (w : World) (p : Option Addr) (n c : Nat) : Prop :=
  n ≤ c ∧ n ≤ 9223372036854775807 ∧ ∀ i, i < n → ∃ b off, ∃ x : Nat, p = some ⟨b, off, none⟩ ∧ w.cell? ⟨b, off + i, none⟩ = some (.int .u8 x) ∧ x < 256
theorem BytesAt.ext {w w' : World} {p : Option Addr} {n c : Nat} (h : BytesAt w p n c) (hb : Ext w w') : BytesAt w' p n c := by
  refine ⟨h.1, h.2.1, fun i hi => ?_⟩
  obtain ⟨b, off, x, hp, hc, hx⟩ := h.2.2 i hi
  exact ⟨b, off, x, hp, hb.keep hc, hx⟩

theorem BytesAt.grown {w w' : World} {g : Nat} {p : Option Addr} {n c : Nat} (h : BytesAt w p n c) (hg : w.grownBy w' (some g)) (hp : ∀ b off, 0 < n → p = some ⟨b, off, none⟩ → b < g) : BytesAt w' p n c := by
  refine ⟨h.1, h.2.1, fun i hi => ?_⟩
  obtain ⟨b, off, x, e, hc, hx⟩ := h.2.2 i hi
  refine ⟨b, off, x, e, ?_, hx⟩
  have hb := hp b off (by omega) e
  have := hg.block b (World.block_lt_of_cell? w _ hc) (fun e => by have := Option.some.inj e; omega)
  exact (World.cell?_of_block this).trans hc
theorem Ext.grownRd {W w w' : World} {g : Nat} (h : Ext W w) (hg : w.grownBy w' (some g)) (hB : W.heap.size ≤ g) : Ext W w' :=
  h.grown hg (fun k e => by have := Option.some.inj e; omega)

theorem blk2_set1'' {W : World} {g : Nat} {a b : Value} {t : TypeId} (h : W.heap[g]? = some (.cells #[a, b] t (0, 0))) (c : Value) : (W.setCell ⟨g, 1, none⟩ c).heap[g]? = some (.cells #[a, c] t (0, 0)) := by
  rw [heap_setCell_same W g 1 _ _ c h]; rfl
theorem grown_set (w : World) (g o : Nat) (v : Value) : w.grownBy (w.setCell ⟨g, o, none⟩ v) (some g) :=
  ⟨rfl, rfl, rfl, by simp, fun k _ hk => heap_setCell_other w ⟨g, o, none⟩ k v (fun e => hk (by simp [e]))⟩

theorem xor_nn (a b : Nat) (ha : a < 4294967296) (hb : b < 4294967296) : ∃ z : Nat, z < 4294967296 ∧ bits .xor .i64 (a : Int) (b : Int) = (z : Int) := by
  refine ⟨a ^^^ b, Nat.xor_lt_two_pow (n := 32) ha hb, ?_⟩
  have hx : a ^^^ b < 4294967296 := Nat.xor_lt_two_pow (n := 32) ha hb
  have e : BitVec.ofInt 64 (a : Int) ^^^ BitVec.ofInt 64 (b : Int) = BitVec.ofNat 64 (a ^^^ b) := by
    rw [BitVec.ofInt_natCast, BitVec.ofInt_natCast, BitVec.ofNat_xor]
  have h2 : (BitVec.ofNat 64 (a ^^^ b)).toNat = a ^^^ b := by rw [BitVec.toNat_ofNat]; omega
  have hw : IntKind.i64.wrap ((a ^^^ b : Nat) : Int) = ((a ^^^ b : Nat) : Int) := by simp [IntKind.wrap, IntKind.bits, IntKind.signed]; omega
  show IntKind.i64.wrap ((BitVec.ofInt 64 (a : Int) ^^^ BitVec.ofInt 64 (b : Int)).toNat : Int) = _
  rw [e, h2, hw]
end Go.Proofs.YtclgbnilfipobaaGreat

/- The arguments of a law, opened: what they read as. | The arguments of a law, opened: nests. | The arguments of a law, opened: bytes. -/
namespace Go.Proofs.YtclgbnilfipobaaGreat
open Go.RowKit Go.ChangeShapes Go.WideShapes Go.ChangeAt Go.Joins

theorem own : ownKnob Tryz.prog.godebug = none := by kernel_rfl
theorem laidOut : laidOutB Tryz.prog = true := by kernel_rfl
theorem cellsInt : Tryz.prog.cellsOf 3 = 1 := by kernel_rfl

theorem i64_of_wf {n : Int} (h : (Lit.int .i64 n).wf = true) : i64 n := by
  simp [Lit.wf, IntKind.min, IntKind.signed, IntKind.bits] at h
  unfold i64; omega

/-- A slice of ints, as it came in. -/
theorem ints_of_trod {H : Type} {enc : TypeId × Value → H} {W : World} {fuel : Nat} {v : Value} {x : DataW H × List MemPlace} (h : DataW.trod enc Tryz.prog W 0 (fun _ => true) true fuel 39 [v] = some x) : ∃ xs, IntsAt W v xs ∧ ∀ n ∈ xs, i64 n := by
  rcases open_ints Tryz.underlying39 Tryz.underlying3 cellsInt h with ⟨hcs, _⟩ | ⟨a, len, cap, zs, hcs, _, hl, hm, hz, _, hcell, hwz⟩
  · simp only [List.cons.injEq, and_true] at hcs
    subst hcs
    exact ⟨[], ⟨none, 0, rfl, by simp, fun i x hi => by simp at hi⟩, fun n hn => by simp at hn⟩
  · simp only [List.cons.injEq, and_true] at hcs
    subst hcs
    have hz' : zs.length = cap := by simpa using hz
    have hlen : (zs.take len).length = len := by simp; omega
    refine ⟨zs.take len, ⟨some a, cap, by rw [hlen], by rw [hlen]; unfold maxLen at hm; omega, fun i x hi => ?_⟩, fun n hn => ?_⟩
    · have hi' : i < len := by
        rcases Nat.lt_or_ge i len with h | h
        · exact h
        · rw [List.getElem?_eq_none (by omega)] at hi; cases hi
      have hzi : zs[i]? = some x := by rw [List.getElem?_take, if_pos hi'] at hi; exact hi
      have hc := hcell i (by omega)
      have hg : zs.getD i 0 = x := by rw [List.getD_eq_getElem?_getD, hzi]; rfl
      rw [hg] at hc
      have hc0 := hcell 0 (by omega)
      obtain ⟨b, off, spot⟩ := a
      have hs := World.cell?_spot hc0
      have hspot : spot = none := by simpa [Addr.add] using hs
      subst hspot
      exact ⟨b, off, rfl, by rwa [Addr.add_lit] at hc⟩
    · have := hwz n (List.mem_of_mem_take hn)
      exact i64_of_wf this

def RInts (w : World) (v : Value) : Prop := ∃ xs, IntsAt w v xs ∧ ∀ n ∈ xs, i64 n
def RAff (w : World) (v : Value) : Prop := ∃ s xs c, v = .agg #[s, .int .i64 c] ∧ IntsAt w s xs ∧ (∀ n ∈ xs, i64 n) ∧ i64 c
def RInt (_ : World) (v : Value) : Prop := ∃ n, v = .int .i64 n ∧ i64 n

set_option maxRecDepth 100000 in
theorem open_ints1 {H : Type} {enc : TypeId × Value → H} {W : World} {base : Nat} {v : Value} {d : DataW H} {p : List MemPlace} (hv : Value.okWide Tryz.prog W .any base 39 v) (h : DataW.Trod enc Tryz.prog W 0 (fun _ => true) true 39 v d p) : RInts W v := by
  obtain ⟨a0, len, cap, rfl⟩ := okWide_slice Tryz.underlying39 hv
  obtain ⟨fuel, hf⟩ := h
  exact ints_of_trod (by simpa [Value.cells] using hf)

set_option maxRecDepth 100000 in
theorem open_aff {H : Type} {enc : TypeId × Value → H} {W : World} {base : Nat} {v : Value} {d : DataW H} {p : List MemPlace} (hv : Value.okWide Tryz.prog W .any base 177 v) (h : DataW.Trod enc Tryz.prog W 0 (fun _ => true) true 177 v d p) : RAff W v := by
  obtain ⟨c0, c1, y0, y1, m, rfl, rfl, rfl, hy0, hy1⟩ := open_agg2 Tryz.underlying177 (by kernel_rfl) (by kernel_rfl) hv h
  obtain ⟨xs, h1, h2⟩ := ints_of_trod hy0
  obtain ⟨n, e0, _, wn⟩ := DataW.trod_int Tryz.underlying3 hy1
  simp only [List.cons.injEq, and_true] at e0
  exact ⟨c0, xs, n, by rw [e0], h1, h2, i64_of_wf wn⟩

set_option maxRecDepth 100000 in
theorem open_int1 {H : Type} {enc : TypeId × Value → H} {W : World} {base : Nat} {v : Value} {d : DataW H} {p : List MemPlace} (hv : Value.okWide Tryz.prog W .any base 3 v) (h : DataW.Trod enc Tryz.prog W 0 (fun _ => true) true 3 v d p) : RInt W v := by
  obtain ⟨n, rfl, rfl, rfl, wn⟩ := open_int Tryz.underlying3 hv h
  exact ⟨n, rfl, i64_of_wf wn⟩
end Go.Proofs.YtclgbnilfipobaaGreat

namespace Go.Proofs.YtclgbnilfipobaaGreat
open Go.RowKit Go.ChangeShapes Go.WideShapes Go.ChangeAt Go.Joins

theorem pairs_mk {α : Type} [Inhabited α] {R : World → Value → Value → α → Prop} {W : World} {a : Addr} {len cap : Nat} {V0 V1 : Nat → Value} (hm : len ≤ 9223372036854775807)
    (hc : ∀ i, i < len → W.cell? (a.add (i * 2)) = some (V0 i) ∧ W.cell? (a.add (i * 2 + 1)) = some (V1 i) ∧ ∃ x, R W (V0 i) (V1 i) x) : ∃ xs, PairsAt R W (.slice (some a) len cap) xs := by
  obtain ⟨f, hf⟩ := Go.Deep.choose_lt (n := len) (p := fun i x => R W (V0 i) (V1 i) x) (fun i hi => (hc i hi).2.2)
  have hlen : ((List.range len).map f).length = len := by simp
  refine ⟨(List.range len).map f, some a, cap, by rw [hlen], by omega, fun i x hi => ?_⟩
  have hlt : i < len := by rw [← hlen]; exact (List.getElem?_eq_some_iff.1 hi).1
  obtain ⟨h0, h1, _⟩ := hc i hlt
  have hx : f i = x := by
    rw [List.getElem?_map, List.getElem?_range hlt] at hi
    simpa using hi
  obtain ⟨b, off, spot⟩ := a
  have hs := World.cell?_spot (hc 0 (by omega)).1
  have hspot : spot = none := by simpa [Addr.add] using hs
  subst hspot
  rw [Addr.add_lit] at h0 h1
  exact ⟨b, off, _, _, rfl, h0, h1, World.block_lt_of_cell? W _ h0, by rw [← hx]; exact hf i hlt⟩

theorem affs_of_trod {H : Type} {enc : TypeId × Value → H} {W : World} {fuel : Nat} {v : Value} {x : DataW H × List MemPlace} (h : DataW.trod enc Tryz.prog W 0 (fun _ => true) true fuel 36 [v] = some x) : ∃ xs, AffsAt W v xs := by
  rcases Go.Deep.open_slice_pairs Tryz.underlying36 Tryz.underlying177 (by kernel_rfl) (by kernel_rfl) (by kernel_rfl) (by kernel_rfl) (by kernel_rfl) h with ⟨hcs, _⟩ | ⟨a, len, cap, m, n, V0, V1, D0, D1, P0, P1, hcs, _, hl, hm, hmm, _, hcell⟩
  · simp only [List.cons.injEq, and_true] at hcs
    subst hcs
    exact ⟨[], none, 0, rfl, by simp, fun i x hi => by simp at hi⟩
  · simp only [List.cons.injEq, and_true] at hcs
    subst hcs
    refine pairs_mk (R := AffR) (V0 := V0) (V1 := V1) (by unfold maxLen at hm; omega) (fun i hi => ?_)
    obtain ⟨h0, h1, t0, t1⟩ := hcell i (by rw [hmm]; split <;> omega)
    obtain ⟨xs, hx, _⟩ := ints_of_trod t0
    obtain ⟨k, e0, _, _⟩ := DataW.trod_int Tryz.underlying3 t1
    simp only [List.cons.injEq, and_true] at e0
    exact ⟨h0, h1, (xs, k), hx, e0⟩

theorem loops_of_trod {H : Type} {enc : TypeId × Value → H} {W : World} {fuel : Nat} {v : Value} {x : DataW H × List MemPlace} (h : DataW.trod enc Tryz.prog W 0 (fun _ => true) true fuel 151 [v] = some x) : ∃ xs, LoopsAt W v xs := by
  rcases Go.Deep.open_slice_pairs Tryz.underlying151 Tryz.underlying251 (by kernel_rfl) (by kernel_rfl) (by kernel_rfl) (by kernel_rfl) (by kernel_rfl) h with ⟨hcs, _⟩ | ⟨a, len, cap, m, n, V0, V1, D0, D1, P0, P1, hcs, _, hl, hm, hmm, _, hcell⟩
  · simp only [List.cons.injEq, and_true] at hcs
    subst hcs
    exact ⟨[], none, 0, rfl, by simp, fun i x hi => by simp at hi⟩
  · simp only [List.cons.injEq, and_true] at hcs
    subst hcs
    refine pairs_mk (R := LoopR) (V0 := V0) (V1 := V1) (by unfold maxLen at hm; omega) (fun i hi => ?_)
    obtain ⟨h0, h1, t0, t1⟩ := hcell i (by rw [hmm]; split <;> omega)
    obtain ⟨xs, hx⟩ := affs_of_trod t0
    obtain ⟨ys, hy⟩ := affs_of_trod t1
    exact ⟨h0, h1, (xs, ys), hx, hy⟩

def RLoops (w : World) (v : Value) : Prop := ∃ xs, LoopsAt w v xs
set_option maxRecDepth 100000 in
theorem open_loops1 {H : Type} {enc : TypeId × Value → H} {W : World} {base : Nat} {v : Value} {d : DataW H} {p : List MemPlace} (hv : Value.okWide Tryz.prog W .any base 151 v) (h : DataW.Trod enc Tryz.prog W 0 (fun _ => true) true 151 v d p) : RLoops W v := by
  obtain ⟨a0, len, cap, rfl⟩ := okWide_slice Tryz.underlying151 hv
  obtain ⟨fuel, hf⟩ := h
  exact loops_of_trod (by simpa [Value.cells] using hf)
end Go.Proofs.YtclgbnilfipobaaGreat

namespace Go.Proofs.YtclgbnilfipobaaGreat
open Go.RowKit Go.ChangeShapes Go.WideShapes Go.ChangeAt Go.Joins

theorem cellsByte : Tryz.prog.cellsOf 5 = 1 := by kernel_rfl
def RBytes (w : World) (v : Value) : Prop := ∃ p n c, v = .slice p n c ∧ BytesAt w p n c ∧ (∀ b off, 0 < n → p = some ⟨b, off, none⟩ → b < w.heap.size)

theorem bytes_of_trod {H : Type} {enc : TypeId × Value → H} {W : World} {fuel : Nat} {v : Value} {x : DataW H × List MemPlace} (h : DataW.trod enc Tryz.prog W 0 (fun _ => true) true fuel 243 [v] = some x) : ∃ p n c, v = .slice p n c ∧ BytesAt W p n c := by
  rcases open_ints Tryz.underlying243 Tryz.underlying5 cellsByte h with ⟨hcs, _⟩ | ⟨a, len, cap, zs, hcs, _, hl, hm, hz, _, hcell, hwz⟩
  · simp only [List.cons.injEq, and_true] at hcs
    subst hcs
    exact ⟨none, 0, 0, rfl, Nat.le_refl _, by omega, fun i hi => absurd hi (by omega)⟩
  · simp only [List.cons.injEq, and_true] at hcs
    subst hcs
    have hz' : zs.length = cap := by simpa using hz
    refine ⟨some a, len, cap, rfl, hl, by unfold maxLen at hm; omega, fun i hi => ?_⟩
    have hc := hcell i (by omega)
    have hc0 := hcell 0 (by omega)
    obtain ⟨b, off, spot⟩ := a
    have hs := World.cell?_spot hc0
    have hspot : spot = none := by simpa [Addr.add] using hs
    subst hspot
    obtain ⟨z, hzi⟩ := get_some (xs := zs) (k := i) (by omega)
    have hw := hwz z (List.mem_of_getElem? hzi)
    have hw' : 0 ≤ z ∧ z ≤ 255 := by simpa [Lit.wf, IntKind.min, IntKind.max, IntKind.signed, IntKind.bits] using hw
    obtain ⟨y, rfl⟩ := Int.eq_ofNat_of_zero_le hw'.1
    have hg : zs.getD i 0 = (y : Int) := by rw [List.getD_eq_getElem?_getD, hzi]; rfl
    rw [hg, Addr.add_lit] at hc
    exact ⟨b, off, y, rfl, hc, by omega⟩

set_option maxRecDepth 100000 in
theorem open_bytes {H : Type} {enc : TypeId × Value → H} {W : World} {base : Nat} {v : Value} {d : DataW H} {p : List MemPlace} (hv : Value.okWide Tryz.prog W .any base 243 v) (h : DataW.Trod enc Tryz.prog W 0 (fun _ => true) true 243 v d p) : RBytes W v := by
  obtain ⟨a0, len, cap, rfl⟩ := okWide_slice Tryz.underlying243 hv
  obtain ⟨fuel, hf⟩ := h
  obtain ⟨p, n, c, e, hb⟩ := bytes_of_trod (v := .slice a0 len cap) (by simpa [Value.cells] using hf)
  cases e
  refine ⟨_, _, _, rfl, hb, fun b off hn e => ?_⟩
  obtain ⟨b', off', y, e', hc, _⟩ := hb.2.2 0 hn
  rw [e] at e'
  cases e'
  exact World.block_lt_of_cell? W _ hc
end Go.Proofs.YtclgbnilfipobaaGreat

/- Contracts: the model's sums and multiples. -/
namespace Go.Proofs.YtclgbnilfipobaaGreat
open Go.RowKit

theorem comb_add (xs ys : List Int) : comb xs 1 ys 1 = List.zipWith (· + ·) xs ys := by simp [comb]

theorem valid_get {xs : List Int} {k : Int} (h : affValidB xs k = true) {i : Nat} {a : Int} (ha : xs[i]? = some a) : -9 ≤ a ∧ a ≤ 9 := by
  simp only [affValidB, Bool.and_eq_true] at h
  have := List.all_eq_true.1 h.2.1 a (List.mem_of_getElem? ha)
  exact withinB_iff.1 this
theorem valid_const {xs : List Int} {k : Int} (h : affValidB xs k = true) : -99 ≤ k ∧ k ≤ 99 := by
  simp only [affValidB, Bool.and_eq_true] at h
  exact withinB_iff.1 h.2.2

end Go.Proofs.YtclgbnilfipobaaGreat

/- Contracts: multiples. -/
namespace Go.Proofs.YtclgbnilfipobaaGreat
open Go.RowKit

def scaleR (xs : List Int) (c k : Int) : List Int × Int × Bool := if affValidB xs c = true ∧ withinB k 99 = true then chk (xs.map (· * k)) (c * k) else ([], 0, false)
theorem scaleR_nov {xs : List Int} {c k : Int} (h : affValidB xs c = false) : scaleR xs c k = ([], 0, false) := by unfold scaleR; rw [if_neg]; rintro ⟨h1, _⟩; rw [h] at h1; cases h1
theorem scaleR_nok {xs : List Int} {c k : Int} (h : withinB k 99 = false) : scaleR xs c k = ([], 0, false) := by unfold scaleR; rw [if_neg]; rintro ⟨_, h1⟩; rw [h] at h1; cases h1
theorem scaleR_yes {xs : List Int} {c k : Int} (h : affValidB xs c = true) (h2 : withinB k 99 = true) : scaleR xs c k = chk (xs.map (· * k)) (c * k) := by unfold scaleR; rw [if_pos ⟨h, h2⟩]

theorem mul_99 {a k : Int} (h1 : -99 ≤ a) (h2 : a ≤ 99) (h3 : -99 ≤ k) (h4 : k ≤ 99) : -100000 ≤ a * k ∧ a * k ≤ 100000 := by
  constructor
  · have := Int.mul_nonneg (a := a + 99) (b := k + 99) (by omega) (by omega)
    have := Int.mul_nonneg (a := 99 - a) (b := 99 - k) (by omega) (by omega)
    simp only [Int.add_mul, Int.mul_add, Int.sub_mul, Int.mul_sub] at *
    omega
  · have := Int.mul_nonneg (a := a + 99) (b := 99 - k) (by omega) (by omega)
    have := Int.mul_nonneg (a := 99 - a) (b := k + 99) (by omega) (by omega)
    simp only [Int.add_mul, Int.mul_add, Int.sub_mul, Int.mul_sub] at *
    omega

theorem comb_scale {xs : List Int} (k : Int) (h : xs.length = 4) : comb xs k [0, 0, 0, 0] 0 = xs.map (· * k) := by
  obtain ⟨a, b, c, d, rfl⟩ := four h
  simp [comb, Int.mul_comm]

end Go.Proofs.YtclgbnilfipobaaGreat

/- Contracts: substitutions. -/
namespace Go.Proofs.YtclgbnilfipobaaGreat
open Go.RowKit

/-- What replaces: the coefficient of v is taken out, that many times y is put in. -/
def substL (xs ys : List Int) (v : Nat) : List Int := List.zipWith (· + ·) (xs.set v 0) (ys.map (· * xs.getD v 0))

theorem set5 {W : World} {g h : Nat} {o : Obj} {u0 u1 u2 u3 u4 : Value} (hne : g ≠ h) (hg : W.heap[g]? = some o) :
    (((((W.setCell ⟨h, 0, none⟩ u0).setCell ⟨h, 1, none⟩ u1).setCell ⟨h, 2, none⟩ u2).setCell ⟨h, 3, none⟩ u3).setCell ⟨h, 4, none⟩ u4).heap[g]? = some o :=
  (Below.heap_setCell _ _ _ _ hne).trans ((Below.heap_setCell _ _ _ _ hne).trans ((Below.heap_setCell _ _ _ _ hne).trans ((Below.heap_setCell _ _ _ _ hne).trans ((Below.heap_setCell _ _ _ _ hne).trans hg))))

end Go.Proofs.YtclgbnilfipobaaGreat

/- A number from the source. -/
namespace Go.Proofs.YtclgbnilfipobaaGreat
open Go.RowKit

end Go.Proofs.YtclgbnilfipobaaGreat

/- Contracts: SubstAffine. -/
namespace Go.Proofs.YtclgbnilfipobaaGreat
open Go.RowKit

/-- What SubstAffine answers. -/
def substR (xs : List Int) (k v : Int) (ys : List Int) (l : Int) : List Int × Int × Bool :=
  if affValidB xs k = true ∧ affValidB ys l = true ∧ 0 ≤ v ∧ v < 4 then chk (substL xs ys v.toNat) (k + l * xs.getD v.toNat 0) else ([], 0, false)
theorem substR_no {xs ys : List Int} {k l v : Int} (h : affValidB xs k = false ∨ affValidB ys l = false ∨ ¬ (0 ≤ v ∧ v < 4)) : substR xs k v ys l = ([], 0, false) := by
  unfold substR; rw [if_neg]; rintro ⟨h1, h2, h3⟩; rcases h with h | h | h
  · rw [h] at h1; cases h1
  · rw [h] at h2; cases h2
  · exact h h3

end Go.Proofs.YtclgbnilfipobaaGreat

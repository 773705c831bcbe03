/- The texts D1 Op A13 A14 A15 D2 A16, joined. No statement is proved here. -/
import Derived.Test.YtggpjapmhakklaaGreatQL33
import Derived.BigQuiet
import Derived.Deep.QuietTactic
import Derived.Test.YtggpjapmhakklaaGreatQL31
import Derived.ProofKit
import Derived.OpenShut
import Derived.ShutString
import Derived.ChangeOld
import Derived.Below
import Derived.Lib.SmallJoins
import Derived.Deep.SlicePairs
import Derived.Test.YtggpjapmhakklaaGreatQL01
import Derived.Deep.RegionHeld3
set_option maxRecDepth 100000
set_option maxHeartbeats 8000000
set_option linter.unusedVariables false
set_option linter.unusedSimpArgs false
namespace Go.Proofs.YtggpjapmhakklaaGreat
open Go.RowKit
def BytesAt (w : World) (p : Option Addr) (n c : Nat) : Prop :=
 n ≤ c ∧ n ≤ 9223372036854775807 ∧ ∀ i, i < n → ∃ b off, ∃ x : Nat, p = some ⟨b, off, none⟩ ∧ w.cell? ⟨b, off + i, none⟩ = some (.int .u8 x) ∧ x < 256
theorem BytesAt.ext {w w' : World} {p : Option Addr} {n c : Nat} (h : BytesAt w p n c) (hb : Ext w w') : BytesAt w' p n c := by
 refine ⟨h.1, h.2.1, fun i hi => ?_⟩
 obtain ⟨b, off, x, hp, hc, hx⟩ := h.2.2 i hi
 exact ⟨b, off, x, hp, hb.keep hc, hx⟩
theorem BytesAt.grown {w w' : World} {g : Nat} {p : Option Addr} {n c : Nat} (h : BytesAt w p n c) (hg : w.grownBy w' (some g)) (hp : ∀ b off, 0 < n → p = some ⟨b, off, none⟩ → b < g) : BytesAt w' p n c := by
 refine ⟨h.1, h.2.1, fun i hi => ?_⟩
 obtain ⟨b, off, x, e, hc, hx⟩ := h.2.2 i hi
 refine ⟨b, off, x, e, ?_, hx⟩
 have hb := hp b off (by omega) e
 have := hg.block b (World.block_lt_of_cell? w _ hc) (fun e => by have := Option.some.inj e; omega)
 exact (World.cell?_of_block this).trans hc
theorem Ext.grownRd {W w w' : World} {g : Nat} (h : Ext W w) (hg : w.grownBy w' (some g)) (hB : W.heap.size ≤ g) : Ext W w' :=
 h.grown hg (fun k e => by have := Option.some.inj e; omega)
theorem blk2_set1'' {W : World} {g : Nat} {a b : Value} {t : TypeId} (h : W.heap[g]? = some (.cells #[a, b] t (0, 0))) (c : Value) : (W.setCell ⟨g, 1, none⟩ c).heap[g]? = some (.cells #[a, c] t (0, 0)) := by
 rw [heap_setCell_same W g 1 _ _ c h]; rfl
theorem grown_set (w : World) (g o : Nat) (v : Value) : w.grownBy (w.setCell ⟨g, o, none⟩ v) (some g) :=
 ⟨rfl, rfl, rfl, by simp, fun k _ hk => heap_setCell_other w ⟨g, o, none⟩ k v (fun e => hk (by simp [e]))⟩
end Go.Proofs.YtggpjapmhakklaaGreat
namespace Go.Proofs.YtggpjapmhakklaaGreat
open Go.RowKit Go.ChangeShapes Go.WideShapes Go.ChangeAt Go.Joins
theorem own : ownKnob Tryz.prog.godebug = none := by kernel_rfl
theorem laidOut : laidOutB Tryz.prog = true := by kernel_rfl
theorem cellsInt : Tryz.prog.cellsOf 3 = 1 := by kernel_rfl
theorem i64_of_wf {n : Int} (h : (Lit.int .i64 n).wf = true) : i64 n := by
 simp [Lit.wf, IntKind.min, IntKind.signed, IntKind.bits] at h
 unfold i64; omega
theorem ints_of_trod {H : Type} {enc : TypeId × Value → H} {W : World} {fuel : Nat} {v : Value} {x : DataW H × List MemPlace} (h : DataW.trod enc Tryz.prog W 0 (fun _ => true) true fuel 27 [v] = some x) : ∃ xs, IntsAt W v xs ∧ ∀ n ∈ xs, i64 n := by
 rcases open_ints Tryz.underlying27 Tryz.underlying3 cellsInt h with ⟨hcs, _⟩ | ⟨a, len, cap, zs, hcs, _, hl, hm, hz, _, hcell, hwz⟩
 ·simp only [List.cons.injEq, and_true] at hcs
  subst hcs
  exact ⟨[], ⟨none, 0, rfl, by simp, fun i x hi => by simp at hi⟩, fun n hn => by simp at hn⟩
 ·simp only [List.cons.injEq, and_true] at hcs
  subst hcs
  have hz' : zs.length = cap := by simpa using hz
  have hlen : (zs.take len).length = len := by simp; omega
  refine ⟨zs.take len, ⟨some a, cap, by rw [hlen], by rw [hlen]; unfold maxLen at hm; omega, fun i x hi => ?_⟩, fun n hn => ?_⟩
  ·have hi' : i < len := by
    rcases Nat.lt_or_ge i len with h | h
    ·exact h
    ·rw [List.getElem?_eq_none (by omega)] at hi; cases hi
   have hzi : zs[i]? = some x := by rw [List.getElem?_take, if_pos hi'] at hi; exact hi
   have hc := hcell i (by omega)
   have hg : zs.getD i 0 = x := by rw [List.getD_eq_getElem?_getD, hzi]; rfl
   rw [hg] at hc
   have hc0 := hcell 0 (by omega)
   obtain ⟨b, off, spot⟩ := a
   have hs := World.cell?_spot hc0
   have hspot : spot = none := by simpa [Addr.add] using hs
   subst hspot
   exact ⟨b, off, rfl, by rwa [Addr.add_lit] at hc⟩
  ·have := hwz n (List.mem_of_mem_take hn)
   exact i64_of_wf this
end Go.Proofs.YtggpjapmhakklaaGreat
namespace Go.Proofs.YtggpjapmhakklaaGreat
open Go.RowKit Go.ChangeShapes Go.WideShapes Go.ChangeAt Go.Joins
theorem pairs_mk {α : Type} [Inhabited α] {R : World → Value → Value → α → Prop} {W : World} {a : Addr} {len cap : Nat} {V0 V1 : Nat → Value} (hm : len ≤ 9223372036854775807)
  (hc : ∀ i, i < len → W.cell? (a.add (i * 2)) = some (V0 i) ∧ W.cell? (a.add (i * 2 + 1)) = some (V1 i) ∧ ∃ x, R W (V0 i) (V1 i) x) : ∃ xs, PairsAt R W (.slice (some a) len cap) xs := by
 obtain ⟨f, hf⟩ := Go.Deep.choose_lt (n := len) (p := fun i x => R W (V0 i) (V1 i) x) (fun i hi => (hc i hi).2.2)
 have hlen : ((List.range len).map f).length = len := by simp
 refine ⟨(List.range len).map f, some a, cap, by rw [hlen], by omega, fun i x hi => ?_⟩
 have hlt : i < len := by rw [← hlen]; exact (List.getElem?_eq_some_iff.1 hi).1
 obtain ⟨h0, h1, _⟩ := hc i hlt
 have hx : f i = x := by
  rw [List.getElem?_map, List.getElem?_range hlt] at hi
  simpa using hi
 obtain ⟨b, off, spot⟩ := a
 have hs := World.cell?_spot (hc 0 (by omega)).1
 have hspot : spot = none := by simpa [Addr.add] using hs
 subst hspot
 rw [Addr.add_lit] at h0 h1
 exact ⟨b, off, _, _, rfl, h0, h1, World.block_lt_of_cell? W _ h0, by rw [← hx]; exact hf i hlt⟩
theorem affs_of_trod {H : Type} {enc : TypeId × Value → H} {W : World} {fuel : Nat} {v : Value} {x : DataW H × List MemPlace} (h : DataW.trod enc Tryz.prog W 0 (fun _ => true) true fuel 195 [v] = some x) : ∃ xs, AffsAt W v xs := by
 rcases Go.Deep.open_slice_pairs Tryz.underlying195 Tryz.underlying201 (by kernel_rfl) (by kernel_rfl) (by kernel_rfl) (by kernel_rfl) (by kernel_rfl) h with ⟨hcs, _⟩ | ⟨a, len, cap, m, n, V0, V1, D0, D1, P0, P1, hcs, _, hl, hm, hmm, _, hcell⟩
 ·simp only [List.cons.injEq, and_true] at hcs
  subst hcs
  exact ⟨[], none, 0, rfl, by simp, fun i x hi => by simp at hi⟩
 ·simp only [List.cons.injEq, and_true] at hcs
  subst hcs
  refine pairs_mk (R := AffR) (V0 := V0) (V1 := V1) (by unfold maxLen at hm; omega) (fun i hi => ?_)
  obtain ⟨h0, h1, t0, t1⟩ := hcell i (by rw [hmm]; split <;> omega)
  obtain ⟨xs, hx, _⟩ := ints_of_trod t0
  obtain ⟨k, e0, _, _⟩ := DataW.trod_int Tryz.underlying3 t1
  simp only [List.cons.injEq, and_true] at e0
  exact ⟨h0, h1, (xs, k), hx, e0⟩
theorem loops_of_trod {H : Type} {enc : TypeId × Value → H} {W : World} {fuel : Nat} {v : Value} {x : DataW H × List MemPlace} (h : DataW.trod enc Tryz.prog W 0 (fun _ => true) true fuel 81 [v] = some x) : ∃ xs, LoopsAt W v xs := by
 rcases Go.Deep.open_slice_pairs Tryz.underlying81 Tryz.underlying197 (by kernel_rfl) (by kernel_rfl) (by kernel_rfl) (by kernel_rfl) (by kernel_rfl) h with ⟨hcs, _⟩ | ⟨a, len, cap, m, n, V0, V1, D0, D1, P0, P1, hcs, _, hl, hm, hmm, _, hcell⟩
 ·simp only [List.cons.injEq, and_true] at hcs
  subst hcs
  exact ⟨[], none, 0, rfl, by simp, fun i x hi => by simp at hi⟩
 ·simp only [List.cons.injEq, and_true] at hcs
  subst hcs
  refine pairs_mk (R := LoopR) (V0 := V0) (V1 := V1) (by unfold maxLen at hm; omega) (fun i hi => ?_)
  obtain ⟨h0, h1, t0, t1⟩ := hcell i (by rw [hmm]; split <;> omega)
  obtain ⟨xs, hx⟩ := affs_of_trod t0
  obtain ⟨ys, hy⟩ := affs_of_trod t1
  exact ⟨h0, h1, (xs, ys), hx, hy⟩
end Go.Proofs.YtggpjapmhakklaaGreat
namespace Go.Proofs.YtggpjapmhakklaaGreat
open Go.RowKit Go.ChangeShapes Go.WideShapes Go.ChangeAt Go.Joins
end Go.Proofs.YtggpjapmhakklaaGreat
namespace Go.Proofs.YtggpjapmhakklaaGreat
open Go.RowKit
end Go.Proofs.YtggpjapmhakklaaGreat
namespace Go.Proofs.YtggpjapmhakklaaGreat
open Go.RowKit
end Go.Proofs.YtggpjapmhakklaaGreat
namespace Go.Proofs.YtggpjapmhakklaaGreat
open Go.RowKit
theorem set5 {W : World} {g h : Nat} {o : Obj} {u0 u1 u2 u3 u4 : Value} (hne : g ≠ h) (hg : W.heap[g]? = some o) :
  (((((W.setCell ⟨h, 0, none⟩ u0).setCell ⟨h, 1, none⟩ u1).setCell ⟨h, 2, none⟩ u2).setCell ⟨h, 3, none⟩ u3).setCell ⟨h, 4, none⟩ u4).heap[g]? = some o :=
 (Below.heap_setCell _ _ _ _ hne).trans ((Below.heap_setCell _ _ _ _ hne).trans ((Below.heap_setCell _ _ _ _ hne).trans ((Below.heap_setCell _ _ _ _ hne).trans ((Below.heap_setCell _ _ _ _ hne).trans hg))))
end Go.Proofs.YtggpjapmhakklaaGreat
namespace Go.Proofs.YtggpjapmhakklaaGreat
open Go.RowKit
end Go.Proofs.YtggpjapmhakklaaGreat
namespace Go.Proofs.YtggpjapmhakklaaGreat
open Go.RowKit
end Go.Proofs.YtggpjapmhakklaaGreat

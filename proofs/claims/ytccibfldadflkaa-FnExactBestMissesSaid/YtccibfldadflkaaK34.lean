/- The texts Io As, joined. No statement is proved here. -/
import Derived.Test.YtccibfldadflkaaK20
import Derived.Test.YtccibfldadflkaaK29
import Derived.Sort.OwnSortedInts
import Derived.Lib.SlicesCompact
import Derived.Lib.RowBridge
/- Rows of ints that are turned cell by cell, and made. No statement is proved here. -/
namespace Go.Proofs.Ytccibfldadflkaa
open Go.RowKit

/-- A row of ints that is turned cell by cell. -/
theorem IntsOwn.cellI {B g n c i : Nat} {w : World} {xs : List Int} {x : Int} (h : IntsOwn B w (.slice (some ⟨g, 0, none⟩) n c) xs) (hi : xs[i]? = some x) : w.cell? ⟨g, i, none⟩ = some (.int .i64 x) := by
  have hc := World.ownsRow.cells h (g := g) rfl i (.int .i64 x) (by rw [List.getElem?_map, hi]; rfl)
  simpa only [Addr.add_lit, Nat.zero_add] using hc
theorem IntsOwn.frz {B g n c : Nat} {w : World} {xs : List Int} (h : IntsOwn B w (.slice (some ⟨g, 0, none⟩) n c) xs) (j : Nat) : w.frozen? ⟨g, j, none⟩ = false := by
  rcases h.2 with ⟨e, _⟩ | ⟨g', cap, cur, e, _, hg, _⟩
  · cases e
  · cases e; exact frozen_of_row w g j cur 3 hg
theorem IntsOwn.store {B g n c : Nat} {w : World} {xs : List Int} (h : IntsOwn B w (.slice (some ⟨g, 0, none⟩) n c) xs) (hn : xs.length = n) (j : Nat) (x : Int) : IntsOwn B (w.setCell ⟨g, j, none⟩ (.int .i64 x)) (.slice (some ⟨g, 0, none⟩) n c) (xs.set j x) := by
  have h2 := (World.ownsRow.stored (h.row hn) j (.int .i64 x)).1
  rw [← List.map_set] at h2
  exact IntsOwn.mk h2 (by simpa using hn)
theorem IntsOwn.blockB {B g n c : Nat} {w : World} {xs : List Int} (h : IntsOwn B w (.slice (some ⟨g, 0, none⟩) n c) xs) : B ≤ g ∧ g < w.heap.size := World.ownsRow.lt h g rfl
theorem made_ints (n : Nat) : madeCells (Value.int .i64 0).cells (n * 1) = ((List.replicate n (0 : Int)).map (Value.int .i64)).toArray := by
  unfold madeCells
  apply Array.ext'
  simp [Value.cells]
  refine List.ext_getElem? (fun j => ?_)
  rw [List.getElem?_map, List.getElem?_replicate]
  by_cases hj : j < n
  · rw [List.getElem?_range hj, if_pos hj, Option.map_some, Nat.mod_one]; rfl
  · rw [List.getElem?_eq_none (by simpa using hj), if_neg hj]; rfl
theorem rep_ints (n : Nat) : ((List.replicate n (0 : Int)).map (Value.int .i64)).toArray = Array.replicate n (Value.int .i64 0) := by simp
theorem make_intsZ (n : Nat) (hn : n ≤ 1048576) (w : World) : (Instr.makeSlice 22 (.int .i64 (n : Int)) (.int .i64 (n : Int))).run Try.prog w = .ok (.slice (some ⟨w.heap.size, 0, none⟩) n n) (w.alloc (.cells (Array.replicate n (Value.int .i64 0)) 3)) := by
  obtain ⟨i, hi, hz, hs, hb⟩ := info_parts infoInt
  have h := run_makeSlice (P := Try.prog) w 22 3 i (.int .i64 0) Try.underlying22 hi hz .i64 .i64 (n : Int) (n : Int) (by omega) (Int.le_refl _) (by rw [hs]; simp; omega) (by rw [hb]; simp; omega) (by omega)
  rw [h, hs, Int.toNat_natCast, made_ints, rep_ints]
end Go.Proofs.Ytccibfldadflkaa

/- The program's ascending: slices.Sort and slices.Compact of a row of the call's own (was G35). No statement is proved here. -/
namespace Go.Proofs.Ytccibfldadflkaa
open Go.RowKit Go.Maps Go.Sort

end Go.Proofs.Ytccibfldadflkaa

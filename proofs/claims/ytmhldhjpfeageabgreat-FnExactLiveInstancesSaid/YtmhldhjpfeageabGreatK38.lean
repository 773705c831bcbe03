/- The texts G23, joined. No statement is proved here. -/
import Derived.Test.YtmhldhjpfeageabGreatK21
import Derived.Test.YtmhldhjpfeageabGreatK44
import Derived.Laws.MakeOwn
/- Orders: each index once (model and program). No statement is proved here. -/
namespace Go.Proofs.YtmhldhjpfeageabGreat
open Go.RowKit
def flg (n : Nat) (s : List Int) : List Bool := (List.range n).map (fun (j : Nat) => decide ((j : Int) ∈ s))
theorem flg_get {n m : Nat} (s : List Int) (h : m < n) : (flg n s)[m]? = some (decide ((m : Int) ∈ s)) := by
 simp [flg, List.getElem?_map, List.getElem?_range h]
theorem flg_set (n m : Nat) (s : List Int) : (flg n s).set m true = flg n (s ++ [(m : Int)]) := by
 refine List.ext_getElem? (fun j => ?_)
 rw [List.getElem?_set]
 by_cases hj : j < n
 ·rw [flg_get _ hj, flg_get _ hj]
  by_cases e : m = j
  ·subst e; simp [flg, hj]
  ·rw [if_neg e]
   have : (j : Int) ≠ (m : Int) := by omega
   simp [this]
 ·have h1 : (flg n s)[j]? = none := List.getElem?_eq_none (by simp [flg]; omega)
  have h2 : (flg n (s ++ [(m : Int)]))[j]? = none := List.getElem?_eq_none (by simp [flg]; omega)
  rw [h1, h2]
  by_cases e : m = j
  ·rw [if_pos e, if_neg (by simp [flg]; omega)]
  ·rw [if_neg e]
def FlgAt (w : World) (L : Nat) (l : List Bool) : Prop := w.heap[L]? = some (.cells (l.map Value.bool).toArray 4 (0, 0))
theorem FlgAt.cell {w : World} {L m : Nat} {l : List Bool} {b : Bool} (h : FlgAt w L l) (hm : l[m]? = some b) : w.cell? ⟨L, m, none⟩ = some (.bool b) := by
 unfold FlgAt at h
 simp [World.cell?, h, List.getElem?_map, hm]
theorem FlgAt.frozen {w : World} {L m : Nat} {l : List Bool} (h : FlgAt w L l) : w.frozen? ⟨L, m, none⟩ = false := by
 unfold FlgAt at h
 simp [World.frozen?, h]
theorem FlgAt.set {w : World} {L m : Nat} {l : List Bool} (h : FlgAt w L l) (b : Bool) : FlgAt (w.setCell ⟨L, m, none⟩ (.bool b)) L (l.set m b) := by
 have h1 := heap_setCell_same w L m _ _ (.bool b) h
 unfold FlgAt
 rw [h1]
 simp [List.map_set]
theorem infoBool : (Tryz.prog.info? 4).map (fun i => (i.zero, i.size, i.bytes)) = some (some (.bool false), 1, 1) := by kernel_rfl
theorem made_flags (n : Nat) : madeCells (Value.bool false).cells (n * 1) = ((flg n []).map Value.bool).toArray := by
 unfold madeCells flg
 apply Array.ext'
 simp [Value.cells]
 intro a _
 rw [Nat.mod_one]
 rfl
theorem make_flags (n : Nat) (hn : n ≤ 1048576) (w : World) : (Instr.makeSlice 119 (.int .i64 (n : Int)) (.int .i64 (n : Int))).run Tryz.prog w = .ok (.slice (some ⟨w.heap.size, 0, none⟩) n n) (w.alloc (.cells ((flg n []).map Value.bool).toArray 4)) := by
 obtain ⟨i, hi, hz, hs, hb⟩ := info_parts infoBool
 have h := run_makeSlice (P := Tryz.prog) w 119 4 i (.bool false) Tryz.underlying119 hi hz .i64 .i64 (n : Int) (n : Int) (by omega) (Int.le_refl _) (by rw [hs]; simp; omega) (by rw [hb]; simp; omega) (by omega)
 rw [h, hs, Int.toNat_natCast, made_flags]
end Go.Proofs.YtmhldhjpfeageabGreat

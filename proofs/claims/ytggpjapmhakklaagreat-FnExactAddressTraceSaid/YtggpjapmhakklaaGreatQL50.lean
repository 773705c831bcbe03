/- The texts Io, joined. No statement is proved here. -/
import Derived.Test.YtggpjapmhakklaaGreatQL14
set_option maxRecDepth 100000
set_option maxHeartbeats 8000000
set_option linter.unusedVariables false
set_option linter.unusedSimpArgs false
namespace Go.Proofs.YtggpjapmhakklaaGreat
open Go.RowKit
theorem IntsOwn.cellI {B g n c i : Nat} {w : World} {xs : List Int} {x : Int} (h : IntsOwn B w (.slice (some ⟨g, 0, none⟩) n c) xs) (hi : xs[i]? = some x) : w.cell? ⟨g, i, none⟩ = some (.int .i64 x) := by
 have hc := World.ownsRow.cells h (g := g) rfl i (.int .i64 x) (by rw [List.getElem?_map, hi]; rfl)
 simpa only [Addr.add_lit, Nat.zero_add] using hc
theorem IntsOwn.frz {B g n c : Nat} {w : World} {xs : List Int} (h : IntsOwn B w (.slice (some ⟨g, 0, none⟩) n c) xs) (j : Nat) : w.frozen? ⟨g, j, none⟩ = false := by
 rcases h.2 with ⟨e, _⟩ | ⟨g', cap, cur, e, _, hg, _⟩
 ·cases e
 ·cases e; exact frozen_of_row w g j cur 3 hg
theorem made_own (w : World) (n : Nat) (hn : n ≤ 1048576) (xs : List Int) (hx : xs.length = n) : IntsOwn w.heap.size (w.alloc (.cells (xs.map (Value.int .i64)).toArray 3)) (.slice (some ⟨w.heap.size, 0, none⟩) n n) xs := by
 have h := World.ownsRow_lit (base := w.heap.size) (e := 3) (size := 1) w (xs.map (Value.int .i64)).toArray n (Nat.le_refl _) (by unfold maxLen; omega) (by simp [hx])
 exact IntsOwn.mk (by simpa using h) hx
end Go.Proofs.YtggpjapmhakklaaGreat

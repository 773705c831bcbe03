/- The texts Im, joined. No statement is proved here. -/
import Derived.Test.YtggpjapmhakklaaGreatQL09
import Derived.Maps.OwnSet
import Derived.Maps.Own
set_option maxRecDepth 100000
set_option maxHeartbeats 8000000
set_option linter.unusedVariables false
set_option linter.unusedSimpArgs false
namespace Go.Proofs.YtggpjapmhakklaaGreat
open Go.RowKit Go.Maps
def rawE : Value → Option (DataW Value × List MemPlace) := fun v => some (.held v, [])
def IMp (w : World) (b n : Nat) (F : Int → Option Value) : Prop := ∃ D : DataW Value, w.ownsMap Tryz.prog 3 rawE b n D ∧ ∀ c : Int, Maps.has D (.int .i64 c) = (F c).isSome ∧ ∀ v, F c = some v → ∀ z, D.atKey (.int .i64 c) z = .held v
theorem IMp.made (w : World) : IMp (w.alloc (.map #[] 0)) w.heap.size 0 (fun _ => none) :=
 ⟨.map [], World.ownsMap_made w Tryz.prog 3 rawE, fun c => ⟨rfl, fun v h => by cases h⟩⟩
theorem IMp.kept {w w' : World} {b n : Nat} {F : Int → Option Value} {row : Option Nat} (h : IMp w b n F) (hg : w.grownBy w' row) (hne : some b ≠ row) : IMp w' b n F := by
 obtain ⟨D, h1, h2⟩ := h
 exact ⟨D, h1.kept hg hne, h2⟩
theorem IMp.ext {w w' : World} {b n : Nat} {F : Int → Option Value} (h : IMp w b n F) (hE : Ext w w') : IMp w' b n F := h.kept (hE.grownBy none) (by simp)
theorem IMp.setCell {w : World} {b n : Nat} {F : Int → Option Value} (h : IMp w b n F) {a : Addr} (ha : b ≠ a.block) (u : Value) : IMp (w.setCell a u) b n F := by
 obtain ⟨D, h1, h2⟩ := h
 exact ⟨D, h1.setCell ha u, h2⟩
theorem IMp.lt {w : World} {b n : Nat} {F : Int → Option Value} (h : IMp w b n F) : b < w.heap.size := by obtain ⟨D, h1, -⟩ := h; exact h1.lt
def IMc (w : World) (b n : Nat) (F : Int → Option Value) (k : Nat) : Prop := ∃ D : DataW Value, w.ownsMap Tryz.prog 3 rawE b n D ∧ (∀ c : Int, Maps.has D (.int .i64 c) = (F c).isSome ∧ ∀ v, F c = some v → ∀ z, D.atKey (.int .i64 c) z = .held v) ∧ Maps.Tidy D ∧ Maps.size D = k
theorem IMc.imp {w : World} {b n k : Nat} {F : Int → Option Value} (h : IMc w b n F k) : IMp w b n F := by obtain ⟨D, h1, h2, -, -⟩ := h; exact ⟨D, h1, h2⟩
theorem IMc.made (w : World) : IMc (w.alloc (.map #[] 0)) w.heap.size 0 (fun _ => none) 0 :=
 ⟨.map [], World.ownsMap_made w Tryz.prog 3 rawE, fun c => ⟨rfl, fun v h => by cases h⟩, Maps.tidy_empty, rfl⟩
theorem IMc.kept {w w' : World} {b n k : Nat} {F : Int → Option Value} {row : Option Nat} (h : IMc w b n F k) (hg : w.grownBy w' row) (hne : some b ≠ row) : IMc w' b n F k := by
 obtain ⟨D, h1, h2⟩ := h
 exact ⟨D, h1.kept hg hne, h2⟩
theorem IMc.blk {w w' : World} {b n k : Nat} {F : Int → Option Value} (h : IMc w b n F k) (hb : w'.heap[b]? = w.heap[b]?) : IMc w' b n F k := by
 obtain ⟨D, ⟨es, clock, h1, h2⟩, h3⟩ := h
 exact ⟨D, ⟨es, clock, hb.trans h1, h2⟩, h3⟩
theorem IMc.lt {w : World} {b n k : Nat} {F : Int → Option Value} (h : IMc w b n F k) : b < w.heap.size := h.imp.lt
theorem IMc.lv {D : Nat → Prop} {w w' : World} {b n k : Nat} {F : Int → Option Value} (h : IMc w b n F k) (hv : Lv D w w') (hD : ¬ D b) : IMc w' b n F k := h.blk (hv.block b h.lt hD)
theorem IMc.len {w : World} {b n k : Nat} {F : Int → Option Value} (h : IMc w b n F k) {T e : TypeId} (ht : Tryz.prog.underlying T = some (.map 3 e)) (ty : TypeId) : (Builtin.len_ #[T] ty #[.map (some b)]).run Tryz.prog w = .ok (.int .i64 (k : Int)) w := by
 obtain ⟨D, h1, -, -, rfl⟩ := h
 exact h1.len ht ty
end Go.Proofs.YtggpjapmhakklaaGreat

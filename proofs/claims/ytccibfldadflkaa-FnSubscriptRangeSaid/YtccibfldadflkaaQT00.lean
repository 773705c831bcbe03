/- The texts A2, joined. No statement is proved here. -/
import Derived.Test.YtccibfldadflkaaQT45
/- Contracts of the laws' own helpers: copies, comparisons, marks. -/
namespace Go.Proofs.Ytccibfldadflkaa
open Go.RowKit

theorem IntsAt.get {w : World} {v : Value} {xs : List Int} (h : IntsAt w v xs) : ∃ p c, v = .slice p xs.length c ∧ xs.length ≤ 9223372036854775807 ∧ ∀ i x, xs[i]? = some x → ∃ b off, p = some ⟨b, off, none⟩ ∧ w.cell? ⟨b, off + i, none⟩ = some (.int .i64 x) ∧ b < w.heap.size := by
  obtain ⟨p, c, hv, hm, hc⟩ := h
  refine ⟨p, c, hv, hm, fun i x hx => ?_⟩
  obtain ⟨b, off, hp, hck⟩ := hc i x hx
  exact ⟨b, off, hp, hck, World.block_lt_of_cell? w _ hck⟩

theorem Ext.keep {w w' : World} {a : Addr} {v : Value} (h : Ext w w') (hc : w.cell? a = some v) : w'.cell? a = some v := (Below.cell h (World.block_lt_of_cell? w _ hc)).trans hc
theorem new0 (w : World) (v : Value) (vs : List Value) (t : TypeId) : (w.alloc (.cells (v :: vs).toArray t)).cell? ⟨w.heap.size, 0, none⟩ = some v := by simp [go_sem]
theorem new1 (w : World) (v0 v : Value) (vs : List Value) (t : TypeId) : (w.alloc (.cells (v0 :: v :: vs).toArray t)).cell? ⟨w.heap.size, 1, none⟩ = some v := by simp [go_sem]

theorem IntsOwn.mk {B n : Nat} {w : World} {v : Value} {xs : List Int} (h : w.ownsRow B 3 1 v n (xs.map (Value.int .i64))) (hn : xs.length = n) : IntsOwn B w v xs := by
  unfold IntsOwn; rw [hn]; exact h

theorem ownsRow_weak {B B' : Nat} {w : World} {e : TypeId} {size : Nat} {v : Value} {n : Nat} {xs : List Value} (h : w.ownsRow B e size v n xs) (hB : B' ≤ B) : w.ownsRow B' e size v n xs := by
  refine ⟨h.1, ?_⟩
  rcases h.2 with hn | ⟨g, cap, cur, hv, hbg, r⟩
  · exact .inl hn
  · exact .inr ⟨g, cap, cur, hv, Nat.le_trans hB hbg, r⟩
theorem IntsOwn.weak {B B' : Nat} {w : World} {v : Value} {xs : List Int} (h : IntsOwn B w v xs) (hB : B' ≤ B) : IntsOwn B' w v xs := ownsRow_weak h hB
theorem IntsOwn.setOld {B : Nat} {w : World} {v : Value} {xs : List Int} (h : IntsOwn B w v xs) {p : Addr} (hp : p.block < B) (u : Value) : IntsOwn B (w.setCell p u) v xs := ownsRow_setCell_below h hp u

end Go.Proofs.Ytccibfldadflkaa

/- Draws: a valid expression. -/
import Derived.Test.YtkcbnkgegopkhaaD3
import Derived.Deep.RegionHeld3
namespace Go.Proofs.Ytkcbnkgegopkhaa
open Go.RowKit

theorem blk_offD {a : World} {g g' o' : Nat} {o : Obj} (hg : a.heap[g]? = some o) (hne : g ≠ g') (u : Value) : (a.setCell ⟨g', o', none⟩ u).heap[g]? = some o := (Below.heap_setCell _ _ _ _ hne).trans hg

set_option maxHeartbeats 1000000 in
theorem l1Const_any (k : Int) (w : World) : Calls Try.prog 69 #[.int .i64 k] w fun e w' => ∃ p c, e = .returned (.agg #[.slice p 4 c, .int .i64 k]) ∧ IntsOwn w.heap.size w' (.slice p 4 c) [0, 0, 0, 0] ∧ Ext w w' := by
  go_enter Try.func69, Try.ntmps69
  go_wp2_with (fail)
  refine (l1Zero_any _).mono ?_
  rintro e w1 ⟨p, c, rfl, hv, hE⟩
  have E1 : Hid (Ext w w1) := ((Ext.refl w).alloc _).trans hE
  have BR := hE.blk (g := w.heap.size) (blk_at rfl)
  obtain ⟨r0, r1, f0, f1⟩ := blk2 BR
  have hlt := lt_of_block BR
  have HV := Lib.hid (hv.weak (B' := w.heap.size + 1) (by simp))
  clear hv hE BR
  go_wp2
  refine bodyPost_ret (v := .agg #[.slice p 4 c, .int .i64 k]) (by simp [results, Try.results69, go_sem, r0, r1, hlt]) rfl ⟨p, c, rfl, ?_, ?_⟩
  · refine IntsOwn.weak (B := w.heap.size + 1) ?_ (by omega)
    exact ((HV.out.setAt (by omega) _).setAt (by omega) _).ext ((Ext.refl _).alloc _)
  · exact ((E1.out.setAt (by omega) _).setAt (by omega) _).alloc _

/-- A row of four, opened. -/
theorem own4 {B c : Nat} {w : World} {p : Option Addr} {xs : List Value} (h : w.ownsRow B 3 1 (.slice p 4 c) 4 xs) : ∃ b, p = some ⟨b, 0, none⟩ ∧ B ≤ b ∧ b < w.heap.size := by
  obtain ⟨b, c', e, _⟩ := own_form' h (by intro e; have := congrArg (fun v => match v with | .slice _ n _ => n | _ => 0) e; simp at this)
  cases e
  exact ⟨b, rfl, h.lt b rfl⟩

end Go.Proofs.Ytkcbnkgegopkhaa

/- Contracts: the model's substitution. -/
import Derived.Test.YtcpbfefgjpimiaaDoorA16
import Derived.Test.YtcpbfefgjpimiaaDoorA12
import Derived.Deep.AppendLies
import Derived.Deep.RegionLaw
import Derived.Deep.DeepCutAuto
import Derived.Deep.RegionHeld3
namespace Go.Proofs.YtcpbfefgjpimiaaDoor
open Go.RowKit

/-- A row of the call's own stays where another block is written. -/
theorem ownsRow_off {w : World} {base : Nat} {e : TypeId} {g n cap b o : Nat} {xs : List Value} (h : w.ownsRow base e 1 (.slice (some ⟨g, 0, none⟩) n cap) n xs) (hne : g ≠ b) (u : Value) :
    (w.setCell ⟨b, o, none⟩ u).ownsRow base e 1 (.slice (some ⟨g, 0, none⟩) n cap) n xs := by
  rcases h.2 with ⟨h', _⟩ | ⟨g', cap', cur, h', hb, hg, hr⟩
  · cases h'
  · cases h'
    exact ⟨h.1, .inr ⟨_, _, cur, rfl, hb, (Below.heap_setCell _ _ _ _ hne).trans hg, hr⟩⟩

/-- A row of ints is no block of an Affine. -/
theorem own_ne {B g gr n cap : Nat} {w : World} {xs : List Int} {u0 u1 : Value} (h : IntsOwn B w (.slice (some ⟨g, 0, none⟩) n cap) xs) (hb : w.heap[gr]? = some (.cells #[u0, u1] 27 (0, 0))) : g ≠ gr := by
  rintro rfl
  unfold IntsOwn at h
  rcases h.2 with ⟨h', _⟩ | ⟨g', cap', cur, h', _, hg, _⟩
  · cases h'
  · cases h'
    rw [hb] at hg
    simp at hg

end Go.Proofs.YtcpbfefgjpimiaaDoor

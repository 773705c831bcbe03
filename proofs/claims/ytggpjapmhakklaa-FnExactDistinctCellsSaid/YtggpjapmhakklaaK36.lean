/- The texts D6 C1, joined. No statement is proved here. -/
import Derived.Test.YtggpjapmhakklaaK39
import Derived.Deep.RegionHeld3
import Derived.Test.YtggpjapmhakklaaK00
/- Draws: a valid expression. -/
namespace Go.Proofs.Ytggpjapmhakklaa
open Go.RowKit

end Go.Proofs.Ytggpjapmhakklaa

/- Distances: the level that carries one (program and model). No statement is proved here. -/
namespace Go.Proofs.Ytggpjapmhakklaa
open Go.RowKit

theorem IntsAt.cl {w : World} {p : Option Addr} {n c : Nat} {xs : List Int} (h : IntsAt w (.slice p n c) xs) : n ≤ 9223372036854775807 ∧ ∀ i x, xs[i]? = some x → ∃ b off, p = some ⟨b, off, none⟩ ∧ w.cell? ⟨b, off + i, none⟩ = some (.int .i64 x) := by
  obtain ⟨p', c', e, hm, hc⟩ := h
  simp only [Value.slice.injEq] at e
  obtain ⟨rfl, rfl, rfl⟩ := e
  exact ⟨hm, hc⟩
end Go.Proofs.Ytggpjapmhakklaa

/- Contracts: the variables as expressions. -/
import Derived.Test.YtclgbnilfipobabA6
namespace Go.Proofs.Ytclgbnilfipobab
open Go.RowKit

theorem IntsOwn.opened {B n c : Nat} {w : World} {p : Option Addr} {xs : List Int} (h : IntsOwn B w (.slice p n c) xs) (hl : xs.length = n) (h0 : 0 < n) :
    ∃ g, p = some ⟨g, 0, none⟩ ∧ B ≤ g ∧ g < w.heap.size ∧ (∀ i x, xs[i]? = some x → w.cell? ⟨g, i, none⟩ = some (.int .i64 x)) ∧ (∀ i, w.frozen? ⟨g, i, none⟩ = false) ∧
      (∀ i u, IntsOwn B (w.setCell ⟨g, i, none⟩ (.int .i64 u)) (.slice p n c) (xs.set i u)) := by
  have h' : w.ownsRow B 3 1 (.slice p n c) n (xs.map (Value.int .i64)) := by unfold IntsOwn at h; rwa [hl] at h
  obtain ⟨g, rfl⟩ : ∃ g, p = some ⟨g, 0, none⟩ := by
    rcases h'.2 with ⟨_, hz⟩ | ⟨g, cap, cur, hv, _⟩
    · omega
    · simp only [Value.slice.injEq] at hv; exact ⟨g, hv.1⟩
  have hlt := h'.lt g rfl
  refine ⟨g, rfl, hlt.1, hlt.2, ?_, h'.frozenAt, ?_⟩
  · intro i x hx
    have hi : i < n := by
      rcases Nat.lt_or_ge i n with h | h
      · exact h
      · rw [List.getElem?_eq_none (by omega)] at hx; cases hx
    rw [h'.cellAt i (by omega), List.getElem?_map, hx]; rfl
  · intro i u
    have := (h'.stored i (.int .i64 u)).1
    rw [← List.map_set] at this
    exact IntsOwn.mk this (by rw [List.length_set]; exact hl)

def unitL (v : Int) : List Int := [0, 0, 0, 0].set v.toNat 1

/-- The variable v as an expression, with the bool. -/
def varR (v : Int) : List Int × Int × Bool := if 0 ≤ v ∧ v < 4 then (unitL v, 0, true) else ([], 0, false)
theorem unitL_len (v : Int) : (unitL v).length = 4 := by simp [unitL]

theorem chk_u0 : chk [1, 0, 0, 0] 0 = (unitL 0, 0, true) := by decide
theorem chk_u1 : chk [0, 1, 0, 0] 0 = (unitL 1, 0, true) := by decide
theorem chk_u2 : chk [0, 0, 1, 0] 0 = (unitL 2, 0, true) := by decide
theorem chk_u3 : chk [0, 0, 0, 1] 0 = (unitL 3, 0, true) := by decide

end Go.Proofs.Ytclgbnilfipobab

/- The texts A4, joined. No statement is proved here. -/
import Derived.Test.YtccibfldadflkaaK02
import Derived.Handy
import Derived.Deep.RegionHeld3
/- Contracts: the program's own linear expressions. -/
namespace Go.Proofs.Ytccibfldadflkaa
open Go.RowKit

/-- A list of four. -/
theorem four {xs : List Int} (h : xs.length = 4) : ∃ a b c d, xs = [a, b, c, d] := by
  match xs, h with
  | [a, b, c, d], _ => exact ⟨a, b, c, d, rfl⟩

theorem valid_four {xs : List Int} {k : Int} (h : affValidB xs k = true) : ∃ a b c d, xs = [a, b, c, d] ∧ (-9 ≤ a ∧ a ≤ 9) ∧ (-9 ≤ b ∧ b ≤ 9) ∧ (-9 ≤ c ∧ c ≤ 9) ∧ (-9 ≤ d ∧ d ≤ 9) ∧ (-99 ≤ k ∧ k ≤ 99) := by
  obtain ⟨a, b, c, d, rfl⟩ := four (affValidB_len h)
  simp only [affValidB, withinB, List.all_cons, List.all_nil, Bool.and_eq_true, decide_eq_true_eq, Bool.and_true] at h
  obtain ⟨_, ⟨h1, h2, h3, h4⟩, h5⟩ := h
  exact ⟨a, b, c, d, rfl, h1, h2, h3, h4, h5⟩

theorem IntsAt.four {w : World} {s : Value} {a b c d : Int} (h : IntsAt w s [a, b, c, d]) : ∃ bl off cap, s = .slice (some ⟨bl, off, none⟩) 4 cap ∧ w.cell? ⟨bl, off, none⟩ = some (.int .i64 a) ∧ w.cell? ⟨bl, off + 1, none⟩ = some (.int .i64 b) ∧ w.cell? ⟨bl, off + 2, none⟩ = some (.int .i64 c) ∧ w.cell? ⟨bl, off + 3, none⟩ = some (.int .i64 d) ∧ bl < w.heap.size := by
  obtain ⟨p, cap, rfl, hm, hc⟩ := h.get
  obtain ⟨bl, off, rfl, h0, hb⟩ := hc 0 a rfl
  have key : ∀ i x, [a, b, c, d][i]? = some x → w.cell? ⟨bl, off + i, none⟩ = some (.int .i64 x) := by
    intro i x hx
    obtain ⟨bl', off', e, h1, _⟩ := hc i x hx
    cases e
    exact h1
  exact ⟨bl, off, cap, rfl, key 0 a rfl, key 1 b rfl, key 2 c rfl, key 3 d rfl, hb⟩

end Go.Proofs.Ytccibfldadflkaa

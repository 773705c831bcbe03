/- The texts C1, joined. No statement is proved here. -/
import Derived.Test.YtclgbnilfipobaaGreatK33
/- Distances: the level that carries one (program and model). No statement is proved here. -/
namespace Go.Proofs.YtclgbnilfipobaaGreat
open Go.RowKit

theorem IntsAt.cl {w : World} {p : Option Addr} {n c : Nat} {xs : List Int} (h : IntsAt w (.slice p n c) xs) : n ≤ 9223372036854775807 ∧ ∀ i x, xs[i]? = some x → ∃ b off, p = some ⟨b, off, none⟩ ∧ w.cell? ⟨b, off + i, none⟩ = some (.int .i64 x) := by
  obtain ⟨p', c', e, hm, hc⟩ := h
  simp only [Value.slice.injEq] at e
  obtain ⟨rfl, rfl, rfl⟩ := e
  exact ⟨hm, hc⟩
/-- The index of the first number that is not 0, counted from k, or -1. -/
def carF : Int → List Int → Int
  | _, [] => -1
  | k, x :: r => if x = 0 then carF (k + 1) r else k
theorem drop_consC {α : Type} {l : List α} {i : Nat} {a : α} (h : l[i]? = some a) : l.drop i = a :: l.drop (i + 1) := by
  rw [List.drop_eq_getElem_cons (List.getElem?_eq_some_iff.1 h).1, (List.getElem?_eq_some_iff.1 h).2]
theorem carF_yes {xs : List Int} {k : Nat} {x : Int} (hx : xs[k]? = some x) (h : carF k (xs.drop k) = carF 0 xs) (h0 : x = 0) : carF ((k : Int) + 1) (xs.drop (k + 1)) = carF 0 xs := by
  rw [drop_consC hx] at h; simp only [carF] at h; rw [if_pos h0] at h; exact h
theorem carF_no {xs : List Int} {k : Nat} {x : Int} (hx : xs[k]? = some x) (h : carF k (xs.drop k) = carF 0 xs) (h0 : x ≠ 0) : (k : Int) = carF 0 xs := by
  rw [drop_consC hx] at h; simp only [carF] at h; rw [if_neg h0] at h; exact h
theorem carF_end {xs : List Int} {k : Nat} (hk : xs.length ≤ k) (h : carF k (xs.drop k) = carF 0 xs) : (-1 : Int) = carF 0 xs := by
  rw [List.drop_eq_nil_of_le hk] at h; exact h

end Go.Proofs.YtclgbnilfipobaaGreat

/- Contracts: values of affine expressions. -/
import Derived.Test.YtcpbfefgjpimiaaA7
namespace Go.Proofs.Ytcpbfefgjpimiaa
open Go.RowKit

/-- A point. -/
def ptB (ps : List Int) : Bool := decide (ps.length ≤ 4) && ps.all (withinB · 9999)

/-- The sum of the constant and of the first n terms. -/
def evalK (xs ps : List Int) (c : Int) : Nat → Int
  | 0 => c
  | n + 1 => evalK xs ps c n + xs.getD n 0 * ps.getD n 0
def evalR (xs : List Int) (c : Int) (ps : List Int) : Int := if affValidB xs c = true ∧ ptB ps = true then evalK xs ps c ps.length else 0

theorem mul_bd {a x : Int} (h1 : -9 ≤ a) (h2 : a ≤ 9) (h3 : -9999 ≤ x) (h4 : x ≤ 9999) : -100000 ≤ a * x ∧ a * x ≤ 100000 := by
  constructor
  · have := Int.mul_nonneg (a := a + 9) (b := x + 9999) (by omega) (by omega)
    have := Int.mul_nonneg (a := 9 - a) (b := 9999 - x) (by omega) (by omega)
    simp only [Int.add_mul, Int.mul_add, Int.sub_mul, Int.mul_sub] at *
    omega
  · have := Int.mul_nonneg (a := a + 9) (b := 9999 - x) (by omega) (by omega)
    have := Int.mul_nonneg (a := 9 - a) (b := x + 9999) (by omega) (by omega)
    simp only [Int.add_mul, Int.mul_add, Int.sub_mul, Int.mul_sub] at *
    omega

theorem IntsAt.cellsAt {w : World} {s : Value} {x : Int} {xs : List Int} (h : IntsAt w s (x :: xs)) : ∃ bl off cap, s = .slice (some ⟨bl, off, none⟩) (xs.length + 1) cap ∧ (∀ i y, (x :: xs)[i]? = some y → w.cell? ⟨bl, off + i, none⟩ = some (.int .i64 y)) ∧ bl < w.heap.size := by
  obtain ⟨p, cap, rfl, hm, hc⟩ := h.get
  obtain ⟨bl, off, rfl, h0, hb⟩ := hc 0 x rfl
  refine ⟨bl, off, cap, rfl, ?_, hb⟩
  intro i y hy
  obtain ⟨bl', off', e, h1, _⟩ := hc i y hy
  cases e
  exact h1

theorem pt_cases {ps : List Int} (h : ptB ps = true) : (ps = []) ∨ (∃ x0, ps = [x0] ∧ (-9999 ≤ x0 ∧ x0 ≤ 9999)) ∨ (∃ x0 x1, ps = [x0, x1] ∧ (-9999 ≤ x0 ∧ x0 ≤ 9999) ∧ (-9999 ≤ x1 ∧ x1 ≤ 9999)) ∨
    (∃ x0 x1 x2, ps = [x0, x1, x2] ∧ (-9999 ≤ x0 ∧ x0 ≤ 9999) ∧ (-9999 ≤ x1 ∧ x1 ≤ 9999) ∧ (-9999 ≤ x2 ∧ x2 ≤ 9999)) ∨
    (∃ x0 x1 x2 x3, ps = [x0, x1, x2, x3] ∧ (-9999 ≤ x0 ∧ x0 ≤ 9999) ∧ (-9999 ≤ x1 ∧ x1 ≤ 9999) ∧ (-9999 ≤ x2 ∧ x2 ≤ 9999) ∧ (-9999 ≤ x3 ∧ x3 ≤ 9999)) := by
  match ps, h with
  | [], _ => exact .inl rfl
  | [x0], h => simp [ptB, withinB] at h; exact .inr (.inl ⟨x0, rfl, h⟩)
  | [x0, x1], h => simp [ptB, withinB] at h; exact .inr (.inr (.inl ⟨x0, x1, rfl, h⟩))
  | [x0, x1, x2], h => simp [ptB, withinB] at h; exact .inr (.inr (.inr (.inl ⟨x0, x1, x2, rfl, h⟩)))
  | [x0, x1, x2, x3], h => simp [ptB, withinB] at h; exact .inr (.inr (.inr (.inr ⟨x0, x1, x2, x3, rfl, h⟩)))
  | x0 :: x1 :: x2 :: x3 :: x4 :: r, h => simp [ptB] at h

end Go.Proofs.Ytcpbfefgjpimiaa

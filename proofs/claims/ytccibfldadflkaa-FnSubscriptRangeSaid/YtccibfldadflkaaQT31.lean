/- The texts G7, joined. No statement is proved here. -/
import Derived.Test.YtccibfldadflkaaQT37
import Derived.Test.YtccibfldadflkaaQT10
import Derived.Test.YtccibfldadflkaaQT06
import Derived.BigQuiet
import Derived.Deep.QuietTactic
/- The model's sizes and cells. (Written by g7.py.) No statement is proved here. -/
namespace Go.Proofs.Ytccibfldadflkaa
open Go.RowKit

/-- A list of numbers at which expressions have values that fit. -/
def ptW (ps : List Int) : Prop := ps.length ≤ 4 ∧ ∀ x ∈ ps, -99000 ≤ x ∧ x ≤ 99000
theorem ptW_PB {ps : List Int} (h : PB ps) (hl : ps.length ≤ 4) : ptW ps := ⟨hl, fun x hx => by
  obtain ⟨i, hi⟩ := List.mem_iff_getElem?.1 hx
  have h1 := h i x hi
  have := bnd_le i
  omega⟩
theorem mulw {a x : Int} (h1 : -9 ≤ a) (h2 : a ≤ 9) (h3 : -99000 ≤ x) (h4 : x ≤ 99000) : -1000000 ≤ a * x ∧ a * x ≤ 1000000 := by
  constructor
  · have := Int.mul_nonneg (a := a + 9) (b := x + 99000) (by omega) (by omega)
    have := Int.mul_nonneg (a := 9 - a) (b := 99000 - x) (by omega) (by omega)
    simp only [Int.add_mul, Int.mul_add, Int.sub_mul, Int.mul_sub] at *
    omega
  · have := Int.mul_nonneg (a := a + 9) (b := 99000 - x) (by omega) (by omega)
    have := Int.mul_nonneg (a := 9 - a) (b := x + 99000) (by omega) (by omega)
    simp only [Int.add_mul, Int.mul_add, Int.sub_mul, Int.mul_sub] at *
    omega
theorem ptW_cases {ps : List Int} (h : ptW ps) : (ps = []) ∨ (∃ x0, ps = [x0] ∧ (-99000 ≤ x0 ∧ x0 ≤ 99000)) ∨ (∃ x0 x1, ps = [x0, x1] ∧ (-99000 ≤ x0 ∧ x0 ≤ 99000) ∧ (-99000 ≤ x1 ∧ x1 ≤ 99000)) ∨
    (∃ x0 x1 x2, ps = [x0, x1, x2] ∧ (-99000 ≤ x0 ∧ x0 ≤ 99000) ∧ (-99000 ≤ x1 ∧ x1 ≤ 99000) ∧ (-99000 ≤ x2 ∧ x2 ≤ 99000)) ∨
    (∃ x0 x1 x2 x3, ps = [x0, x1, x2, x3] ∧ (-99000 ≤ x0 ∧ x0 ≤ 99000) ∧ (-99000 ≤ x1 ∧ x1 ≤ 99000) ∧ (-99000 ≤ x2 ∧ x2 ≤ 99000) ∧ (-99000 ≤ x3 ∧ x3 ≤ 99000)) := by
  match ps, h with
  | [], _ => exact .inl rfl
  | [x0], h => exact .inr (.inl ⟨x0, rfl, h.2 x0 (by simp)⟩)
  | [x0, x1], h => exact .inr (.inr (.inl ⟨x0, x1, rfl, h.2 x0 (by simp), h.2 x1 (by simp)⟩))
  | [x0, x1, x2], h => exact .inr (.inr (.inr (.inl ⟨x0, x1, x2, rfl, h.2 x0 (by simp), h.2 x1 (by simp), h.2 x2 (by simp)⟩)))
  | [x0, x1, x2, x3], h => exact .inr (.inr (.inr (.inr ⟨x0, x1, x2, x3, rfl, h.2 x0 (by simp), h.2 x1 (by simp), h.2 x2 (by simp), h.2 x3 (by simp)⟩)))
  | x0 :: x1 :: x2 :: x3 :: x4 :: r, h => have := h.1; simp at this
set_option maxHeartbeats 4000000 in
theorem l1EvalW_any (a b c d k : Int) (r s : Value) (ps : List Int) (w : World) (hr : IntsAt w r [a, b, c, d]) (hs : IntsAt w s ps) (hv : affValidB [a, b, c, d] k = true) (hp : ptW ps) :
    Calls Try.prog 37 #[.agg #[r, .int .i64 k], s] w fun e w' => e = .returned (.int .i64 (evalK [a, b, c, d] ps k ps.length)) ∧ Ext w w' := by
  obtain ⟨_, _, _, _, e, ⟨la, ua⟩, ⟨lb, ub⟩, ⟨lc, uc⟩, ⟨ld, ud⟩, ⟨lk, uk⟩⟩ := valid_four hv
  simp only [List.cons.injEq, and_true] at e
  obtain ⟨rfl, rfl, rfl, rfl⟩ := e
  obtain ⟨bl, off, cap, rfl, g0, g1, g2, g3, hbl⟩ := hr.four
  clear hv hr
  rcases ptW_cases hp with rfl | ⟨x0, rfl, h0⟩ | ⟨x0, x1, rfl, h0, h1⟩ | ⟨x0, x1, x2, rfl, h0, h1, h2⟩ | ⟨x0, x1, x2, x3, rfl, h0, h1, h2, h3⟩
  · obtain ⟨p, cp, rfl, -, -⟩ := hs
    clear hp
    go_enter Try.func37, Try.ntmps37
    go_wp2
    refine wp_loop_rounds 5 ?_
    rw [rounds_succ]; go_wp2
    go_ret
    exact ⟨ret_int (by simp [evalK]), by repeat (first | exact Ext.refl w | (with_reducible refine Ext.drewN ?_ _) | (with_reducible refine Ext.alloc ?_ _))⟩
  · obtain ⟨bq, oq, capq, rfl, hc, hbq⟩ := hs.cellsAt
    have q0 : w.cell? ⟨bq, oq, none⟩ = some (.int .i64 x0) := hc 0 x0 rfl
    obtain ⟨m0, n0⟩ := mulw la ua h0.1 h0.2
    clear hs hc hp h0
    go_enter Try.func37, Try.ntmps37
    go_wp2
    refine wp_loop_rounds 5 ?_
    rw [rounds_succ]; go_wp2
    go_quiet (fail)
    go_wp2
    rw [rounds_succ]; go_wp2
    go_ret
    exact ⟨ret_int (by simp [evalK]), by repeat (first | exact Ext.refl w | (with_reducible refine Ext.drewN ?_ _) | (with_reducible refine Ext.alloc ?_ _))⟩
  · obtain ⟨bq, oq, capq, rfl, hc, hbq⟩ := hs.cellsAt
    have q0 : w.cell? ⟨bq, oq, none⟩ = some (.int .i64 x0) := hc 0 x0 rfl
    have q1 : w.cell? ⟨bq, oq + 1, none⟩ = some (.int .i64 x1) := hc 1 x1 rfl
    obtain ⟨m0, n0⟩ := mulw la ua h0.1 h0.2
    obtain ⟨m1, n1⟩ := mulw lb ub h1.1 h1.2
    clear hs hc hp h0 h1
    go_enter Try.func37, Try.ntmps37
    go_wp2
    refine wp_loop_rounds 5 ?_
    rw [rounds_succ]; go_wp2
    go_quiet (fail)
    go_wp2
    rw [rounds_succ]; go_wp2
    go_quiet (fail)
    go_wp2
    rw [rounds_succ]; go_wp2
    go_ret
    exact ⟨ret_int (by simp [evalK]), by repeat (first | exact Ext.refl w | (with_reducible refine Ext.drewN ?_ _) | (with_reducible refine Ext.alloc ?_ _))⟩
  · obtain ⟨bq, oq, capq, rfl, hc, hbq⟩ := hs.cellsAt
    have q0 : w.cell? ⟨bq, oq, none⟩ = some (.int .i64 x0) := hc 0 x0 rfl
    have q1 : w.cell? ⟨bq, oq + 1, none⟩ = some (.int .i64 x1) := hc 1 x1 rfl
    have q2 : w.cell? ⟨bq, oq + 2, none⟩ = some (.int .i64 x2) := hc 2 x2 rfl
    obtain ⟨m0, n0⟩ := mulw la ua h0.1 h0.2
    obtain ⟨m1, n1⟩ := mulw lb ub h1.1 h1.2
    obtain ⟨m2, n2⟩ := mulw lc uc h2.1 h2.2
    clear hs hc hp h0 h1 h2
    go_enter Try.func37, Try.ntmps37
    go_wp2
    refine wp_loop_rounds 5 ?_
    rw [rounds_succ]; go_wp2
    go_quiet (fail)
    go_wp2
    rw [rounds_succ]; go_wp2
    go_quiet (fail)
    go_wp2
    rw [rounds_succ]; go_wp2
    go_quiet (fail)
    go_wp2
    rw [rounds_succ]; go_wp2
    go_ret
    exact ⟨ret_int (by simp [evalK]), by repeat (first | exact Ext.refl w | (with_reducible refine Ext.drewN ?_ _) | (with_reducible refine Ext.alloc ?_ _))⟩
  · obtain ⟨bq, oq, capq, rfl, hc, hbq⟩ := hs.cellsAt
    have q0 : w.cell? ⟨bq, oq, none⟩ = some (.int .i64 x0) := hc 0 x0 rfl
    have q1 : w.cell? ⟨bq, oq + 1, none⟩ = some (.int .i64 x1) := hc 1 x1 rfl
    have q2 : w.cell? ⟨bq, oq + 2, none⟩ = some (.int .i64 x2) := hc 2 x2 rfl
    have q3 : w.cell? ⟨bq, oq + 3, none⟩ = some (.int .i64 x3) := hc 3 x3 rfl
    obtain ⟨m0, n0⟩ := mulw la ua h0.1 h0.2
    obtain ⟨m1, n1⟩ := mulw lb ub h1.1 h1.2
    obtain ⟨m2, n2⟩ := mulw lc uc h2.1 h2.2
    obtain ⟨m3, n3⟩ := mulw ld ud h3.1 h3.2
    clear hs hc hp h0 h1 h2 h3
    go_enter Try.func37, Try.ntmps37
    go_wp2
    refine wp_loop_rounds 5 ?_
    rw [rounds_succ]; go_wp2
    go_quiet (fail)
    go_wp2
    rw [rounds_succ]; go_wp2
    go_quiet (fail)
    go_wp2
    rw [rounds_succ]; go_wp2
    go_quiet (fail)
    go_wp2
    rw [rounds_succ]; go_wp2
    go_quiet (fail)
    go_wp2
    rw [rounds_succ]; go_wp2
    go_ret
    exact ⟨ret_int (by simp [evalK]), by repeat (first | exact Ext.refl w | (with_reducible refine Ext.drewN ?_ _) | (with_reducible refine Ext.alloc ?_ _))⟩

end Go.Proofs.Ytccibfldadflkaa

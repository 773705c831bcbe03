/- The texts A8, joined. No statement is proved here. -/
import Derived.Test.YtccibfldadflkaaQT05
/- Contracts: values of affine expressions. -/
namespace Go.Proofs.Ytccibfldadflkaa
open Go.RowKit

/-- A point. -/
def ptB (ps : List Int) : Bool := decide (ps.length ≤ 4) && ps.all (withinB · 9999)

set_option maxHeartbeats 1000000 in
theorem pointValid_any (s : Value) (ps : List Int) (w : World) (hs : IntsAt w s ps) :
    Calls Try.prog 53 #[s] w fun e w' => e = .returned (.bool (ptB ps)) ∧ w = w' := by
  have HS := Lib.hid hs; clear hs
  obtain ⟨p, cp, rfl, -, -⟩ := HS.out
  by_cases h4 : ps.length ≤ 4
  · have hb : decide (ps.length ≤ 4) = true := by simpa using h4
    go_enter Try.func53, Try.ntmps53
    go_wp2_with (go_at_call 82; refine (allWithin_any _ ps 9999 _ HS.out (by omega) (by omega)).mono ?_; rintro e w' ⟨rfl, rfl⟩)
    go_ret
    exact ⟨ret_bool (by simp [ptB, h4]), rfl⟩
  · have hb : decide ((ps.length : Int) ≤ 4) = false := by simp; omega
    have H4 := Lib.hid h4; clear h4
    go_enter Try.func53, Try.ntmps53
    go_wp2
    go_ret
    exact ⟨ret_bool (by simp [ptB, H4.out]), rfl⟩

/-- The sum of the constant and of the first n terms. -/
def evalK (xs ps : List Int) (c : Int) : Nat → Int
  | 0 => c
  | n + 1 => evalK xs ps c n + xs.getD n 0 * ps.getD n 0
def evalR (xs : List Int) (c : Int) (ps : List Int) : Int := if affValidB xs c = true ∧ ptB ps = true then evalK xs ps c ps.length else 0

theorem mul_bd {a x : Int} (h1 : -9 ≤ a) (h2 : a ≤ 9) (h3 : -9999 ≤ x) (h4 : x ≤ 9999) : -100000 ≤ a * x ∧ a * x ≤ 100000 := by
  constructor
  · have := Int.mul_nonneg (a := a + 9) (b := x + 9999) (by omega) (by omega)
    have := Int.mul_nonneg (a := 9 - a) (b := 9999 - x) (by omega) (by omega)
    simp only [Int.add_mul, Int.mul_add, Int.sub_mul, Int.mul_sub] at *
    omega
  · have := Int.mul_nonneg (a := a + 9) (b := 9999 - x) (by omega) (by omega)
    have := Int.mul_nonneg (a := 9 - a) (b := x + 9999) (by omega) (by omega)
    simp only [Int.add_mul, Int.mul_add, Int.sub_mul, Int.mul_sub] at *
    omega

theorem IntsAt.cellsAt {w : World} {s : Value} {x : Int} {xs : List Int} (h : IntsAt w s (x :: xs)) : ∃ bl off cap, s = .slice (some ⟨bl, off, none⟩) (xs.length + 1) cap ∧ (∀ i y, (x :: xs)[i]? = some y → w.cell? ⟨bl, off + i, none⟩ = some (.int .i64 y)) ∧ bl < w.heap.size := by
  obtain ⟨p, cap, rfl, hm, hc⟩ := h.get
  obtain ⟨bl, off, rfl, h0, hb⟩ := hc 0 x rfl
  refine ⟨bl, off, cap, rfl, ?_, hb⟩
  intro i y hy
  obtain ⟨bl', off', e, h1, _⟩ := hc i y hy
  cases e
  exact h1

theorem pt_cases {ps : List Int} (h : ptB ps = true) : (ps = []) ∨ (∃ x0, ps = [x0] ∧ (-9999 ≤ x0 ∧ x0 ≤ 9999)) ∨ (∃ x0 x1, ps = [x0, x1] ∧ (-9999 ≤ x0 ∧ x0 ≤ 9999) ∧ (-9999 ≤ x1 ∧ x1 ≤ 9999)) ∨
    (∃ x0 x1 x2, ps = [x0, x1, x2] ∧ (-9999 ≤ x0 ∧ x0 ≤ 9999) ∧ (-9999 ≤ x1 ∧ x1 ≤ 9999) ∧ (-9999 ≤ x2 ∧ x2 ≤ 9999)) ∨
    (∃ x0 x1 x2 x3, ps = [x0, x1, x2, x3] ∧ (-9999 ≤ x0 ∧ x0 ≤ 9999) ∧ (-9999 ≤ x1 ∧ x1 ≤ 9999) ∧ (-9999 ≤ x2 ∧ x2 ≤ 9999) ∧ (-9999 ≤ x3 ∧ x3 ≤ 9999)) := by
  match ps, h with
  | [], _ => exact .inl rfl
  | [x0], h => simp [ptB, withinB] at h; exact .inr (.inl ⟨x0, rfl, h⟩)
  | [x0, x1], h => simp [ptB, withinB] at h; exact .inr (.inr (.inl ⟨x0, x1, rfl, h⟩))
  | [x0, x1, x2], h => simp [ptB, withinB] at h; exact .inr (.inr (.inr (.inl ⟨x0, x1, x2, rfl, h⟩)))
  | [x0, x1, x2, x3], h => simp [ptB, withinB] at h; exact .inr (.inr (.inr (.inr ⟨x0, x1, x2, x3, rfl, h⟩)))
  | x0 :: x1 :: x2 :: x3 :: x4 :: r, h => simp [ptB] at h

set_option maxHeartbeats 2000000 in
theorem at_any (a b c d k : Int) (s : Value) (ps : List Int) (w : World) (hs : IntsAt w s ps) (hv : affValidB [a, b, c, d] k = true) (hp : ptB ps = true) :
    Calls Try.prog 54 #[.agg #[.int .i64 a, .int .i64 b, .int .i64 c, .int .i64 d, .int .i64 k], s] w fun e w' => e = .returned (.int .i64 (evalK [a, b, c, d] ps k ps.length)) ∧ Ext w w' := by
  obtain ⟨_, _, _, _, e, ⟨la, ua⟩, ⟨lb, ub⟩, ⟨lc, uc⟩, ⟨ld, ud⟩, ⟨lk, uk⟩⟩ := valid_four hv
  simp only [List.cons.injEq, and_true] at e
  obtain ⟨rfl, rfl, rfl, rfl⟩ := e
  clear hv
  rcases pt_cases hp with rfl | ⟨x0, rfl, h0⟩ | ⟨x0, x1, rfl, h0, h1⟩ | ⟨x0, x1, x2, rfl, h0, h1, h2⟩ | ⟨x0, x1, x2, x3, rfl, h0, h1, h2, h3⟩
  · obtain ⟨p, cp, rfl, -, -⟩ := hs
    clear hp
    go_enter Try.func54, Try.ntmps54
    go_wp2
    go_rounds 5
    go_ret
    exact ⟨ret_int (by simp [evalK]), (Ext.refl w).alloc _⟩
  · obtain ⟨bl, off, cap, rfl, hc, hbl⟩ := hs.cellsAt
    have c0 : w.cell? ⟨bl, off, none⟩ = some (.int .i64 x0) := hc 0 x0 rfl
    obtain ⟨m0, n0⟩ := mul_bd la ua h0.1 h0.2
    clear hs hc hp h0
    go_enter Try.func54, Try.ntmps54
    go_wp2
    go_rounds 5
    go_ret
    exact ⟨ret_int (by simp [evalK]), (Ext.refl w).alloc _⟩
  · obtain ⟨bl, off, cap, rfl, hc, hbl⟩ := hs.cellsAt
    have c0 : w.cell? ⟨bl, off, none⟩ = some (.int .i64 x0) := hc 0 x0 rfl
    have c1 := hc 1 x1 rfl
    obtain ⟨m0, n0⟩ := mul_bd la ua h0.1 h0.2
    obtain ⟨m1, n1⟩ := mul_bd lb ub h1.1 h1.2
    clear hs hc hp h0 h1
    go_enter Try.func54, Try.ntmps54
    go_wp2
    go_rounds 5
    go_ret
    exact ⟨ret_int (by simp [evalK]), (Ext.refl w).alloc _⟩
  · obtain ⟨bl, off, cap, rfl, hc, hbl⟩ := hs.cellsAt
    have c0 : w.cell? ⟨bl, off, none⟩ = some (.int .i64 x0) := hc 0 x0 rfl
    have c1 := hc 1 x1 rfl
    have c2 := hc 2 x2 rfl
    obtain ⟨m0, n0⟩ := mul_bd la ua h0.1 h0.2
    obtain ⟨m1, n1⟩ := mul_bd lb ub h1.1 h1.2
    obtain ⟨m2, n2⟩ := mul_bd lc uc h2.1 h2.2
    clear hs hc hp h0 h1 h2
    go_enter Try.func54, Try.ntmps54
    go_wp2
    go_rounds 5
    go_ret
    exact ⟨ret_int (by simp [evalK]), (Ext.refl w).alloc _⟩
  · obtain ⟨bl, off, cap, rfl, hc, hbl⟩ := hs.cellsAt
    have c0 : w.cell? ⟨bl, off, none⟩ = some (.int .i64 x0) := hc 0 x0 rfl
    have c1 := hc 1 x1 rfl
    have c2 := hc 2 x2 rfl
    have c3 := hc 3 x3 rfl
    obtain ⟨m0, n0⟩ := mul_bd la ua h0.1 h0.2
    obtain ⟨m1, n1⟩ := mul_bd lb ub h1.1 h1.2
    obtain ⟨m2, n2⟩ := mul_bd lc uc h2.1 h2.2
    obtain ⟨m3, n3⟩ := mul_bd ld ud h3.1 h3.2
    clear hs hc hp h0 h1 h2 h3
    go_enter Try.func54, Try.ntmps54
    go_wp2
    go_rounds 5
    go_ret
    exact ⟨ret_int (by simp [evalK]), (Ext.refl w).alloc _⟩
set_option maxHeartbeats 4000000 in
theorem l1Eval_any (a b c d k : Int) (r s : Value) (ps : List Int) (w : World) (hr : IntsAt w r [a, b, c, d]) (hs : IntsAt w s ps) (hv : affValidB [a, b, c, d] k = true) (hp : ptB ps = true) :
    Calls Try.prog 37 #[.agg #[r, .int .i64 k], s] w fun e w' => e = .returned (.int .i64 (evalK [a, b, c, d] ps k ps.length)) ∧ Ext w w' := by
  obtain ⟨_, _, _, _, e, ⟨la, ua⟩, ⟨lb, ub⟩, ⟨lc, uc⟩, ⟨ld, ud⟩, ⟨lk, uk⟩⟩ := valid_four hv
  simp only [List.cons.injEq, and_true] at e
  obtain ⟨rfl, rfl, rfl, rfl⟩ := e
  obtain ⟨bl, off, cap, rfl, g0, g1, g2, g3, hbl⟩ := hr.four
  clear hv hr
  rcases pt_cases hp with rfl | ⟨x0, rfl, h0⟩ | ⟨x0, x1, rfl, h0, h1⟩ | ⟨x0, x1, x2, rfl, h0, h1, h2⟩ | ⟨x0, x1, x2, x3, rfl, h0, h1, h2, h3⟩
  · obtain ⟨p, cp, rfl, -, -⟩ := hs
    clear hp
    go_enter Try.func37, Try.ntmps37
    go_wp2
    refine wp_loop_rounds 5 ?_
    rw [rounds_succ]; go_wp2
    go_ret
    exact ⟨ret_int (by simp [evalK]), by repeat (first | exact Ext.refl w | (with_reducible refine Ext.drewN ?_ _) | (with_reducible refine Ext.alloc ?_ _))⟩
  · obtain ⟨bq, oq, capq, rfl, hc, hbq⟩ := hs.cellsAt
    have q0 : w.cell? ⟨bq, oq, none⟩ = some (.int .i64 x0) := hc 0 x0 rfl
    obtain ⟨m0, n0⟩ := mul_bd la ua h0.1 h0.2
    clear hs hc hp h0
    go_enter Try.func37, Try.ntmps37
    go_wp2
    refine wp_loop_rounds 5 ?_
    rw [rounds_succ]; go_wp2
    go_quiet (fail)
    go_wp2
    rw [rounds_succ]; go_wp2
    go_ret
    exact ⟨ret_int (by simp [evalK]), by repeat (first | exact Ext.refl w | (with_reducible refine Ext.drewN ?_ _) | (with_reducible refine Ext.alloc ?_ _))⟩
  · obtain ⟨bq, oq, capq, rfl, hc, hbq⟩ := hs.cellsAt
    have q0 : w.cell? ⟨bq, oq, none⟩ = some (.int .i64 x0) := hc 0 x0 rfl
    have q1 : w.cell? ⟨bq, oq + 1, none⟩ = some (.int .i64 x1) := hc 1 x1 rfl
    obtain ⟨m0, n0⟩ := mul_bd la ua h0.1 h0.2
    obtain ⟨m1, n1⟩ := mul_bd lb ub h1.1 h1.2
    clear hs hc hp h0 h1
    go_enter Try.func37, Try.ntmps37
    go_wp2
    refine wp_loop_rounds 5 ?_
    rw [rounds_succ]; go_wp2
    go_quiet (fail)
    go_wp2
    rw [rounds_succ]; go_wp2
    go_quiet (fail)
    go_wp2
    rw [rounds_succ]; go_wp2
    go_ret
    exact ⟨ret_int (by simp [evalK]), by repeat (first | exact Ext.refl w | (with_reducible refine Ext.drewN ?_ _) | (with_reducible refine Ext.alloc ?_ _))⟩
  · obtain ⟨bq, oq, capq, rfl, hc, hbq⟩ := hs.cellsAt
    have q0 : w.cell? ⟨bq, oq, none⟩ = some (.int .i64 x0) := hc 0 x0 rfl
    have q1 : w.cell? ⟨bq, oq + 1, none⟩ = some (.int .i64 x1) := hc 1 x1 rfl
    have q2 : w.cell? ⟨bq, oq + 2, none⟩ = some (.int .i64 x2) := hc 2 x2 rfl
    obtain ⟨m0, n0⟩ := mul_bd la ua h0.1 h0.2
    obtain ⟨m1, n1⟩ := mul_bd lb ub h1.1 h1.2
    obtain ⟨m2, n2⟩ := mul_bd lc uc h2.1 h2.2
    clear hs hc hp h0 h1 h2
    go_enter Try.func37, Try.ntmps37
    go_wp2
    refine wp_loop_rounds 5 ?_
    rw [rounds_succ]; go_wp2
    go_quiet (fail)
    go_wp2
    rw [rounds_succ]; go_wp2
    go_quiet (fail)
    go_wp2
    rw [rounds_succ]; go_wp2
    go_quiet (fail)
    go_wp2
    rw [rounds_succ]; go_wp2
    go_ret
    exact ⟨ret_int (by simp [evalK]), by repeat (first | exact Ext.refl w | (with_reducible refine Ext.drewN ?_ _) | (with_reducible refine Ext.alloc ?_ _))⟩
  · obtain ⟨bq, oq, capq, rfl, hc, hbq⟩ := hs.cellsAt
    have q0 : w.cell? ⟨bq, oq, none⟩ = some (.int .i64 x0) := hc 0 x0 rfl
    have q1 : w.cell? ⟨bq, oq + 1, none⟩ = some (.int .i64 x1) := hc 1 x1 rfl
    have q2 : w.cell? ⟨bq, oq + 2, none⟩ = some (.int .i64 x2) := hc 2 x2 rfl
    have q3 : w.cell? ⟨bq, oq + 3, none⟩ = some (.int .i64 x3) := hc 3 x3 rfl
    obtain ⟨m0, n0⟩ := mul_bd la ua h0.1 h0.2
    obtain ⟨m1, n1⟩ := mul_bd lb ub h1.1 h1.2
    obtain ⟨m2, n2⟩ := mul_bd lc uc h2.1 h2.2
    obtain ⟨m3, n3⟩ := mul_bd ld ud h3.1 h3.2
    clear hs hc hp h0 h1 h2 h3
    go_enter Try.func37, Try.ntmps37
    go_wp2
    refine wp_loop_rounds 5 ?_
    rw [rounds_succ]; go_wp2
    go_quiet (fail)
    go_wp2
    rw [rounds_succ]; go_wp2
    go_quiet (fail)
    go_wp2
    rw [rounds_succ]; go_wp2
    go_quiet (fail)
    go_wp2
    rw [rounds_succ]; go_wp2
    go_quiet (fail)
    go_wp2
    rw [rounds_succ]; go_wp2
    go_ret
    exact ⟨ret_int (by simp [evalK]), by repeat (first | exact Ext.refl w | (with_reducible refine Ext.drewN ?_ _) | (with_reducible refine Ext.alloc ?_ _))⟩
end Go.Proofs.Ytccibfldadflkaa

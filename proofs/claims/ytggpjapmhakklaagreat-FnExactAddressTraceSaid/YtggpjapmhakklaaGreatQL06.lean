/- The texts G7, joined. No statement is proved here. -/
import Derived.Test.YtggpjapmhakklaaGreatQL22
import Derived.Test.YtggpjapmhakklaaGreatQL25
import Derived.Test.YtggpjapmhakklaaGreatQL01
import Derived.BigQuiet
import Derived.Deep.QuietTactic
set_option maxRecDepth 100000
set_option maxHeartbeats 8000000
set_option linter.unusedVariables false
set_option linter.unusedSimpArgs false
namespace Go.Proofs.YtggpjapmhakklaaGreat
open Go.RowKit
def ptW (ps : List Int) : Prop := ps.length ≤ 4 ∧ ∀ x ∈ ps, -99000 ≤ x ∧ x ≤ 99000
theorem ptW_PB {ps : List Int} (h : PB ps) (hl : ps.length ≤ 4) : ptW ps := ⟨hl, fun x hx => by
 obtain ⟨i, hi⟩ := List.mem_iff_getElem?.1 hx
 have h1 := h i x hi
 have := bnd_le i
 omega⟩
theorem mulw {a x : Int} (h1 : -9 ≤ a) (h2 : a ≤ 9) (h3 : -99000 ≤ x) (h4 : x ≤ 99000) : -1000000 ≤ a * x ∧ a * x ≤ 1000000 := by
 constructor
 ·have := Int.mul_nonneg (a := a + 9) (b := x + 99000) (by omega) (by omega)
  have := Int.mul_nonneg (a := 9 - a) (b := 99000 - x) (by omega) (by omega)
  simp only [Int.add_mul, Int.mul_add, Int.sub_mul, Int.mul_sub] at *
  omega
 ·have := Int.mul_nonneg (a := a + 9) (b := 99000 - x) (by omega) (by omega)
  have := Int.mul_nonneg (a := 9 - a) (b := x + 99000) (by omega) (by omega)
  simp only [Int.add_mul, Int.mul_add, Int.sub_mul, Int.mul_sub] at *
  omega
theorem ptW_cases {ps : List Int} (h : ptW ps) : (ps = []) ∨ (∃ x0, ps = [x0] ∧ (-99000 ≤ x0 ∧ x0 ≤ 99000)) ∨ (∃ x0 x1, ps = [x0, x1] ∧ (-99000 ≤ x0 ∧ x0 ≤ 99000) ∧ (-99000 ≤ x1 ∧ x1 ≤ 99000)) ∨
  (∃ x0 x1 x2, ps = [x0, x1, x2] ∧ (-99000 ≤ x0 ∧ x0 ≤ 99000) ∧ (-99000 ≤ x1 ∧ x1 ≤ 99000) ∧ (-99000 ≤ x2 ∧ x2 ≤ 99000)) ∨
  (∃ x0 x1 x2 x3, ps = [x0, x1, x2, x3] ∧ (-99000 ≤ x0 ∧ x0 ≤ 99000) ∧ (-99000 ≤ x1 ∧ x1 ≤ 99000) ∧ (-99000 ≤ x2 ∧ x2 ≤ 99000) ∧ (-99000 ≤ x3 ∧ x3 ≤ 99000)) := by
 match ps, h with
 | [], _ => exact .inl rfl
 | [x0], h => exact .inr (.inl ⟨x0, rfl, h.2 x0 (by simp)⟩)
 | [x0, x1], h => exact .inr (.inr (.inl ⟨x0, x1, rfl, h.2 x0 (by simp), h.2 x1 (by simp)⟩))
 | [x0, x1, x2], h => exact .inr (.inr (.inr (.inl ⟨x0, x1, x2, rfl, h.2 x0 (by simp), h.2 x1 (by simp), h.2 x2 (by simp)⟩)))
 | [x0, x1, x2, x3], h => exact .inr (.inr (.inr (.inr ⟨x0, x1, x2, x3, rfl, h.2 x0 (by simp), h.2 x1 (by simp), h.2 x2 (by simp), h.2 x3 (by simp)⟩)))
 | x0 :: x1 :: x2 :: x3 :: x4 :: r, h => have := h.1; simp at this
theorem evalA_W {a : Aff} {ps : List Int} (hv : affValidB a.1 a.2 = true) (hp : ptW ps) : -5000000 ≤ evalA ps a ∧ evalA ps a ≤ 5000000 := by
 obtain ⟨xs, k⟩ := a
 obtain ⟨a0, a1, a2, a3, e, ⟨l0, u0⟩, ⟨l1, u1⟩, ⟨l2, u2⟩, ⟨l3, u3⟩, ⟨lk, uk⟩⟩ := valid_four hv
 simp only at e lk uk
 subst e
 rcases ptW_cases hp with rfl | ⟨x0, rfl, h0⟩ | ⟨x0, x1, rfl, h0, h1⟩ | ⟨x0, x1, x2, rfl, h0, h1, h2⟩ | ⟨x0, x1, x2, x3, rfl, h0, h1, h2, h3⟩
 ·simp [evalA, evalK]; omega
 ·have m0 := mulw l0 u0 h0.1 h0.2
  simp [evalA, evalK]; omega
 ·have m0 := mulw l0 u0 h0.1 h0.2
  have m1 := mulw l1 u1 h1.1 h1.2
  simp [evalA, evalK]; omega
 ·have m0 := mulw l0 u0 h0.1 h0.2
  have m1 := mulw l1 u1 h1.1 h1.2
  have m2 := mulw l2 u2 h2.1 h2.2
  simp [evalA, evalK]; omega
 ·have m0 := mulw l0 u0 h0.1 h0.2
  have m1 := mulw l1 u1 h1.1 h1.2
  have m2 := mulw l2 u2 h2.1 h2.2
  have m3 := mulw l3 u3 h3.1 h3.2
  simp [evalA, evalK]; omega
theorem l1EvalW_any (a b c d k : Int) (r s : Value) (ps : List Int) (w : World) (hr : IntsAt w r [a, b, c, d]) (hs : IntsAt w s ps) (hv : affValidB [a, b, c, d] k = true) (hp : ptW ps) :
  Calls Tryz.prog 101 #[.agg #[r, .int .i64 k], s] w fun e w' => e = .returned (.int .i64 (evalK [a, b, c, d] ps k ps.length)) ∧ Ext w w' := by
 obtain ⟨_, _, _, _, e, ⟨la, ua⟩, ⟨lb, ub⟩, ⟨lc, uc⟩, ⟨ld, ud⟩, ⟨lk, uk⟩⟩ := valid_four hv
 simp only [List.cons.injEq, and_true] at e
 obtain ⟨rfl, rfl, rfl, rfl⟩ := e
 obtain ⟨bl, off, cap, rfl, g0, g1, g2, g3, hbl⟩ := hr.four
 clear hv hr
 rcases ptW_cases hp with rfl | ⟨x0, rfl, h0⟩ | ⟨x0, x1, rfl, h0, h1⟩ | ⟨x0, x1, x2, rfl, h0, h1, h2⟩ | ⟨x0, x1, x2, x3, rfl, h0, h1, h2, h3⟩
 ·obtain ⟨p, cp, rfl, -, -⟩ := hs
  clear hp
  go_enter Tryz.func101, Tryz.ntmps101
  go_wp2
  refine wp_loop_rounds 5 ?_
  rw [rounds_succ]; go_wp2
  go_ret
  exact ⟨ret_int (by simp [evalK]), by repeat (first | exact Ext.refl w | (with_reducible refine Ext.drewN ?_ _) | (with_reducible refine Ext.alloc ?_ _))⟩
 ·obtain ⟨bq, oq, capq, rfl, hc, hbq⟩ := hs.cellsAt
  have q0 : w.cell? ⟨bq, oq, none⟩ = some (.int .i64 x0) := hc 0 x0 rfl
  obtain ⟨m0, n0⟩ := mulw la ua h0.1 h0.2
  clear hs hc hp h0
  go_enter Tryz.func101, Tryz.ntmps101
  go_wp2
  refine wp_loop_rounds 5 ?_
  rw [rounds_succ]; go_wp2
  go_quiet (fail)
  go_wp2
  rw [rounds_succ]; go_wp2
  go_ret
  exact ⟨ret_int (by simp [evalK]), by repeat (first | exact Ext.refl w | (with_reducible refine Ext.drewN ?_ _) | (with_reducible refine Ext.alloc ?_ _))⟩
 ·obtain ⟨bq, oq, capq, rfl, hc, hbq⟩ := hs.cellsAt
  have q0 : w.cell? ⟨bq, oq, none⟩ = some (.int .i64 x0) := hc 0 x0 rfl
  have q1 : w.cell? ⟨bq, oq + 1, none⟩ = some (.int .i64 x1) := hc 1 x1 rfl
  obtain ⟨m0, n0⟩ := mulw la ua h0.1 h0.2
  obtain ⟨m1, n1⟩ := mulw lb ub h1.1 h1.2
  clear hs hc hp h0 h1
  go_enter Tryz.func101, Tryz.ntmps101
  go_wp2
  refine wp_loop_rounds 5 ?_
  rw [rounds_succ]; go_wp2
  go_quiet (fail)
  go_wp2
  rw [rounds_succ]; go_wp2
  go_quiet (fail)
  go_wp2
  rw [rounds_succ]; go_wp2
  go_ret
  exact ⟨ret_int (by simp [evalK]), by repeat (first | exact Ext.refl w | (with_reducible refine Ext.drewN ?_ _) | (with_reducible refine Ext.alloc ?_ _))⟩
 ·obtain ⟨bq, oq, capq, rfl, hc, hbq⟩ := hs.cellsAt
  have q0 : w.cell? ⟨bq, oq, none⟩ = some (.int .i64 x0) := hc 0 x0 rfl
  have q1 : w.cell? ⟨bq, oq + 1, none⟩ = some (.int .i64 x1) := hc 1 x1 rfl
  have q2 : w.cell? ⟨bq, oq + 2, none⟩ = some (.int .i64 x2) := hc 2 x2 rfl
  obtain ⟨m0, n0⟩ := mulw la ua h0.1 h0.2
  obtain ⟨m1, n1⟩ := mulw lb ub h1.1 h1.2
  obtain ⟨m2, n2⟩ := mulw lc uc h2.1 h2.2
  clear hs hc hp h0 h1 h2
  go_enter Tryz.func101, Tryz.ntmps101
  go_wp2
  refine wp_loop_rounds 5 ?_
  rw [rounds_succ]; go_wp2
  go_quiet (fail)
  go_wp2
  rw [rounds_succ]; go_wp2
  go_quiet (fail)
  go_wp2
  rw [rounds_succ]; go_wp2
  go_quiet (fail)
  go_wp2
  rw [rounds_succ]; go_wp2
  go_ret
  exact ⟨ret_int (by simp [evalK]), by repeat (first | exact Ext.refl w | (with_reducible refine Ext.drewN ?_ _) | (with_reducible refine Ext.alloc ?_ _))⟩
 ·obtain ⟨bq, oq, capq, rfl, hc, hbq⟩ := hs.cellsAt
  have q0 : w.cell? ⟨bq, oq, none⟩ = some (.int .i64 x0) := hc 0 x0 rfl
  have q1 : w.cell? ⟨bq, oq + 1, none⟩ = some (.int .i64 x1) := hc 1 x1 rfl
  have q2 : w.cell? ⟨bq, oq + 2, none⟩ = some (.int .i64 x2) := hc 2 x2 rfl
  have q3 : w.cell? ⟨bq, oq + 3, none⟩ = some (.int .i64 x3) := hc 3 x3 rfl
  obtain ⟨m0, n0⟩ := mulw la ua h0.1 h0.2
  obtain ⟨m1, n1⟩ := mulw lb ub h1.1 h1.2
  obtain ⟨m2, n2⟩ := mulw lc uc h2.1 h2.2
  obtain ⟨m3, n3⟩ := mulw ld ud h3.1 h3.2
  clear hs hc hp h0 h1 h2 h3
  go_enter Tryz.func101, Tryz.ntmps101
  go_wp2
  refine wp_loop_rounds 5 ?_
  rw [rounds_succ]; go_wp2
  go_quiet (fail)
  go_wp2
  rw [rounds_succ]; go_wp2
  go_quiet (fail)
  go_wp2
  rw [rounds_succ]; go_wp2
  go_quiet (fail)
  go_wp2
  rw [rounds_succ]; go_wp2
  go_quiet (fail)
  go_wp2
  rw [rounds_succ]; go_wp2
  go_ret
  exact ⟨ret_int (by simp [evalK]), by repeat (first | exact Ext.refl w | (with_reducible refine Ext.drewN ?_ _) | (with_reducible refine Ext.alloc ?_ _))⟩
theorem drop_consG {α : Type} {xs : List α} {k : Nat} {x : α} (h : xs[k]? = some x) : xs.drop k = x :: xs.drop (k + 1) := by
 obtain ⟨hl, he⟩ := List.getElem?_eq_some_iff.1 h
 rw [List.drop_eq_getElem_cons hl, he]
theorem l4Size_any (nm : ByteArray) (ds : List Int) (s : Value) (w : World) (hs : IntsAt w s ds) (ho : arrOkB (nm, ds) = true) :
  Calls Tryz.prog 100 #[.agg #[.string nm, s]] w fun e w' => e = .returned (.int .i64 (dimsN ds)) ∧ Ext w w' := by
 obtain ⟨-, h2, h3⟩ := arrOk_parts ho
 clear ho
 rcases dims_cases h2 h3 with ⟨d, rfl, hd⟩ | ⟨d, e, rfl, hd, he⟩
 ·obtain ⟨bl, off, cap, rfl, hc, hbl⟩ := hs.cellsAt
  have c0 : w.cell? ⟨bl, off, none⟩ = some (.int .i64 d) := hc 0 d rfl
  clear hs hc h2 h3
  go_enter Tryz.func100, Tryz.ntmps100
  go_wp2
  refine wp_loop_rounds 3 ?_
  rw [rounds_succ]; go_wp2
  rw [rounds_succ]; go_wp2
  go_ret
  exact ⟨ret_int (by simp [dimsN]), (Ext.refl w).alloc _⟩
 ·obtain ⟨bl, off, cap, rfl, hc, hbl⟩ := hs.cellsAt
  have c0 : w.cell? ⟨bl, off, none⟩ = some (.int .i64 d) := hc 0 d rfl
  have c1 : w.cell? ⟨bl, off + 1, none⟩ = some (.int .i64 e) := hc 1 e rfl
  have hm := mul36 hd.1 hd.2 he.1 he.2
  clear hs hc h2 h3
  go_enter Tryz.func100, Tryz.ntmps100
  go_wp2
  refine wp_loop_rounds 4 ?_
  rw [rounds_succ]; go_wp2
  rw [rounds_succ]; go_wp2
  rw [rounds_succ]; go_wp2
  go_ret
  exact ⟨ret_int (by simp [dimsN]), (Ext.refl w).alloc _⟩
end Go.Proofs.YtggpjapmhakklaaGreat

/- The texts A4, joined. No statement is proved here. -/
import Derived.Test.YtccibfldadflkaaQV45
import Derived.Handy
import Derived.Deep.RegionHeld3
/- Contracts: the program's own linear expressions. -/
namespace Go.Proofs.Ytccibfldadflkaa
open Go.RowKit

/-- A list of four. -/
theorem four {xs : List Int} (h : xs.length = 4) : ∃ a b c d, xs = [a, b, c, d] := by
  match xs, h with
  | [a, b, c, d], _ => exact ⟨a, b, c, d, rfl⟩

theorem valid_four {xs : List Int} {k : Int} (h : affValidB xs k = true) : ∃ a b c d, xs = [a, b, c, d] ∧ (-9 ≤ a ∧ a ≤ 9) ∧ (-9 ≤ b ∧ b ≤ 9) ∧ (-9 ≤ c ∧ c ≤ 9) ∧ (-9 ≤ d ∧ d ≤ 9) ∧ (-99 ≤ k ∧ k ≤ 99) := by
  obtain ⟨a, b, c, d, rfl⟩ := four (affValidB_len h)
  simp only [affValidB, withinB, List.all_cons, List.all_nil, Bool.and_eq_true, decide_eq_true_eq, Bool.and_true] at h
  obtain ⟨_, ⟨h1, h2, h3, h4⟩, h5⟩ := h
  exact ⟨a, b, c, d, rfl, h1, h2, h3, h4, h5⟩

theorem IntsAt.four {w : World} {s : Value} {a b c d : Int} (h : IntsAt w s [a, b, c, d]) : ∃ bl off cap, s = .slice (some ⟨bl, off, none⟩) 4 cap ∧ w.cell? ⟨bl, off, none⟩ = some (.int .i64 a) ∧ w.cell? ⟨bl, off + 1, none⟩ = some (.int .i64 b) ∧ w.cell? ⟨bl, off + 2, none⟩ = some (.int .i64 c) ∧ w.cell? ⟨bl, off + 3, none⟩ = some (.int .i64 d) ∧ bl < w.heap.size := by
  obtain ⟨p, cap, rfl, hm, hc⟩ := h.get
  obtain ⟨bl, off, rfl, h0, hb⟩ := hc 0 a rfl
  have key : ∀ i x, [a, b, c, d][i]? = some x → w.cell? ⟨bl, off + i, none⟩ = some (.int .i64 x) := by
    intro i x hx
    obtain ⟨bl', off', e, h1, _⟩ := hc i x hx
    cases e
    exact h1
  exact ⟨bl, off, cap, rfl, key 0 a rfl, key 1 b rfl, key 2 c rfl, key 3 d rfl, hb⟩

/-- A block of five cells, cell by cell. -/
theorem blk5 {W : World} {g : Nat} {a b c d k : Value} {t : TypeId} (h : W.heap[g]? = some (.cells #[a, b, c, d, k] t (0, 0))) :
    W.cell? ⟨g, 0, none⟩ = some a ∧ W.cell? ⟨g, 1, none⟩ = some b ∧ W.cell? ⟨g, 2, none⟩ = some c ∧ W.cell? ⟨g, 3, none⟩ = some d ∧ W.cell? ⟨g, 4, none⟩ = some k ∧
    W.frozen? ⟨g, 0, none⟩ = false ∧ W.frozen? ⟨g, 1, none⟩ = false ∧ W.frozen? ⟨g, 2, none⟩ = false ∧ W.frozen? ⟨g, 3, none⟩ = false ∧ W.frozen? ⟨g, 4, none⟩ = false := by
  simp [World.cell?, World.frozen?, h]

set_option maxHeartbeats 1000000 in
theorem linearOf_no (s : Value) (xs : List Int) (k : Int) (w : World) (hs : IntsAt w s xs) (hv : affValidB xs k = false) :
    Calls Try.prog 52 #[.agg #[s, .int .i64 k]] w fun e w' =>
      e = .returned (.tuple #[.agg #[.int .i64 0, .int .i64 0, .int .i64 0, .int .i64 0, .int .i64 0], .bool false]) ∧ Ext w w' := by
  obtain ⟨p, cc, rfl, hm, hc⟩ := id hs
  clear hc
  have HS := Lib.hid hs; clear hs
  have HV := Lib.hid hv; clear hv
  go_enter Try.func52, Try.ntmps52
  go_wp2_with (fail)
  refine (AffineValid_any _ xs k _ (HS.out.ext (((Ext.refl w).alloc _).alloc _))).mono ?_
  rw [HV.out]
  rintro e w1 ⟨rfl, hE⟩
  obtain ⟨hc1, hf1⟩ := hE.cells
  have hsz := hE.size_le
  have HE := Lib.hid hE; clear hE
  go_wp2
  refine bodyPost_ret (v := .tuple #[.agg #[.int .i64 0, .int .i64 0, .int .i64 0, .int .i64 0, .int .i64 0], .bool false]) (by simp [results, Try.results52, go_sem, hc1]) rfl ⟨rfl, ?_⟩
  repeat (refine Ext.setCell ?_ (by simp <;> omega) _)
  exact (((Ext.refl w).alloc _).alloc _).trans HE.out

set_option maxHeartbeats 1000000 in
theorem linearOf_yes (s : Value) (a b c d k : Int) (w : World) (hs : IntsAt w s [a, b, c, d]) (hv : affValidB [a, b, c, d] k = true) :
    Calls Try.prog 52 #[.agg #[s, .int .i64 k]] w fun e w' =>
      e = .returned (.tuple #[.agg #[.int .i64 a, .int .i64 b, .int .i64 c, .int .i64 d, .int .i64 k], .bool true]) ∧ Ext w w' := by
  obtain ⟨bl, off, cap, rfl, h0, h1, h2, h3, hbl⟩ := hs.four
  have HS := Lib.hid hs; clear hs
  have HV := Lib.hid hv; clear hv
  go_enter Try.func52, Try.ntmps52
  go_wp2_with (fail)
  refine (AffineValid_any _ [a, b, c, d] k _ (HS.out.ext (((Ext.refl w).alloc _).alloc _))).mono ?_
  rw [HV.out]
  rintro e w1 ⟨rfl, hE⟩
  obtain ⟨hc1, hf1⟩ := hE.cells
  have hsz := hE.size_le
  have E1 : Hid (Ext w w1) := (((Ext.refl w).alloc _).alloc _).trans hE
  replace h0 := E1.out.keep h0
  replace h1 := E1.out.keep h1
  replace h2 := E1.out.keep h2
  replace h3 := E1.out.keep h3
  have hbl1 : bl < w1.heap.size := World.block_lt_of_cell? w1 _ h0
  have hE' := Lib.hid hE
  clear hE
  have hcp : Sem.run Try.prog (Builtin.copy_ #[22, 22] 3 #[.slice (some ⟨w1.heap.size, 0, none⟩) 4 4, .slice (some ⟨bl, off, none⟩) 4 cap]) ((w1.alloc (.cells #[.int .i64 0, .int .i64 0, .int .i64 0, .int .i64 0, .int .i64 k] 79)).drew) = .ok (goInt 4) ((w1.alloc (.cells #[.int .i64 a, .int .i64 b, .int .i64 c, .int .i64 d, .int .i64 k] 79)).drew) := by
    refine (run_copy_cells _ _ _ _ 3 w1.heap.size 0 4 4 ⟨bl, off, none⟩ 4 cap [.int .i64 a, .int .i64 b, .int .i64 c, .int .i64 d] Try.underlying22 (by kernel_rfl) rfl ?_ ?_ ?_ ?_).trans (by simp [World.setCells, go_sem])
    · intro j v hj
      match j, hj with
      | 0, hj => simp at hj; subst hj; simp [go_sem, hbl1, h0]
      | 1, hj => simp at hj; subst hj; simp [go_sem, hbl1, h1]
      | 2, hj => simp at hj; subst hj; simp [go_sem, hbl1, h2]
      | 3, hj => simp at hj; subst hj; simp [go_sem, hbl1, h3]
    · intro j hj
      match j, hj with
      | 0, hj => simp [go_sem]
      | 1, hj => simp [go_sem]
      | 2, hj => simp [go_sem]
      | 3, hj => simp [go_sem]
    · intro j hj
      simp [go_sem]
    · simp [Value.oneCell']
  clear hbl
  have hlt : w.heap.size < w1.heap.size := by simp at hsz; omega
  have hlt1 : w.heap.size + 1 < w1.heap.size := by simp at hsz; omega
  go_wp2
  go_region
  have E2 : Hid (Ext w ((w1.alloc (.cells #[.int .i64 a, .int .i64 b, .int .i64 c, .int .i64 d, .int .i64 k] 79)).drew)) := (E1.out.alloc _).drew
  have y0 : ((w1.alloc (.cells #[.int .i64 a, .int .i64 b, .int .i64 c, .int .i64 d, .int .i64 k] 79)).drew).heap[w1.heap.size]? = some (.cells #[.int .i64 a, .int .i64 b, .int .i64 c, .int .i64 d, .int .i64 k] 79 (0, 0)) := heap_alloc_new w1 _
  have y1 : ((w1.alloc (.cells #[.int .i64 a, .int .i64 b, .int .i64 c, .int .i64 d, .int .i64 k] 79)).drew).heap[w.heap.size + 1]? = some (.cells #[.int .i64 0, .int .i64 0, .int .i64 0, .int .i64 0, .int .i64 0] 79 (0, 0)) := by
    refine (Below.heap_alloc w1 _ _ hlt1).trans ((hE'.out.block _ (by simp)).trans ?_)
    rw [show w.heap.size + 1 = (w.alloc (.cells #[.slice (some ⟨bl, off, none⟩) 4 cap, .int .i64 k] 36)).heap.size from by simp]
    exact heap_alloc_new _ _
  generalize (w1.alloc (.cells #[.int .i64 a, .int .i64 b, .int .i64 c, .int .i64 d, .int .i64 k] 79)).drew = W at *
  obtain ⟨x0, x1, x2, x3, x4, _⟩ := blk5 y0
  obtain ⟨z0, z1, z2, z3, z4, f0, f1, f2, f3, f4⟩ := blk5 y1
  clear hcp h0 h1 h2 h3 hc1 hf1 hsz y0 y1
  generalize w1.heap.size = g at *
  go_wp2
  refine bodyPost_ret (v := .tuple #[.agg #[.int .i64 a, .int .i64 b, .int .i64 c, .int .i64 d, .int .i64 k], .bool true]) (by simp [results, Try.results52, go_sem, z0, z1, z2, z3, z4]) rfl ⟨rfl, ?_⟩
  repeat (with_reducible refine Ext.setCell ?_ ?_ _; rotate_left; · simp <;> omega)
  exact E2.out
end Go.Proofs.Ytccibfldadflkaa

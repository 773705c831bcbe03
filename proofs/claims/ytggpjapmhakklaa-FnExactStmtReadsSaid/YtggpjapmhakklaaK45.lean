/- The texts S3 G0, joined. No statement is proved here. -/
import Derived.Test.YtggpjapmhakklaaK21
import Derived.Deep.SlicePairs
/- Statements: sizes, copies. No statement is proved here. -/
namespace Go.Proofs.Ytggpjapmhakklaa
open Go.RowKit

/-- The value reads as a statement: array and subscripts of the element, expression. -/
def StR (w : World) (v : Value) (arr : ByteArray) (subs : List Aff) (e : Ex) : Prop := ∃ s cs, v = .agg (.string arr :: s :: cs).toArray ∧ arr.size ≤ 9223372036854775807 ∧ AffsAt w s subs ∧ ExR w cs e
theorem StR.ext {w w' : World} {v : Value} {arr : ByteArray} {subs : List Aff} {e : Ex} (h : StR w v arr subs e) (hE : Ext w w') : StR w' v arr subs e := by
  obtain ⟨s, cs, h1, h2, h3, h4⟩ := h
  exact ⟨s, cs, h1, h2, h3.ext hE, h4.ext hE⟩
theorem StR.parts {w : World} {v : Value} {arr : ByteArray} {subs : List Aff} {e : Ex} (h : StR w v arr subs e) :
    ∃ q1 d1 q2 d2 q3 d3 q4 d4, v = .agg #[.string arr, .slice q1 subs.length d1, .int .i64 e.kind, .int .i64 e.num, .slice q2 e.ix.1.length d2, .int .i64 e.ix.2, .string e.arr, .slice q3 e.subs.length d3, .slice q4 e.kids.length d4] ∧
      arr.size ≤ 9223372036854775807 ∧ AffsAt w (.slice q1 subs.length d1) subs ∧ ExR w [.int .i64 e.kind, .int .i64 e.num, .slice q2 e.ix.1.length d2, .int .i64 e.ix.2, .string e.arr, .slice q3 e.subs.length d3, .slice q4 e.kids.length d4] e := by
  obtain ⟨s, cs, rfl, h2, h3, h4⟩ := h
  obtain ⟨q1, d1, rfl, -⟩ := h3.form
  obtain ⟨u, s, v, rfl, hu, -, hs, hv⟩ := h4.parts
  obtain ⟨q2, d2, rfl, -, -⟩ := hu
  obtain ⟨q3, d3, rfl, -⟩ := hs.form
  obtain ⟨q4, d4, rfl, -⟩ := hv.form
  exact ⟨q1, d1, q2, d2, q3, d3, q4, d4, rfl, h2, h3, h4⟩
theorem blk9 {W : World} {g : Nat} {a0 a1 a2 a3 a4 a5 a6 a7 a8 : Value} {t : TypeId} (h : W.heap[g]? = some (.cells #[a0, a1, a2, a3, a4, a5, a6, a7, a8] t (0, 0))) :
    W.cell? ⟨g, 0, none⟩ = some a0 ∧ W.cell? ⟨g, 1, none⟩ = some a1 ∧ W.cell? ⟨g, 2, none⟩ = some a2 ∧ W.cell? ⟨g, 3, none⟩ = some a3 ∧ W.cell? ⟨g, 4, none⟩ = some a4 ∧ W.cell? ⟨g, 5, none⟩ = some a5 ∧ W.cell? ⟨g, 6, none⟩ = some a6 ∧ W.cell? ⟨g, 7, none⟩ = some a7 ∧ W.cell? ⟨g, 8, none⟩ = some a8 := by
  simp [World.cell?, h]
theorem blk9f {W : World} {g : Nat} {a0 a1 a2 a3 a4 a5 a6 a7 a8 : Value} {t : TypeId} (h : W.heap[g]? = some (.cells #[a0, a1, a2, a3, a4, a5, a6, a7, a8] t (0, 0))) (j : Nat) : W.frozen? ⟨g, j, none⟩ = false := by
  simp [World.frozen?, h]
theorem blk9_01 {W : World} {g : Nat} {a0 a1 a2 a3 a4 a5 a6 a7 a8 u v : Value} {t : TypeId} (h : W.heap[g]? = some (.cells #[a0, a1, a2, a3, a4, a5, a6, a7, a8] t (0, 0))) : ((W.setCell ⟨g, 0, none⟩ u).setCell ⟨g, 1, none⟩ v).heap[g]? = some (.cells #[u, v, a2, a3, a4, a5, a6, a7, a8] t (0, 0)) := by
  have h1 := heap_setCell_same W g 0 _ t u h
  have h2 := heap_setCell_same _ g 1 _ t v h1
  simpa using h2

theorem blk_eq {W V : World} {g : Nat} {o : Option Obj} (h : W = V) (hg : W.heap[g]? = o) : V.heap[g]? = o := h ▸ hg
theorem blk9_28 {W : World} {g : Nat} {a0 a1 a2 a3 a4 a5 a6 a7 a8 b2 b3 b4 b5 b6 b7 b8 : Value} {t : TypeId} (h : W.heap[g]? = some (.cells #[a0, a1, a2, a3, a4, a5, a6, a7, a8] t (0, 0))) :
    (((((((W.setCell ⟨g, 2, none⟩ b2).setCell ⟨g, 3, none⟩ b3).setCell ⟨g, 4, none⟩ b4).setCell ⟨g, 5, none⟩ b5).setCell ⟨g, 6, none⟩ b6).setCell ⟨g, 7, none⟩ b7).setCell ⟨g, 8, none⟩ b8).heap[g]? = some (.cells #[a0, a1, b2, b3, b4, b5, b6, b7, b8] t (0, 0)) := by
  have h2 := heap_setCell_same W g 2 _ t b2 h
  have h3 := heap_setCell_same _ g 3 _ t b3 h2
  have h4 := heap_setCell_same _ g 4 _ t b4 h3
  have h5 := heap_setCell_same _ g 5 _ t b5 h4
  have h6 := heap_setCell_same _ g 6 _ t b6 h5
  have h7 := heap_setCell_same _ g 7 _ t b7 h6
  have h8 := heap_setCell_same _ g 8 _ t b8 h7
  simpa using h8
theorem blk9_08 {W : World} {g : Nat} {a0 a1 a2 a3 a4 a5 a6 a7 a8 b0 b1 b2 b3 b4 b5 b6 b7 b8 : Value} {t : TypeId} (h : W.heap[g]? = some (.cells #[a0, a1, a2, a3, a4, a5, a6, a7, a8] t (0, 0))) :
    (((((((((W.setCell ⟨g, 0, none⟩ b0).setCell ⟨g, 1, none⟩ b1).setCell ⟨g, 2, none⟩ b2).setCell ⟨g, 3, none⟩ b3).setCell ⟨g, 4, none⟩ b4).setCell ⟨g, 5, none⟩ b5).setCell ⟨g, 6, none⟩ b6).setCell ⟨g, 7, none⟩ b7).setCell ⟨g, 8, none⟩ b8).heap[g]? = some (.cells #[b0, b1, b2, b3, b4, b5, b6, b7, b8] t (0, 0)) :=
  blk9_28 (blk9_01 h)

/-- A statement of the call's own. -/
def StO (B : Nat) (w : World) (v : Value) (arr : ByteArray) (subs : List Aff) (e : Ex) : Prop := ∃ s cs, v = .agg (.string arr :: s :: cs).toArray ∧ arr.size ≤ 9223372036854775807 ∧ AffsOwn B w s subs ∧ ExO B w cs e
theorem StO.at {B : Nat} {w : World} {v : Value} {arr : ByteArray} {subs : List Aff} {e : Ex} (h : StO B w v arr subs e) : StR w v arr subs e := by
  obtain ⟨s, cs, h1, h2, h3, h4⟩ := h
  exact ⟨s, cs, h1, h2, h3.at, h4.at⟩

set_option maxHeartbeats 4000000 in
theorem toStmt_any (v : Value) (arr : ByteArray) (subs : List Aff) (e : Ex) (w : World) (hs : StR w v arr subs e) (hs1 : SmallAs subs) (he1 : SmallE e) :
    Calls Try.prog 25 #[v] w fun r w' => (∃ v2, r = .returned v2 ∧ StO w.heap.size w' v2 arr subs e) ∧ Ext w w' := by
  obtain ⟨q1, d1, q2, d2, q3, d3, q4, d4, rfl, ha, hs2, he⟩ := hs.parts
  have HS := Lib.hid hs2; have HE := Lib.hid he; have HS1 := Lib.hid hs1; have HE1 := Lib.hid he1; clear hs hs1 he hs2 he1
  generalize hga : w.heap.size = ga at *
  have HGA := Lib.hid hga; clear hga
  go_enter Try.func25, Try.ntmps25
  go_wp2_with (fail)
  refine (toAccess_any arr _ subs _ (HS.out.ext ((((Ext.refl w).alloc _).alloc _).alloc _)) HS1.out).mono ?_
  rintro r W1 ⟨q5, d5, rfl, hv1, hE1⟩
  have E1 : Hid (Ext w W1) := Lib.hid (((((Ext.refl w).alloc _).alloc _).alloc _).trans hE1)
  have BA := hE1.blk (g := ga) (blk_old (blk_old (blk_at HGA.out.symm)))
  have BR := hE1.blk (g := ga + 1) (blk_old (blk_at (by simp [HGA.out])))
  have BO := hE1.blk (g := ga + 1 + 1) (blk_at (by simp [HGA.out]))
  have hl0 := lt_of_block BO
  have HV1 := Lib.hid (hv1.weak (B' := ga + 1 + 1 + 1) (by simp [HGA.out]))
  clear hE1 hv1
  obtain ⟨o0, o1, -, -, -, -, -, -, -⟩ := blk9 BO
  have f0 := blk9f BO 0; have f1 := blk9f BO 1
  have BA2 := Lib.hid (blk_off (g' := ga + 1 + 1) (o' := 1) (blk_off (g' := ga + 1 + 1) (o' := 0) BA (by omega) (.string arr)) (by omega) (.slice q5 subs.length d5))
  have BR2 := Lib.hid (blk_off (g' := ga + 1 + 1) (o' := 1) (blk_off (g' := ga + 1 + 1) (o' := 0) BR (by omega) (.string arr)) (by omega) (.slice q5 subs.length d5))
  have BO2 := Lib.hid (blk9_01 (u := .string arr) (v := .slice q5 subs.length d5) BO)
  obtain ⟨-, -, a2, a3, a4, a5, a6, a7, a8⟩ := blk9 BA2.out
  have E2 : Hid (Ext w ((W1.setCell ⟨ga + 1 + 1, 0, none⟩ (.string arr)).setCell ⟨ga + 1 + 1, 1, none⟩ (.slice q5 subs.length d5))) := Lib.hid ((E1.out.setCell (by rw [HGA.out]; simp; omega) _).setCell (by rw [HGA.out]; simp; omega) _)
  have HV2 := Lib.hid ((HV1.out.setOld (p := ⟨ga + 1 + 1, 0, none⟩) (by simp) (.string arr)).setOld (p := ⟨ga + 1 + 1, 1, none⟩) (by simp) (.slice q5 subs.length d5))
  clear BA BR BO HV1
  rw [HGA.out]
  go_wp2_with (fail)
  clear o0 o1 f0 f1 a2 a3 a4 a5 a6 a7 a8 hl0 E1
  generalize (W1.setCell ⟨ga + 1 + 1, 0, none⟩ (.string arr)).setCell ⟨ga + 1 + 1, 1, none⟩ (.slice q5 subs.length d5) = W2 at *
  refine (toExpr_any HE.out HE1.out W2 E2.out).mono ?_
  rintro r W3 ⟨⟨cs2, rfl, hv3⟩, hE3⟩
  have hw2 := lt_of_block BO2.out
  have HX3 := Lib.hid (hv3.weak (B' := ga + 1 + 1 + 1) (by omega))
  obtain ⟨kind', num', p1, n1, c1, k', arr', p2, n2, c2, p3, n3, c3, rfl⟩ := hv3.seven
  have E3 : Hid (Ext w W3) := Lib.hid (E2.out.trans hE3)
  have BR := hE3.blk BR2.out; have BO := hE3.blk BO2.out
  have hl0 := lt_of_block BO
  have HV3 := Lib.hid (HV2.out.ext hE3)
  clear hE3 hv3 HV2 BA2 BR2 BO2
  obtain ⟨-, -, o2, o3, o4, o5, o6, o7, o8⟩ := blk9 BO
  have f2 := blk9f BO 2; have f3 := blk9f BO 3; have f4 := blk9f BO 4; have f5 := blk9f BO 5; have f6 := blk9f BO 6; have f7 := blk9f BO 7; have f8 := blk9f BO 8
  obtain ⟨W4, hW4⟩ : ∃ W4, (((((((W3.setCell ⟨ga + 1 + 1, 2, none⟩ (.int .i64 kind')).setCell ⟨ga + 1 + 1, 3, none⟩ (.int .i64 num')).setCell ⟨ga + 1 + 1, 4, none⟩ (.slice p1 n1 c1)).setCell ⟨ga + 1 + 1, 5, none⟩ (.int .i64 k')).setCell ⟨ga + 1 + 1, 6, none⟩ (.string arr')).setCell ⟨ga + 1 + 1, 7, none⟩ (.slice p2 n2 c2)).setCell ⟨ga + 1 + 1, 8, none⟩ (.slice p3 n3 c3)) = W4 := ⟨_, rfl⟩
  have BO4 : W4.heap[ga + 1 + 1]? = some (.cells #[.string arr, .slice q5 subs.length d5, .int .i64 kind', .int .i64 num', .slice p1 n1 c1, .int .i64 k', .string arr', .slice p2 n2 c2, .slice p3 n3 c3] 50 (0, 0)) := by rw [← hW4]; exact blk9_28 BO
  have BR4 := Lib.hid (blk_eq hW4 (blk_off (blk_off (blk_off (blk_off (blk_off (blk_off (blk_off BR (by omega) _) (by omega) _) (by omega) _) (by omega) _) (by omega) _) (by omega) _) (by omega) _))
  have HV4 : Hid (AffsOwn (ga + 1 + 1 + 1) W4 (.slice q5 subs.length d5) subs) := Lib.hid (by
    rw [← hW4]
    repeat (refine AffsOwn.setOld ?_ (by simp) _)
    exact HV3.out)
  have HX4 : Hid (ExO (ga + 1 + 1 + 1) W4 [.int .i64 kind', .int .i64 num', .slice p1 n1 c1, .int .i64 k', .string arr', .slice p2 n2 c2, .slice p3 n3 c3] e) := Lib.hid (by rw [← hW4]; exact put7_exo (m := 2) HX3.out (by omega))
  have E4 : Hid (Ext w W4) := Lib.hid (by rw [← hW4]; exact put7_ext (m := 2) E3.out (by rw [HGA.out]; omega))
  obtain ⟨x0, x1, x2, x3, x4, x5, x6, x7, x8⟩ := blk9 BO4
  obtain ⟨r0, r1, r2, r3, r4, r5, r6, r7, r8⟩ := blk9 BR4.out
  have g0 := blk9f BR4.out 0; have g1 := blk9f BR4.out 1; have g2 := blk9f BR4.out 2; have g3 := blk9f BR4.out 3; have g4 := blk9f BR4.out 4; have g5 := blk9f BR4.out 5; have g6 := blk9f BR4.out 6; have g7 := blk9f BR4.out 7; have g8 := blk9f BR4.out 8
  obtain ⟨W5, hW5⟩ : ∃ W5, (((((((((W4.setCell ⟨ga + 1, 0, none⟩ (.string arr)).setCell ⟨ga + 1, 1, none⟩ (.slice q5 subs.length d5)).setCell ⟨ga + 1, 2, none⟩ (.int .i64 kind')).setCell ⟨ga + 1, 3, none⟩ (.int .i64 num')).setCell ⟨ga + 1, 4, none⟩ (.slice p1 n1 c1)).setCell ⟨ga + 1, 5, none⟩ (.int .i64 k')).setCell ⟨ga + 1, 6, none⟩ (.string arr')).setCell ⟨ga + 1, 7, none⟩ (.slice p2 n2 c2)).setCell ⟨ga + 1, 8, none⟩ (.slice p3 n3 c3)) = W5 := ⟨_, rfl⟩
  have BR5 := Lib.hid (blk_eq hW5 (blk9_08 BR4.out))
  have HV5 : Hid (AffsOwn (ga + 1 + 1 + 1) W5 (.slice q5 subs.length d5) subs) := Lib.hid (by
    rw [← hW5]
    repeat (refine AffsOwn.setOld ?_ (by simp <;> omega) _)
    exact HV4.out)
  have HX5 : Hid (ExO (ga + 1 + 1 + 1) W5 [.int .i64 kind', .int .i64 num', .slice p1 n1 c1, .int .i64 k', .string arr', .slice p2 n2 c2, .slice p3 n3 c3] e) := Lib.hid (by
    rw [← hW5]
    repeat (refine ExO.setOld ?_ (by simp <;> omega) _)
    exact HX4.out)
  have E5 : Hid (Ext w W5) := Lib.hid (by
    rw [← hW5]
    repeat (refine Ext.setCell ?_ (by rw [HGA.out]; simp) _)
    exact E4.out)
  clear BR BO BO4
  go_wp2
  clear hW4 hW5 o2 o3 o4 o5 o6 o7 o8 f2 f3 f4 f5 f6 f7 f8 x0 x1 x2 x3 x4 x5 x6 x7 x8 r0 r1 r2 r3 r4 r5 r6 r7 r8 g0 g1 g2 g3 g4 g5 g6 g7 g8
  obtain ⟨r0, r1, r2, r3, r4, r5, r6, r7, r8⟩ := blk9 BR5.out
  exact bodyPost_ret (v := .agg #[.string arr, .slice q5 subs.length d5, .int .i64 kind', .int .i64 num', .slice p1 n1 c1, .int .i64 k', .string arr', .slice p2 n2 c2, .slice p3 n3 c3]) (by simp [results, Try.results25, go_sem, r0, r1, r2, r3, r4, r5, r6, r7, r8]) rfl ⟨⟨_, rfl, _, _, rfl, ha, AffsOwn.weak HV5.out (by omega), ExO.weak HX5.out (by omega)⟩, E5.out⟩
end Go.Proofs.Ytggpjapmhakklaa

/- Programs in memory: lists of statements, arrays, parts; the argument opened. No statement is proved here. -/
namespace Go.Proofs.Ytggpjapmhakklaa
open Go.RowKit Go.ChangeShapes Go.WideShapes Go.ChangeAt Go.Joins

/-- A statement: array and subscripts of the written element, value. -/
abbrev St := ByteArray × List Aff × Ex
/-- The value v reads as a list of statements. -/
def StmtsAt (w : World) (v : Value) (ss : List St) : Prop := ∃ p c, ∃ us : Nat → List Value, v = .slice p ss.length c ∧ ss.length ≤ 9223372036854775807 ∧
  (∀ (i : Nat) (s : St), ss[i]? = some s → ∃ b off, p = some ⟨b, off, none⟩ ∧ b < w.heap.size ∧ ∀ (j : Nat) (v : Value), (us i)[j]? = some v → w.cell? ⟨b, off + i * 9 + j, none⟩ = some v) ∧ ∀ (i : Nat) (s : St), ss[i]? = some s → StR w (.agg (us i).toArray) s.1 s.2.1 s.2.2
theorem StmtsAt.ext {w w' : World} {v : Value} {ss : List St} (h : StmtsAt w v ss) (hE : Ext w w') : StmtsAt w' v ss := by
  obtain ⟨p, c, us, hv, hl, hc, hk⟩ := h
  refine ⟨p, c, us, hv, hl, fun i e hi => ?_, fun i e hi => (hk i e hi).ext hE⟩
  obtain ⟨b, off, h1, h2, h3⟩ := hc i e hi
  exact ⟨b, off, h1, Nat.lt_of_lt_of_le h2 hE.size_le, fun j v hj => hE.keep (h3 j v hj)⟩
theorem StmtsAt.form {w : World} {v : Value} {ss : List St} (h : StmtsAt w v ss) : ∃ p c, v = .slice p ss.length c ∧ ss.length ≤ 9223372036854775807 := by
  obtain ⟨p, c, us, hv, hl, _⟩ := h; exact ⟨p, c, hv, hl⟩
/-- Element i of a list of statements: its nine cells. -/
theorem StmtsAt.elem {w : World} {p : Option Addr} {n c i : Nat} {ss : List St} {s : St} (h : StmtsAt w (.slice p n c) ss) (hi : ss[i]? = some s) :
    ∃ b off q1 d1 q2 d2 q3 d3 q4 d4, p = some ⟨b, off, none⟩ ∧ b < w.heap.size ∧ w.cell? ⟨b, off + i * 9, none⟩ = some (.string s.1) ∧ w.cell? ⟨b, off + i * 9 + 1, none⟩ = some (.slice q1 s.2.1.length d1) ∧
      w.cell? ⟨b, off + i * 9 + 2, none⟩ = some (.int .i64 s.2.2.kind) ∧ w.cell? ⟨b, off + i * 9 + 3, none⟩ = some (.int .i64 s.2.2.num) ∧ w.cell? ⟨b, off + i * 9 + 4, none⟩ = some (.slice q2 s.2.2.ix.1.length d2) ∧ w.cell? ⟨b, off + i * 9 + 5, none⟩ = some (.int .i64 s.2.2.ix.2) ∧
      w.cell? ⟨b, off + i * 9 + 6, none⟩ = some (.string s.2.2.arr) ∧ w.cell? ⟨b, off + i * 9 + 7, none⟩ = some (.slice q3 s.2.2.subs.length d3) ∧ w.cell? ⟨b, off + i * 9 + 8, none⟩ = some (.slice q4 s.2.2.kids.length d4) ∧
      StR w (.agg #[.string s.1, .slice q1 s.2.1.length d1, .int .i64 s.2.2.kind, .int .i64 s.2.2.num, .slice q2 s.2.2.ix.1.length d2, .int .i64 s.2.2.ix.2, .string s.2.2.arr, .slice q3 s.2.2.subs.length d3, .slice q4 s.2.2.kids.length d4]) s.1 s.2.1 s.2.2 := by
  obtain ⟨p', c', us, hv, hl, hc, hk⟩ := h
  simp only [Value.slice.injEq] at hv
  obtain ⟨rfl, -, rfl⟩ := hv
  obtain ⟨b, off, h1, h2, h3⟩ := hc i s hi
  have hst := hk i s hi
  obtain ⟨q1, d1, q2, d2, q3, d3, q4, d4, hcs, -, -, -⟩ := hst.parts
  have hcs' : us i = [.string s.1, .slice q1 s.2.1.length d1, .int .i64 s.2.2.kind, .int .i64 s.2.2.num, .slice q2 s.2.2.ix.1.length d2, .int .i64 s.2.2.ix.2, .string s.2.2.arr, .slice q3 s.2.2.subs.length d3, .slice q4 s.2.2.kids.length d4] := by
    simpa using hcs
  rw [hcs'] at h3 hst
  exact ⟨b, off, q1, d1, q2, d2, q3, d3, q4, d4, h1, h2, h3 0 _ rfl, h3 1 _ rfl, h3 2 _ rfl, h3 3 _ rfl, h3 4 _ rfl, h3 5 _ rfl, h3 6 _ rfl, h3 7 _ rfl, h3 8 _ rfl, hst⟩

/-- An array: name and dimensions. -/
abbrev Arr := ByteArray × List Int
def ArrR (w : World) (u0 u1 : Value) (a : Arr) : Prop := u0 = .string a.1 ∧ a.1.size ≤ 9223372036854775807 ∧ IntsAt w u1 a.2
theorem ArrR.ext {w w' : World} {u0 u1 : Value} {a : Arr} (h : ArrR w u0 u1 a) (hb : Ext w w') : ArrR w' u0 u1 a := ⟨h.1, h.2.1, h.2.2.ext hb⟩
def ArrsAt : World → Value → List Arr → Prop := PairsAt ArrR
theorem ArrsAt.ext {w w' : World} {v : Value} {xs : List Arr} (h : ArrsAt w v xs) (hb : Ext w w') : ArrsAt w' v xs := PairsAt.ext (R := ArrR) (fun h hb => h.ext hb) h hb
theorem ArrsAt.form {w : World} {v : Value} {xs : List Arr} (h : ArrsAt w v xs) : ∃ p c, v = .slice p xs.length c ∧ xs.length ≤ 9223372036854775807 := by
  obtain ⟨p, c, hv, hm, _⟩ := h; exact ⟨p, c, hv, hm⟩
theorem ArrsAt.elem {w : World} {p : Option Addr} {n c : Nat} {xs : List Arr} (h : ArrsAt w (.slice p n c) xs) {i : Nat} {x : Arr} (hi : xs[i]? = some x) :
    ∃ b off q m, p = some ⟨b, off, none⟩ ∧ w.cell? ⟨b, off + i * 2, none⟩ = some (.string x.1) ∧ w.cell? ⟨b, off + i * 2 + 1, none⟩ = some (.slice q x.2.length m) ∧ b < w.heap.size ∧ x.1.size ≤ 9223372036854775807 ∧ IntsAt w (.slice q x.2.length m) x.2 := by
  obtain ⟨p', c', hv, hm, hc⟩ := h
  cases hv
  obtain ⟨b, off, u0, u1, hp, h0, h1, hlt, rfl, hs, hr⟩ := hc i x hi
  obtain ⟨q, m, rfl, _⟩ := id hr
  exact ⟨b, off, q, m, hp, h0, h1, hlt, hs, hr⟩

/-- A part: nest and body. -/
abbrev Pt := List Lp × List St
def PartR (w : World) (u0 u1 : Value) (a : Pt) : Prop := LoopsAt w u0 a.1 ∧ StmtsAt w u1 a.2
theorem PartR.ext {w w' : World} {u0 u1 : Value} {a : Pt} (h : PartR w u0 u1 a) (hb : Ext w w') : PartR w' u0 u1 a := ⟨h.1.ext hb, h.2.ext hb⟩
def PartsAt : World → Value → List Pt → Prop := PairsAt PartR
theorem PartsAt.ext {w w' : World} {v : Value} {xs : List Pt} (h : PartsAt w v xs) (hb : Ext w w') : PartsAt w' v xs := PairsAt.ext (R := PartR) (fun h hb => h.ext hb) h hb
theorem PartsAt.form {w : World} {v : Value} {xs : List Pt} (h : PartsAt w v xs) : ∃ p c, v = .slice p xs.length c ∧ xs.length ≤ 9223372036854775807 := by
  obtain ⟨p, c, hv, hm, _⟩ := h; exact ⟨p, c, hv, hm⟩
theorem PartsAt.elem {w : World} {p : Option Addr} {n c : Nat} {xs : List Pt} (h : PartsAt w (.slice p n c) xs) {i : Nat} {x : Pt} (hi : xs[i]? = some x) :
    ∃ b off q m q' m', p = some ⟨b, off, none⟩ ∧ w.cell? ⟨b, off + i * 2, none⟩ = some (.slice q x.1.length m) ∧ w.cell? ⟨b, off + i * 2 + 1, none⟩ = some (.slice q' x.2.length m') ∧ b < w.heap.size ∧ LoopsAt w (.slice q x.1.length m) x.1 ∧ StmtsAt w (.slice q' x.2.length m') x.2 := by
  obtain ⟨p', c', hv, hm, hc⟩ := h
  cases hv
  obtain ⟨b, off, u0, u1, hp, h0, h1, hlt, hr, hr'⟩ := hc i x hi
  obtain ⟨q, m, rfl, _⟩ := hr.form
  obtain ⟨q', m', rfl, _⟩ := hr'.form
  exact ⟨b, off, q, m, q', m', hp, h0, h1, hlt, hr, hr'⟩

/-- The value reads as a program: arrays and parts. -/
def PrR (w : World) (v : Value) (ars : List Arr) (ps : List Pt) : Prop := ∃ u0 u1, v = .agg #[u0, u1] ∧ ArrsAt w u0 ars ∧ PartsAt w u1 ps
theorem PrR.ext {w w' : World} {v : Value} {ars : List Arr} {ps : List Pt} (h : PrR w v ars ps) (hE : Ext w w') : PrR w' v ars ps := by
  obtain ⟨u0, u1, h1, h2, h3⟩ := h
  exact ⟨u0, u1, h1, h2.ext hE, h3.ext hE⟩
theorem PrR.parts {w : World} {v : Value} {ars : List Arr} {ps : List Pt} (h : PrR w v ars ps) : ∃ q m q' m', v = .agg #[.slice q ars.length m, .slice q' ps.length m'] ∧ ars.length ≤ 9223372036854775807 ∧ ps.length ≤ 9223372036854775807 ∧ ArrsAt w (.slice q ars.length m) ars ∧ PartsAt w (.slice q' ps.length m') ps := by
  obtain ⟨u0, u1, rfl, h2, h3⟩ := h
  obtain ⟨q, m, rfl, l1⟩ := h2.form
  obtain ⟨q', m', rfl, l2⟩ := h3.form
  exact ⟨q, m, q', m', rfl, l1, l2, h2, h3⟩

end Go.Proofs.Ytggpjapmhakklaa

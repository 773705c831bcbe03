/- The texts S3 N6, joined. No statement is proved here. -/
import Derived.Test.YtggpjapmhakklaaGreatQL34
import Derived.Test.YtggpjapmhakklaaGreatQL02
set_option maxRecDepth 100000
set_option maxHeartbeats 8000000
set_option linter.unusedVariables false
set_option linter.unusedSimpArgs false
namespace Go.Proofs.YtggpjapmhakklaaGreat
open Go.Lib (hid)
open Go.RowKit
def StR (w : World) (v : Value) (arr : ByteArray) (subs : List Aff) (e : Ex) : Prop := ∃ s cs, v = .agg (.string arr :: s :: cs).toArray ∧ arr.size ≤ 9223372036854775807 ∧ AffsAt w s subs ∧ ExR w cs e
theorem StR.ext {w w' : World} {v : Value} {arr : ByteArray} {subs : List Aff} {e : Ex} (h : StR w v arr subs e) (hE : Ext w w') : StR w' v arr subs e := by
 obtain ⟨s, cs, h1, h2, h3, h4⟩ := h
 exact ⟨s, cs, h1, h2, h3.ext hE, h4.ext hE⟩
theorem StR.parts {w : World} {v : Value} {arr : ByteArray} {subs : List Aff} {e : Ex} (h : StR w v arr subs e) :
  ∃ q1 d1 q2 d2 q3 d3 q4 d4, v = .agg #[.string arr, .slice q1 subs.length d1, .int .i64 e.kind, .int .i64 e.num, .slice q2 e.ix.1.length d2, .int .i64 e.ix.2, .string e.arr, .slice q3 e.subs.length d3, .slice q4 e.kids.length d4] ∧
   arr.size ≤ 9223372036854775807 ∧ AffsAt w (.slice q1 subs.length d1) subs ∧ ExR w [.int .i64 e.kind, .int .i64 e.num, .slice q2 e.ix.1.length d2, .int .i64 e.ix.2, .string e.arr, .slice q3 e.subs.length d3, .slice q4 e.kids.length d4] e := by
 obtain ⟨s, cs, rfl, h2, h3, h4⟩ := h
 obtain ⟨q1, d1, rfl, -⟩ := h3.form
 obtain ⟨u, s, v, rfl, hu, -, hs, hv⟩ := h4.parts
 obtain ⟨q2, d2, rfl, -, -⟩ := hu
 obtain ⟨q3, d3, rfl, -⟩ := hs.form
 obtain ⟨q4, d4, rfl, -⟩ := hv.form
 exact ⟨q1, d1, q2, d2, q3, d3, q4, d4, rfl, h2, h3, h4⟩
theorem blk9 {W : World} {g : Nat} {a0 a1 a2 a3 a4 a5 a6 a7 a8 : Value} {t : TypeId} (h : W.heap[g]? = some (.cells #[a0, a1, a2, a3, a4, a5, a6, a7, a8] t (0, 0))) :
  W.cell? ⟨g, 0, none⟩ = some a0 ∧ W.cell? ⟨g, 1, none⟩ = some a1 ∧ W.cell? ⟨g, 2, none⟩ = some a2 ∧ W.cell? ⟨g, 3, none⟩ = some a3 ∧ W.cell? ⟨g, 4, none⟩ = some a4 ∧ W.cell? ⟨g, 5, none⟩ = some a5 ∧ W.cell? ⟨g, 6, none⟩ = some a6 ∧ W.cell? ⟨g, 7, none⟩ = some a7 ∧ W.cell? ⟨g, 8, none⟩ = some a8 := by
 simp [World.cell?, h]
theorem blk9f {W : World} {g : Nat} {a0 a1 a2 a3 a4 a5 a6 a7 a8 : Value} {t : TypeId} (h : W.heap[g]? = some (.cells #[a0, a1, a2, a3, a4, a5, a6, a7, a8] t (0, 0))) (j : Nat) : W.frozen? ⟨g, j, none⟩ = false := by
 simp [World.frozen?, h]
theorem blk9_01 {W : World} {g : Nat} {a0 a1 a2 a3 a4 a5 a6 a7 a8 u v : Value} {t : TypeId} (h : W.heap[g]? = some (.cells #[a0, a1, a2, a3, a4, a5, a6, a7, a8] t (0, 0))) : ((W.setCell ⟨g, 0, none⟩ u).setCell ⟨g, 1, none⟩ v).heap[g]? = some (.cells #[u, v, a2, a3, a4, a5, a6, a7, a8] t (0, 0)) := by
 have h1 := heap_setCell_same W g 0 _ t u h
 have h2 := heap_setCell_same _ g 1 _ t v h1
 simpa using h2
theorem blk_eq {W V : World} {g : Nat} {o : Option Obj} (h : W = V) (hg : W.heap[g]? = o) : V.heap[g]? = o := h ▸ hg
theorem blk9_28 {W : World} {g : Nat} {a0 a1 a2 a3 a4 a5 a6 a7 a8 b2 b3 b4 b5 b6 b7 b8 : Value} {t : TypeId} (h : W.heap[g]? = some (.cells #[a0, a1, a2, a3, a4, a5, a6, a7, a8] t (0, 0))) :
  (((((((W.setCell ⟨g, 2, none⟩ b2).setCell ⟨g, 3, none⟩ b3).setCell ⟨g, 4, none⟩ b4).setCell ⟨g, 5, none⟩ b5).setCell ⟨g, 6, none⟩ b6).setCell ⟨g, 7, none⟩ b7).setCell ⟨g, 8, none⟩ b8).heap[g]? = some (.cells #[a0, a1, b2, b3, b4, b5, b6, b7, b8] t (0, 0)) := by
 have h2 := heap_setCell_same W g 2 _ t b2 h
 have h3 := heap_setCell_same _ g 3 _ t b3 h2
 have h4 := heap_setCell_same _ g 4 _ t b4 h3
 have h5 := heap_setCell_same _ g 5 _ t b5 h4
 have h6 := heap_setCell_same _ g 6 _ t b6 h5
 have h7 := heap_setCell_same _ g 7 _ t b7 h6
 have h8 := heap_setCell_same _ g 8 _ t b8 h7
 simpa using h8
theorem blk9_08 {W : World} {g : Nat} {a0 a1 a2 a3 a4 a5 a6 a7 a8 b0 b1 b2 b3 b4 b5 b6 b7 b8 : Value} {t : TypeId} (h : W.heap[g]? = some (.cells #[a0, a1, a2, a3, a4, a5, a6, a7, a8] t (0, 0))) :
  (((((((((W.setCell ⟨g, 0, none⟩ b0).setCell ⟨g, 1, none⟩ b1).setCell ⟨g, 2, none⟩ b2).setCell ⟨g, 3, none⟩ b3).setCell ⟨g, 4, none⟩ b4).setCell ⟨g, 5, none⟩ b5).setCell ⟨g, 6, none⟩ b6).setCell ⟨g, 7, none⟩ b7).setCell ⟨g, 8, none⟩ b8).heap[g]? = some (.cells #[b0, b1, b2, b3, b4, b5, b6, b7, b8] t (0, 0)) :=
 blk9_28 (blk9_01 h)
def StO (B : Nat) (w : World) (v : Value) (arr : ByteArray) (subs : List Aff) (e : Ex) : Prop := ∃ s cs, v = .agg (.string arr :: s :: cs).toArray ∧ arr.size ≤ 9223372036854775807 ∧ AffsOwn B w s subs ∧ ExO B w cs e
theorem StO.at {B : Nat} {w : World} {v : Value} {arr : ByteArray} {subs : List Aff} {e : Ex} (h : StO B w v arr subs e) : StR w v arr subs e := by
 obtain ⟨s, cs, h1, h2, h3, h4⟩ := h
 exact ⟨s, cs, h1, h2, h3.at, h4.at⟩
theorem toStmt_any (v : Value) (arr : ByteArray) (subs : List Aff) (e : Ex) (w : World) (hs : StR w v arr subs e) (hs1 : SmallAs subs) (he1 : SmallE e) :
  Calls Tryz.prog 103 #[v] w fun r w' => (∃ v2, r = .returned v2 ∧ StO w.heap.size w' v2 arr subs e) ∧ Ext w w' := by
 obtain ⟨q1, d1, q2, d2, q3, d3, q4, d4, rfl, ha, hs2, he⟩ := hs.parts
 have HS := hid hs2; have HE := hid he; have HS1 := hid hs1; have HE1 := hid he1; clear hs hs1 he hs2 he1
 generalize hga : w.heap.size = ga at *
 have HGA := hid hga; clear hga
 go_enter Tryz.func103, Tryz.ntmps103
 go_wp2_with (fail)
 refine (toAccess_any arr _ subs _ (HS.out.ext ((((Ext.refl w).alloc _).alloc _).alloc _)) HS1.out).mono ?_
 rintro r W1 ⟨q5, d5, rfl, hv1, hE1⟩
 have E1 : Hid (Ext w W1) := hid (((((Ext.refl w).alloc _).alloc _).alloc _).trans hE1)
 have BA := hE1.blk (g := ga) (blk_old (blk_old (blk_at HGA.out.symm)))
 have BR := hE1.blk (g := ga + 1) (blk_old (blk_at (by simp [HGA.out])))
 have BO := hE1.blk (g := ga + 1 + 1) (blk_at (by simp [HGA.out]))
 have hl0 := lt_of_block BO
 have HV1 := hid (hv1.weak (B' := ga + 1 + 1 + 1) (by simp [HGA.out]))
 clear hE1 hv1
 obtain ⟨o0, o1, -, -, -, -, -, -, -⟩ := blk9 BO
 have f0 := blk9f BO 0; have f1 := blk9f BO 1
 have BA2 := hid (blk_off (g' := ga + 1 + 1) (o' := 1) (blk_off (g' := ga + 1 + 1) (o' := 0) BA (by omega) (.string arr)) (by omega) (.slice q5 subs.length d5))
 have BR2 := hid (blk_off (g' := ga + 1 + 1) (o' := 1) (blk_off (g' := ga + 1 + 1) (o' := 0) BR (by omega) (.string arr)) (by omega) (.slice q5 subs.length d5))
 have BO2 := hid (blk9_01 (u := .string arr) (v := .slice q5 subs.length d5) BO)
 obtain ⟨-, -, a2, a3, a4, a5, a6, a7, a8⟩ := blk9 BA2.out
 have E2 : Hid (Ext w ((W1.setCell ⟨ga + 1 + 1, 0, none⟩ (.string arr)).setCell ⟨ga + 1 + 1, 1, none⟩ (.slice q5 subs.length d5))) := hid ((E1.out.setCell (by rw [HGA.out]; simp; omega) _).setCell (by rw [HGA.out]; simp; omega) _)
 have HV2 := hid ((HV1.out.setOld (p := ⟨ga + 1 + 1, 0, none⟩) (by simp) (.string arr)).setOld (p := ⟨ga + 1 + 1, 1, none⟩) (by simp) (.slice q5 subs.length d5))
 clear BA BR BO HV1
 rw [HGA.out]
 go_wp2_with (fail)
 clear o0 o1 f0 f1 a2 a3 a4 a5 a6 a7 a8 hl0 E1
 generalize (W1.setCell ⟨ga + 1 + 1, 0, none⟩ (.string arr)).setCell ⟨ga + 1 + 1, 1, none⟩ (.slice q5 subs.length d5) = W2 at *
 refine (toExpr_any HE.out HE1.out W2 E2.out).mono ?_
 rintro r W3 ⟨⟨cs2, rfl, hv3⟩, hE3⟩
 have hw2 := lt_of_block BO2.out
 have HX3 := hid (hv3.weak (B' := ga + 1 + 1 + 1) (by omega))
 obtain ⟨kind', num', p1, n1, c1, k', arr', p2, n2, c2, p3, n3, c3, rfl⟩ := hv3.seven
 have E3 : Hid (Ext w W3) := hid (E2.out.trans hE3)
 have BR := hE3.blk BR2.out; have BO := hE3.blk BO2.out
 have hl0 := lt_of_block BO
 have HV3 := hid (HV2.out.ext hE3)
 clear hE3 hv3 HV2 BA2 BR2 BO2
 obtain ⟨-, -, o2, o3, o4, o5, o6, o7, o8⟩ := blk9 BO
 have f2 := blk9f BO 2; have f3 := blk9f BO 3; have f4 := blk9f BO 4; have f5 := blk9f BO 5; have f6 := blk9f BO 6; have f7 := blk9f BO 7; have f8 := blk9f BO 8
 obtain ⟨W4, hW4⟩ : ∃ W4, (((((((W3.setCell ⟨ga + 1 + 1, 2, none⟩ (.int .i64 kind')).setCell ⟨ga + 1 + 1, 3, none⟩ (.int .i64 num')).setCell ⟨ga + 1 + 1, 4, none⟩ (.slice p1 n1 c1)).setCell ⟨ga + 1 + 1, 5, none⟩ (.int .i64 k')).setCell ⟨ga + 1 + 1, 6, none⟩ (.string arr')).setCell ⟨ga + 1 + 1, 7, none⟩ (.slice p2 n2 c2)).setCell ⟨ga + 1 + 1, 8, none⟩ (.slice p3 n3 c3)) = W4 := ⟨_, rfl⟩
 have BO4 : W4.heap[ga + 1 + 1]? = some (.cells #[.string arr, .slice q5 subs.length d5, .int .i64 kind', .int .i64 num', .slice p1 n1 c1, .int .i64 k', .string arr', .slice p2 n2 c2, .slice p3 n3 c3] 103 (0, 0)) := by rw [← hW4]; exact blk9_28 BO
 have BR4 := hid (blk_eq hW4 (blk_off (blk_off (blk_off (blk_off (blk_off (blk_off (blk_off BR (by omega) _) (by omega) _) (by omega) _) (by omega) _) (by omega) _) (by omega) _) (by omega) _))
 have HV4 : Hid (AffsOwn (ga + 1 + 1 + 1) W4 (.slice q5 subs.length d5) subs) := hid (by
  rw [← hW4]
  repeat (refine AffsOwn.setOld ?_ (by simp) _)
  exact HV3.out)
 have HX4 : Hid (ExO (ga + 1 + 1 + 1) W4 [.int .i64 kind', .int .i64 num', .slice p1 n1 c1, .int .i64 k', .string arr', .slice p2 n2 c2, .slice p3 n3 c3] e) := hid (by rw [← hW4]; exact put7_exo (m := 2) HX3.out (by omega))
 have E4 : Hid (Ext w W4) := hid (by rw [← hW4]; exact put7_ext (m := 2) E3.out (by rw [HGA.out]; omega))
 obtain ⟨x0, x1, x2, x3, x4, x5, x6, x7, x8⟩ := blk9 BO4
 obtain ⟨r0, r1, r2, r3, r4, r5, r6, r7, r8⟩ := blk9 BR4.out
 have g0 := blk9f BR4.out 0; have g1 := blk9f BR4.out 1; have g2 := blk9f BR4.out 2; have g3 := blk9f BR4.out 3; have g4 := blk9f BR4.out 4; have g5 := blk9f BR4.out 5; have g6 := blk9f BR4.out 6; have g7 := blk9f BR4.out 7; have g8 := blk9f BR4.out 8
 obtain ⟨W5, hW5⟩ : ∃ W5, (((((((((W4.setCell ⟨ga + 1, 0, none⟩ (.string arr)).setCell ⟨ga + 1, 1, none⟩ (.slice q5 subs.length d5)).setCell ⟨ga + 1, 2, none⟩ (.int .i64 kind')).setCell ⟨ga + 1, 3, none⟩ (.int .i64 num')).setCell ⟨ga + 1, 4, none⟩ (.slice p1 n1 c1)).setCell ⟨ga + 1, 5, none⟩ (.int .i64 k')).setCell ⟨ga + 1, 6, none⟩ (.string arr')).setCell ⟨ga + 1, 7, none⟩ (.slice p2 n2 c2)).setCell ⟨ga + 1, 8, none⟩ (.slice p3 n3 c3)) = W5 := ⟨_, rfl⟩
 have BR5 := hid (blk_eq hW5 (blk9_08 BR4.out))
 have HV5 : Hid (AffsOwn (ga + 1 + 1 + 1) W5 (.slice q5 subs.length d5) subs) := hid (by
  rw [← hW5]
  repeat (refine AffsOwn.setOld ?_ (by simp <;> omega) _)
  exact HV4.out)
 have HX5 : Hid (ExO (ga + 1 + 1 + 1) W5 [.int .i64 kind', .int .i64 num', .slice p1 n1 c1, .int .i64 k', .string arr', .slice p2 n2 c2, .slice p3 n3 c3] e) := hid (by
  rw [← hW5]
  repeat (refine ExO.setOld ?_ (by simp <;> omega) _)
  exact HX4.out)
 have E5 : Hid (Ext w W5) := hid (by
  rw [← hW5]
  repeat (refine Ext.setCell ?_ (by rw [HGA.out]; simp) _)
  exact E4.out)
 clear BR BO BO4
 go_wp2
 clear hW4 hW5 o2 o3 o4 o5 o6 o7 o8 f2 f3 f4 f5 f6 f7 f8 x0 x1 x2 x3 x4 x5 x6 x7 x8 r0 r1 r2 r3 r4 r5 r6 r7 r8 g0 g1 g2 g3 g4 g5 g6 g7 g8
 obtain ⟨r0, r1, r2, r3, r4, r5, r6, r7, r8⟩ := blk9 BR5.out
 exact bodyPost_ret (v := .agg #[.string arr, .slice q5 subs.length d5, .int .i64 kind', .int .i64 num', .slice p1 n1 c1, .int .i64 k', .string arr', .slice p2 n2 c2, .slice p3 n3 c3]) (by simp [results, Tryz.results103, go_sem, r0, r1, r2, r3, r4, r5, r6, r7, r8]) rfl ⟨⟨_, rfl, _, _, rfl, ha, AffsOwn.weak HV5.out (by omega), ExO.weak HX5.out (by omega)⟩, E5.out⟩
end Go.Proofs.YtggpjapmhakklaaGreat
namespace Go.Proofs.YtggpjapmhakklaaGreat
open Go.Lib (hid)
open Go.RowKit
def nestB (ls : List Lp) : Bool := decide (ls.length ≤ 4) && (List.range ls.length).all (fun i => match ls[i]? with | some l => loopB l i | none => true)
theorem nestB_iff {ls : List Lp} : nestB ls = true ↔ ls.length ≤ 4 ∧ ∀ (i : Nat) (l : Lp), ls[i]? = some l → loopB l i = true := by
 simp only [nestB, Bool.and_eq_true, decide_eq_true_eq, List.all_eq_true, List.mem_range]
 refine and_congr_right fun _ => ⟨fun h i l hi => ?_, fun h i hi => ?_⟩
 ·have := h i (List.getElem?_eq_some_iff.1 hi).1
  rw [hi] at this; exact this
 ·obtain ⟨l, hl⟩ := get_some (xs := ls) (k := i) hi
  rw [hl]; exact h i l hl
theorem nestB_no {ls : List Lp} {i : Nat} {l : Lp} (hi : ls[i]? = some l) (h : loopB l i = false) : nestB ls = false := by
 cases hb : nestB ls with
 | false => rfl
 | true => rw [(nestB_iff.1 hb).2 i l hi] at h; cases h
theorem nestB_len {ls : List Lp} (h : ¬ ls.length ≤ 4) : nestB ls = false := by
 cases hb : nestB ls with
 | false => rfl
 | true => exact absurd (nestB_iff.1 hb).1 h
theorem specNestValid_any (p : Option Addr) (n c : Nat) (ls : List Lp) (w : World) (hn : ls.length = n) (hs : LoopsAt w (.slice p n c) ls) :
  Calls Tryz.prog 93 #[.slice p n c] w fun e w' => e = .returned (.bool (nestB ls)) ∧ Ext w w' := by
 have hm : n ≤ 9223372036854775807 := by obtain ⟨_, _, hv, hm, _⟩ := hs; rw [← hn]; exact hm
 have HS := hid hs; have HN := hid hn; clear hs hn
 by_cases h4 : n ≤ 4
 ·have hb4 : decide ((n : Int) ≤ 4) = true := by simp; omega
  go_enter Tryz.func93, Tryz.ntmps93
  go_wp2
  go_loopw [3] (fun i wr => ∃ k : Nat, k ≤ n ∧ i = .int .i64 k ∧ (∀ (i : Nat) (l : Lp), i < k → ls[i]? = some l → loopB l i = true) ∧ Ext w wr) (fun i _ => n - (intOf i).toNat)
  case atStart => exact ⟨0, by omega, rfl, fun i l h => absurd h (by omega), Ext.refl w⟩
  case round =>
   obtain ⟨k, hk, rfl, hall, hE⟩ := hrel
   have HA := hid hall; clear hall
   by_cases hlt : k < n
   ·obtain ⟨x, hx⟩ := get_some (xs := ls) (k := k) (by rw [HN.out]; exact hlt)
    obtain ⟨b, off, q, m, q', m', rfl, c0, c1, hb, hr, hr'⟩ := (HS.out.ext hE).elem hx
    have HX := hid hx; have HR := hid hr; have HR' := hid hr'; clear hx hr hr'
    cases h1 : sideB x.1 k with
    | false =>
     have H1 := hid h1; clear h1
     go_wp2_with (fail)
     refine (l2Side_any _ _ _ x.1 k _ rfl HR.out).mono ?_
     rw [H1.out]
     rintro e w1 ⟨rfl, hE1⟩
     go_wp2
     go_ret
     exact ⟨ret_bool (nestB_no HX.out (by simp [loopB, H1.out])).symm, hE.trans hE1⟩
    | true =>
     have H1 := hid h1; clear h1
     cases h2 : sideB x.2 k with
     | false =>
      have H2 := hid h2; clear h2
      go_wp2_with (fail)
      refine (l2Side_any _ _ _ x.1 k _ rfl HR.out).mono ?_
      rw [H1.out]
      rintro e w1 ⟨rfl, hE1⟩
      replace c0 := hE1.keep c0
      replace c1 := hE1.keep c1
      go_wp2_with (fail)
      refine (l2Side_any _ _ _ x.2 k _ rfl (HR'.out.ext hE1)).mono ?_
      rw [H2.out]
      rintro e w2 ⟨rfl, hE2⟩
      clear c0 c1
      go_wp2
      go_ret
      exact ⟨ret_bool (nestB_no HX.out (by simp [loopB, H2.out])).symm, (hE.trans hE1).trans hE2⟩
     | true =>
      have H2 := hid h2; clear h2
      go_wp2_with (fail)
      refine (l2Side_any _ _ _ x.1 k _ rfl HR.out).mono ?_
      rw [H1.out]
      rintro e w1 ⟨rfl, hE1⟩
      replace c0 := hE1.keep c0
      replace c1 := hE1.keep c1
      go_wp2_with (fail)
      refine (l2Side_any _ _ _ x.2 k _ rfl (HR'.out.ext hE1)).mono ?_
      rw [H2.out]
      rintro e w2 ⟨rfl, hE2⟩
      clear c0 c1
      go_wp2
      go_roundw
      case rel =>
       refine ⟨k + 1, by omega, by go_num, fun i l hi hl => ?_, (hE.trans hE1).trans hE2⟩
       by_cases e : i = k
       ·subst e; have hX := HX.out; rw [hl] at hX; cases hX; simp [loopB, H1.out, H2.out]
       ·exact HA.out i l (by omega) hl
      case measure => simp [intOf]; omega
   ·have e : k = n := by omega
    subst e
    go_wp2
    go_ret
    refine ⟨ret_bool ?_, hE⟩
    have h : nestB ls = true := nestB_iff.2 ⟨by rw [HN.out]; exact h4, fun i l hl => HA.out i l (by rw [← HN.out]; exact (List.getElem?_eq_some_iff.1 hl).1) hl⟩
    rw [h]; try simp; try omega
 ·have hb4 : decide ((n : Int) ≤ 4) = false := by simp; omega
  have hb0 : ((0 : Int) < n) := by omega
  go_enter Tryz.func93, Tryz.ntmps93
  go_wp2
  go_loopw [3] (fun i wr => i = .int .i64 0 ∧ Ext w wr) (fun i _ => 0)
  case atStart => exact ⟨rfl, Ext.refl w⟩
  case round =>
   obtain ⟨rfl, hE⟩ := hrel
   go_wp2
   go_ret
   exact ⟨ret_bool (nestB_len (by rw [HN.out]; exact h4)).symm, hE⟩
theorem boundsValid_any (p : Option Addr) (n c : Nat) (zs : List Aff) (dd : Int) (w : World) (hn : zs.length = n) (hs : AffsAt w (.slice p n c) zs) :
  Calls Tryz.prog 166 #[.slice p n c, .int .i64 dd] w fun e w' => e = .returned (.bool (sideB zs dd)) ∧ Ext w w' := by
 have hm : n ≤ 9223372036854775807 := by obtain ⟨_, _, hv, hm, _⟩ := hs; rw [← hn]; exact hm
 have HS := hid hs; have HN := hid hn; clear hs hn
 by_cases h1 : 1 ≤ n
 ·by_cases h2 : n ≤ 2
  ·have hb1 : decide ((n : Int) < 1) = false := by simp; omega
   have hb2 : decide ((2 : Int) < n) = false := by simp; omega
   go_enter Tryz.func166, Tryz.ntmps166
   go_wp2
   go_loopw [19] (fun i wr => ∃ k : Nat, k ≤ n ∧ i = .int .i64 k ∧ (zs.take k).all (boundB dd) = true ∧ Ext w wr) (fun i _ => n - (intOf i).toNat)
   case atStart => exact ⟨0, by omega, rfl, by simp, Ext.refl w⟩
   case round =>
    obtain ⟨k, hk, rfl, hall, hE⟩ := hrel
    have HA := hid hall; clear hall
    by_cases hlt : k < n
    ·obtain ⟨x, hx⟩ := get_some (xs := zs) (k := k) (by rw [HN.out]; exact hlt)
     obtain ⟨b, off, q, m, rfl, c0, c1, hb, hr⟩ := (HS.out.ext hE).elem hx
     have HX := hid hx; have HR := hid hr; clear hx hr
     cases hv : boundB dd x with
     | false =>
      have HV := hid hv; clear hv
      go_wp2_with (fail)
      refine (linearWithin_any _ x.1 x.2 dd _ (HR.out.ext ((Ext.refl wr).alloc _))).mono ?_
      rw [show boundB dd (x.1, x.2) = false from HV.out]
      rintro e w1 ⟨⟨_, _, _, _, _, rfl, -⟩, hE1⟩
      have g1 := ((Ext.refl wr).alloc _).trans hE1
      go_wp2
      go_ret
      exact ⟨ret_bool (by simp [sideB, all_false_of (p := boundB dd) HX.out HV.out]), hE.trans (by first | exact g1 | exact g1.alloc _)⟩
     | true =>
      have HV := hid hv; clear hv
      go_wp2_with (fail)
      refine (linearWithin_any _ x.1 x.2 dd _ (HR.out.ext ((Ext.refl wr).alloc _))).mono ?_
      rw [show boundB dd (x.1, x.2) = true from HV.out]
      rintro e w1 ⟨⟨_, _, _, _, _, rfl, -⟩, hE1⟩
      have g1 := ((Ext.refl wr).alloc _).trans hE1
      clear c0 c1
      go_wp2
      go_roundw
      case rel => exact ⟨k + 1, by omega, by go_num, all_take_next HX.out HA.out HV.out, hE.trans (by first | exact g1 | exact g1.alloc _)⟩
      case measure => simp [intOf]; omega
    ·have hal : zs.all (boundB dd) = true := all_take_end (by rw [HN.out]; omega) HA.out
     have HAl := hid hal; clear hal
     go_wp2
     go_ret
     exact ⟨ret_bool (by simp [sideB, HAl.out, HN.out, h1, h2]), hE⟩
  ·have hb1 : decide ((n : Int) < 1) = false := by simp; omega
   have hb2 : decide ((2 : Int) < n) = true := by simp; omega
   go_enter Tryz.func166, Tryz.ntmps166
   go_wp2
   go_ret
   exact ⟨ret_bool (by simp [sideB, HN.out, h2]), Ext.refl w⟩
 ·have hb1 : decide ((n : Int) < 1) = true := by simp; omega
  go_enter Tryz.func166, Tryz.ntmps166
  go_wp2
  go_ret
  exact ⟨ret_bool (by simp [sideB, HN.out, h1]), Ext.refl w⟩
theorem loopValid_any (s t : Value) (x : Lp) (dd : Int) (w : World) (hs : AffsAt w s x.1) (ht : AffsAt w t x.2) :
  Calls Tryz.prog 155 #[.agg #[s, t], .int .i64 dd] w fun e w' => e = .returned (.bool (loopB x dd)) ∧ Ext w w' := by
 obtain ⟨p, c, rfl, hm⟩ := hs.form
 obtain ⟨q, d, rfl, hm2⟩ := ht.form
 have HS := hid hs; have HT := hid ht; clear hs ht
 cases h1 : sideB x.1 dd with
 | false =>
  have H1 := hid h1; clear h1
  go_enter Tryz.func155, Tryz.ntmps155
  go_wp2_with (fail)
  refine (boundsValid_any _ _ _ x.1 dd _ rfl (HS.out.ext ((Ext.refl w).alloc _))).mono ?_
  rw [H1.out]
  rintro e w1 ⟨rfl, hE⟩
  have E1 := ((Ext.refl w).alloc _).trans hE
  go_wp2
  go_ret
  exact ⟨ret_bool (by simp [loopB, H1.out]), E1⟩
 | true =>
  have H1 := hid h1; clear h1
  go_enter Tryz.func155, Tryz.ntmps155
  go_wp2_with (fail)
  refine (boundsValid_any _ _ _ x.1 dd _ rfl (HS.out.ext ((Ext.refl w).alloc _))).mono ?_
  rw [H1.out]
  rintro e w1 ⟨rfl, hE⟩
  have E1 := ((Ext.refl w).alloc _).trans hE
  obtain ⟨d0, d1, -, -⟩ := blk2 (hE.blk (g := w.heap.size) (blk_at rfl))
  clear hE
  go_wp2_with (fail)
  refine (boundsValid_any _ _ _ x.2 dd _ rfl (HT.out.ext E1)).mono ?_
  rintro e w2 ⟨rfl, hE2⟩
  clear d0 d1
  go_wp2
  go_ret
  exact ⟨ret_bool (by simp [loopB, H1.out]), E1.trans hE2⟩
theorem NestValid_any (p : Option Addr) (n c : Nat) (ls : List Lp) (w : World) (hn : ls.length = n) (hs : LoopsAt w (.slice p n c) ls) :
  Calls Tryz.prog 135 #[.slice p n c] w fun e w' => e = .returned (.bool (nestB ls)) ∧ Ext w w' := by
 have hm : n ≤ 9223372036854775807 := by obtain ⟨_, _, hv, hm, _⟩ := hs; rw [← hn]; exact hm
 have HS := hid hs; have HN := hid hn; clear hs hn
 by_cases h4 : n ≤ 4
 ·have hb4 : decide ((4 : Int) < n) = false := by simp; omega
  go_enter Tryz.func135, Tryz.ntmps135
  go_wp2
  go_loopw [10] (fun i wr => ∃ k : Nat, k ≤ n ∧ i = .int .i64 k ∧ (∀ (i : Nat) (l : Lp), i < k → ls[i]? = some l → loopB l i = true) ∧ Ext w wr) (fun i _ => n - (intOf i).toNat)
  case atStart => exact ⟨0, by omega, rfl, fun i l h => absurd h (by omega), Ext.refl w⟩
  case round =>
   obtain ⟨k, hk, rfl, hall, hE⟩ := hrel
   have HA := hid hall; clear hall
   by_cases hlt : k < n
   ·obtain ⟨x, hx⟩ := get_some (xs := ls) (k := k) (by rw [HN.out]; exact hlt)
    obtain ⟨b, off, q, m, q', m', rfl, c0, c1, hb, hr, hr'⟩ := (HS.out.ext hE).elem hx
    have HX := hid hx; have HR := hid hr; have HR' := hid hr'; clear hx hr hr'
    cases h1 : loopB x k with
    | false =>
     have H1 := hid h1; clear h1
     go_wp2_with (fail)
     refine (loopValid_any _ _ x k _ (HR.out.ext ((Ext.refl wr).alloc _)) (HR'.out.ext ((Ext.refl wr).alloc _))).mono ?_
     rw [H1.out]
     rintro e w1 ⟨rfl, hE1⟩
     have g1 := ((Ext.refl wr).alloc _).trans hE1
     go_wp2
     go_ret
     exact ⟨ret_bool (nestB_no HX.out H1.out).symm, hE.trans g1⟩
    | true =>
     have H1 := hid h1; clear h1
     go_wp2_with (fail)
     refine (loopValid_any _ _ x k _ (HR.out.ext ((Ext.refl wr).alloc _)) (HR'.out.ext ((Ext.refl wr).alloc _))).mono ?_
     rw [H1.out]
     rintro e w1 ⟨rfl, hE1⟩
     have g1 := ((Ext.refl wr).alloc _).trans hE1
     clear c0 c1
     go_wp2
     go_roundw
     case rel =>
      refine ⟨k + 1, by omega, by go_num, fun i l hi hl => ?_, hE.trans g1⟩
      by_cases e : i = k
      ·subst e; have hX := HX.out; rw [hl] at hX; cases hX; exact H1.out
      ·exact HA.out i l (by omega) hl
     case measure => simp [intOf]; omega
   ·have e : k = n := by omega
    subst e
    go_wp2
    go_ret
    refine ⟨ret_bool ?_, hE⟩
    exact (nestB_iff.2 ⟨by rw [HN.out]; exact h4, fun i l hl => HA.out i l (by rw [← HN.out]; exact (List.getElem?_eq_some_iff.1 hl).1) hl⟩).symm
 ·have hb4 : decide ((4 : Int) < n) = true := by simp; omega
  go_enter Tryz.func135, Tryz.ntmps135
  go_wp2
  go_ret
  exact ⟨ret_bool (nestB_len (by rw [HN.out]; exact h4)).symm, Ext.refl w⟩
end Go.Proofs.YtggpjapmhakklaaGreat

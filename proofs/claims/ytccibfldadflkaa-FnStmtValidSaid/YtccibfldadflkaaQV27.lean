/- The texts S17, joined. No statement is proved here. -/
import Derived.Test.YtccibfldadflkaaQV26
/- The program's statementOf. No statement is proved here. -/
namespace Go.Proofs.Ytccibfldadflkaa
open Go.RowKit

theorem blk3_set {W : World} {g : Nat} {a b c a' b' c' : Value} {t : TypeId} (h : W.heap[g]? = some (.cells #[a, b, c] t (0, 0))) :
    (((W.setCell ⟨g, 0, none⟩ a').setCell ⟨g, 1, none⟩ b').setCell ⟨g, 2, none⟩ c').heap[g]? = some (.cells #[a', b', c'] t (0, 0)) := by
  have h1 := heap_setCell_same W g 0 #[a, b, c] t a' h
  have h2 := heap_setCell_same _ g 1 _ t b' h1
  have h3 := heap_setCell_same _ g 2 _ t c' h2
  simpa using h3
theorem NdR.setOld {B : Nat} {w : World} {v : Value} {e : Ex} (h : NdR B w v e) {p : Addr} (hp : p.block < B) (u : Value) : NdR B (w.setCell p u) v e := by
  induction h with
  | num n => exact .num n
  | idx a b c d k h => exact .idx a b c d k h
  | read arr s subs h => exact .read arr s subs (h.setOld hp u)
  | op kind x y ex ey hk _ _ ihx ihy => exact .op kind x y ex ey hk ihx ihy
theorem nodeOf_five (dd : Int) (e : Ex) (u s v : Value) (w : World) (hu : IntsAt w u e.ix.1) (ha : e.arr.size ≤ 9223372036854775807) (hs : AffsAt w s e.subs) (hv : ExsAt w v e.kids) :
    Calls Try.prog 89 #[.agg #[.int .i64 e.kind, .int .i64 e.num, u, .int .i64 e.ix.2, .string e.arr, s, v], .int .i64 dd, .int .i64 5] w fun r w' =>
      (∃ nv, r = .returned (.tuple #[nv, .bool (shapeB 5 e dd)]) ∧ (nv = .nilIface ∨ ∃ t x, nv = .iface t x) ∧ (shapeB 5 e dd = true → NdR w.heap.size w' nv e)) ∧ Ext w w' :=
  nodeOf_all dd 5 (by omega) e u s v w hu ha hs hv

set_option maxRecDepth 100000 in
set_option maxHeartbeats 4000000 in
theorem statementOf_any (v : Value) (arr : ByteArray) (subs : List Aff) (e : Ex) (d : Int) (w : World) (hs : StR w v arr subs e) :
    Calls Try.prog 58 #[v, .int .i64 d] w fun r w' => (∃ a' p' n' c' nv, r = .returned (.tuple #[.agg #[.string a', .slice p' n' c', nv], .bool (validB arr subs e d)]) ∧ (nv = .nilIface ∨ ∃ t x, nv = .iface t x) ∧ (validB arr subs e d = true → a' = arr ∧ LinsOwn w.heap.size w' (.slice p' n' c') subs ∧ NdR w.heap.size w' nv e)) ∧ Ext w w' := by
  obtain ⟨q1, d1, q2, d2, q3, d3, q4, d4, rfl, ha, hs1, he⟩ := hs.parts
  obtain ⟨u', s', v', hcs, hu2, ha2, hs2, hv2⟩ := he.parts
  simp only [List.cons.injEq, and_true, true_and] at hcs
  obtain ⟨rfl, rfl, rfl⟩ := hcs
  have HS := Lib.hid hs1; have HU2 := Lib.hid hu2; have HS2 := Lib.hid hs2; have HV2 := Lib.hid hv2; clear hs hs1 he hu2 hs2 hv2
  obtain ⟨q, hq⟩ : ∃ q, validB arr subs e d = q := ⟨_, rfl⟩
  rw [hq]
  have HQ := Lib.hid hq; clear hq
  by_cases h0 : d < 0
  · have hb0 : decide (d < 0) = true := by simpa using h0
    obtain rfl : q = false := by rw [← HQ.out]; unfold validB; rw [decide_eq_false (show ¬ 0 ≤ d by omega)]; rfl
    clear h0 HQ
    go_enter Try.func58, Try.ntmps58
    go_wp2
    exact bodyPost_ret (v := .tuple #[.agg #[.string ⟨#[]⟩, .slice none 0 0, .nilIface], .bool false]) (by simp [results, Try.results58, go_sem]) rfl ⟨⟨_, _, _, _, _, rfl, .inl rfl, fun h => by cases h⟩, ((Ext.refl w).alloc _).alloc _⟩
  have hb0 : decide (d < 0) = false := by simpa using h0
  by_cases h4 : 4 < d
  · have hb4 : decide (4 < d) = true := by simpa using h4
    obtain rfl : q = false := by rw [← HQ.out]; unfold validB; rw [decide_eq_false (show ¬ d ≤ 4 by omega)]; simp
    clear h0 h4 HQ
    go_enter Try.func58, Try.ntmps58
    go_wp2
    exact bodyPost_ret (v := .tuple #[.agg #[.string ⟨#[]⟩, .slice none 0 0, .nilIface], .bool false]) (by simp [results, Try.results58, go_sem]) rfl ⟨⟨_, _, _, _, _, rfl, .inl rfl, fun h => by cases h⟩, ((Ext.refl w).alloc _).alloc _⟩
  have hb4 : decide (4 < d) = false := by simpa using h4
  have HQV : Hid (q = (accB arr subs d && (shapeB 5 e d && decide (countE 5 e ≤ 12)))) := Lib.hid (by
    rw [← HQ.out]; unfold validB; rw [decide_eq_true (show 0 ≤ d by omega), decide_eq_true (show d ≤ 4 by omega)]; simp)
  clear h0 h4 HQ
  obtain ⟨qa, hqa⟩ : ∃ qa, accB arr subs d = qa := ⟨_, rfl⟩
  obtain ⟨qs, hqs⟩ : ∃ qs, shapeB 5 e d = qs := ⟨_, rfl⟩
  have HQA := Lib.hid hqa; have HQS := Lib.hid hqs; clear hqa hqs
  go_enter Try.func58, Try.ntmps58
  go_wp2_with (fail)
  refine (elementOf_any arr _ subs d _ ha (HS.out.ext (((Ext.refl w).alloc _).alloc _))).mono ?_
  rw [HQA.out]
  rintro r W1 ⟨⟨a', p', n', c', rfl, hval⟩, hE⟩
  have E1 := Lib.hid ((((Ext.refl w).alloc _).alloc _).trans hE); have HVAL := Lib.hid hval
  have B1 := Lib.hid (hE.blk (g := w.heap.size) (blk_old (blk_at rfl))); have R1 := Lib.hid (hE.blk (g := w.heap.size + 1) (blk_at (by simp)))
  have hz1 := hE.size_le
  simp only [World.size_alloc] at hz1
  clear hE hval
  obtain ⟨-, -, y2, y3, y4, y5, y6, y7, y8⟩ := blk9 B1.out
  have hl1 := lt_of_block B1.out
  have EE : Hid (Ext W1 (W1.alloc (.cells #[.string a', .slice p' n' c'] 105))) := Lib.hid ((Ext.refl W1).alloc _)
  go_wp2_with (fail)
  refine (nodeOf_five d e _ _ _ _ (HU2.out.ext (E1.out.trans EE.out)) ha2 (HS2.out.ext (E1.out.trans EE.out)) (HV2.out.ext (E1.out.trans EE.out))).mono ?_
  rw [HQS.out]
  rintro r W2 ⟨⟨nv, rfl, hf, hnd⟩, hE⟩
  have E2 := Lib.hid ((E1.out.trans EE.out).trans hE); have HND := Lib.hid hnd; have X2 := Lib.hid (EE.out.trans hE)
  have T2 := Lib.hid (hE.blk (g := W1.heap.size) (blk_at rfl)); have R2 := Lib.hid (X2.out.blk R1.out)
  clear hE hnd y2 y3 y4 y5 y6 y7 y8 hl1 EE
  have hl2 := lt_of_block R2.out
  cases qa with
  | false =>
        obtain rfl : q = false := by rw [HQV.out, HQA.out]; rfl
        have HQ : Hid (false = false) := Lib.hid rfl
        clear HQV
        obtain ⟨r0, r1, r2⟩ := blk3 R2.out
        have rf0 := blk3f R2.out 0; have rf1 := blk3f R2.out 1; have rf2 := blk3f R2.out 2
        go_wp2
        obtain ⟨WF, hWF⟩ : ∃ WF, (((W2.setCell ⟨w.heap.size + 1, 0, none⟩ (.string ⟨#[]⟩)).setCell ⟨w.heap.size + 1, 1, none⟩ (.slice none 0 0)).setCell ⟨w.heap.size + 1, 2, none⟩ .nilIface) = WF := ⟨_, rfl⟩
        have EF : Ext w WF := by rw [← hWF]; exact ((E2.out.setCell (Nat.le_succ _) _).setCell (Nat.le_succ _) _).setCell (Nat.le_succ _) _
        obtain ⟨f0, f1, f2⟩ := blk3 (W := WF) (g := w.heap.size + 1) (by rw [← hWF]; exact blk3_set R2.out)
        rw [hWF]
        clear hWF
        exact bodyPost_ret (v := .tuple #[.agg #[.string ⟨#[]⟩, .slice none 0 0, .nilIface], .bool false]) (by simp [results, Try.results58, go_sem, f0, f1, f2]) rfl ⟨⟨_, _, _, _, _, by first | rfl | rw [HQ.out], (.inl rfl), fun h => by first | cases h | (rw [HQ.out] at h; cases h)⟩, EF⟩
  | true =>
    cases qs with
    | false =>
        obtain rfl : q = false := by rw [HQV.out, HQA.out, HQS.out]; rfl
        have HQ : Hid (false = false) := Lib.hid rfl
        clear HQV
        obtain ⟨r0, r1, r2⟩ := blk3 R2.out
        have rf0 := blk3f R2.out 0; have rf1 := blk3f R2.out 1; have rf2 := blk3f R2.out 2
        go_wp2
        obtain ⟨WF, hWF⟩ : ∃ WF, (((W2.setCell ⟨w.heap.size + 1, 0, none⟩ (.string ⟨#[]⟩)).setCell ⟨w.heap.size + 1, 1, none⟩ (.slice none 0 0)).setCell ⟨w.heap.size + 1, 2, none⟩ .nilIface) = WF := ⟨_, rfl⟩
        have EF : Ext w WF := by rw [← hWF]; exact ((E2.out.setCell (Nat.le_succ _) _).setCell (Nat.le_succ _) _).setCell (Nat.le_succ _) _
        obtain ⟨f0, f1, f2⟩ := blk3 (W := WF) (g := w.heap.size + 1) (by rw [← hWF]; exact blk3_set R2.out)
        rw [hWF]
        clear hWF
        exact bodyPost_ret (v := .tuple #[.agg #[.string ⟨#[]⟩, .slice none 0 0, .nilIface], .bool false]) (by simp [results, Try.results58, go_sem, f0, f1, f2]) rfl ⟨⟨_, _, _, _, _, by first | rfl | rw [HQ.out], (.inl rfl), fun h => by first | cases h | (rw [HQ.out] at h; cases h)⟩, EF⟩
    | true =>
      have hnd := HND.out
      simp only [forall_const] at hnd
      obtain ⟨tn, pn, rfl⟩ := hnd.iface
      have hz2 := X2.out.size_le
      have hcb := countE_bd 5 e HQS.out
      have h63 := bC_five (L := 5) (by omega)
      obtain ⟨C, hC⟩ : ∃ C, countE 5 e = C := ⟨_, rfl⟩
      have HC := Lib.hid hC
      rw [hC] at hcb
      have hC0 := hcb.1
      have hC1 : C ≤ 63 := by omega
      have HN2 := Lib.hid hnd
      obtain rfl : q = decide (C ≤ 12) := by rw [HQV.out, HQA.out, HQS.out, hC]; rfl
      clear HQV hC hcb h63 hf hnd HND
      go_wp2_with (fail)
      refine (countNodes_any d _ 5 _ e W2 (by omega) HQS.out HN2.out).mono ?_
      rw [HC.out]
      rintro r W3 ⟨rfl, hE⟩
      have E3 := Lib.hid (E2.out.trans hE); have R3 := Lib.hid (hE.blk R2.out); have T3 := Lib.hid (hE.blk T2.out); have X3 := Lib.hid (X2.out.trans hE)
      have HN3 := Lib.hid (HN2.out.ext hE)
      clear hE hl2
      have hl3 := lt_of_block R3.out
      by_cases h12 : C ≤ 12
      · have hd12 : decide (12 < C) = false := by simp; omega
        have HQ : Hid (decide (C ≤ 12) = true) := Lib.hid (by simpa using h12)
        obtain ⟨r0, r1, r2⟩ := blk3 R3.out
        have rf0 := blk3f R3.out 0; have rf1 := blk3f R3.out 1; have rf2 := blk3f R3.out 2
        obtain ⟨t0, t1, -, -⟩ := blk2 T3.out
        clear h12
        go_wp2
        obtain ⟨WF, hWF⟩ : ∃ WF, (((W3.setCell ⟨w.heap.size + 1, 0, none⟩ (.string a')).setCell ⟨w.heap.size + 1, 1, none⟩ (.slice p' n' c')).setCell ⟨w.heap.size + 1, 2, none⟩ (.iface tn pn)) = WF := ⟨_, rfl⟩
        have EF : Ext w WF := by rw [← hWF]; exact ((E3.out.setCell (Nat.le_succ _) _).setCell (Nat.le_succ _) _).setCell (Nat.le_succ _) _
        obtain ⟨f0, f1, f2⟩ := blk3 (W := WF) (g := w.heap.size + 1) (by rw [← hWF]; exact blk3_set R3.out)
        obtain ⟨ha', ho⟩ := HVAL.out trivial
        have HO : LinsOwn w.heap.size WF (.slice p' n' c') subs := by
          rw [← hWF]
          have h := ho.ext X3.out
          simp only [World.size_alloc] at h
          exact ((((h.setOld (p := ⟨w.heap.size + 1, 0, none⟩) (by simp) _).setOld (p := ⟨w.heap.size + 1, 1, none⟩) (by simp) _).setOld (p := ⟨w.heap.size + 1, 2, none⟩) (by simp) _)).weak (by omega)
        have HN : NdR w.heap.size WF (.iface tn pn) e := by
          rw [← hWF]
          have h := HN3.out
          simp only [World.size_alloc] at h
          exact ((((h.setOld (p := ⟨w.heap.size + 1, 0, none⟩) (by simp; omega) _).setOld (p := ⟨w.heap.size + 1, 1, none⟩) (by simp; omega) _).setOld (p := ⟨w.heap.size + 1, 2, none⟩) (by simp; omega) _)).weak (by omega)
        rw [hWF]
        clear hWF
        exact bodyPost_ret (v := .tuple #[.agg #[.string a', .slice p' n' c', .iface tn pn], .bool true]) (by simp [results, Try.results58, go_sem, f0, f1, f2]) rfl ⟨⟨_, _, _, _, _, by rw [HQ.out], .inr ⟨_, _, rfl⟩, fun _ => ⟨ha', HO, HN⟩⟩, EF⟩
      · have hd12 : decide (12 < C) = true := by simp; omega
        have HQ : Hid (decide (C ≤ 12) = false) := Lib.hid (by simpa using h12)
        clear h12
        obtain ⟨r0, r1, r2⟩ := blk3 R3.out
        have rf0 := blk3f R3.out 0; have rf1 := blk3f R3.out 1; have rf2 := blk3f R3.out 2
        go_wp2
        obtain ⟨WF, hWF⟩ : ∃ WF, (((W3.setCell ⟨w.heap.size + 1, 0, none⟩ (.string ⟨#[]⟩)).setCell ⟨w.heap.size + 1, 1, none⟩ (.slice none 0 0)).setCell ⟨w.heap.size + 1, 2, none⟩ .nilIface) = WF := ⟨_, rfl⟩
        have EF : Ext w WF := by rw [← hWF]; exact ((E3.out.setCell (Nat.le_succ _) _).setCell (Nat.le_succ _) _).setCell (Nat.le_succ _) _
        obtain ⟨f0, f1, f2⟩ := blk3 (W := WF) (g := w.heap.size + 1) (by rw [← hWF]; exact blk3_set R3.out)
        rw [hWF]
        clear hWF
        exact bodyPost_ret (v := .tuple #[.agg #[.string ⟨#[]⟩, .slice none 0 0, .nilIface], .bool false]) (by simp [results, Try.results58, go_sem, f0, f1, f2]) rfl ⟨⟨_, _, _, _, _, by first | rfl | rw [HQ.out], (.inl rfl), fun h => by first | cases h | (rw [HQ.out] at h; cases h)⟩, EF⟩

set_option maxRecDepth 100000 in
set_option maxHeartbeats 1000000 in
theorem StmtValid_any (v : Value) (arr : ByteArray) (subs : List Aff) (e : Ex) (d : Int) (w : World) (hs : StR w v arr subs e) :
    Calls Try.prog 23 #[v, .int .i64 d] w fun r w' => r = .returned (.bool (validB arr subs e d)) ∧ Ext w w' := by
  have HS := Lib.hid hs
  obtain ⟨q1, d1, q2, d2, q3, d3, q4, d4, rfl, ha, hs1, he⟩ := hs.parts
  obtain ⟨u', s', v', hcs, hu2, ha2, hs2, hv2⟩ := he.parts
  simp only [List.cons.injEq, and_true, true_and] at hcs
  obtain ⟨rfl, rfl, rfl⟩ := hcs
  clear hs hs1 he hu2 hs2 hv2
  go_enter Try.func23, Try.ntmps23
  go_wp2_with (fail)
  refine (statementOf_any _ arr subs e d _ (HS.out.ext ((Ext.refl w).alloc _))).mono ?_
  rintro r W1 ⟨⟨a', p', n', c', nv, rfl, hf, -⟩, hE⟩
  have E1 := Lib.hid (((Ext.refl w).alloc _).trans hE); clear hE
  rcases hf with rfl | ⟨t, x, rfl⟩
  · go_wp2
    go_ret
    exact ⟨rfl, E1.out.alloc _⟩
  · go_wp2
    go_ret
    exact ⟨rfl, E1.out.alloc _⟩
end Go.Proofs.Ytccibfldadflkaa

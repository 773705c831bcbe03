/- The texts S17 G8, joined. No statement is proved here. -/
import Derived.Test.YtggpjapmhakklaaGreatQL12
import Derived.Test.YtggpjapmhakklaaGreatQL06
set_option maxRecDepth 100000
set_option maxHeartbeats 8000000
set_option linter.unusedVariables false
set_option linter.unusedSimpArgs false
namespace Go.Proofs.YtggpjapmhakklaaGreat
open Go.Lib (hid)
open Go.RowKit
theorem blk3_set {W : World} {g : Nat} {a b c a' b' c' : Value} {t : TypeId} (h : W.heap[g]? = some (.cells #[a, b, c] t (0, 0))) :
  (((W.setCell ⟨g, 0, none⟩ a').setCell ⟨g, 1, none⟩ b').setCell ⟨g, 2, none⟩ c').heap[g]? = some (.cells #[a', b', c'] t (0, 0)) := by
 have h1 := heap_setCell_same W g 0 #[a, b, c] t a' h
 have h2 := heap_setCell_same _ g 1 _ t b' h1
 have h3 := heap_setCell_same _ g 2 _ t c' h2
 simpa using h3
theorem NdR.setOld {B : Nat} {w : World} {v : Value} {e : Ex} (h : NdR B w v e) {p : Addr} (hp : p.block < B) (u : Value) : NdR B (w.setCell p u) v e := by
 induction h with
 | num n => exact .num n
 | idx a b c d k h => exact .idx a b c d k h
 | read arr s subs h => exact .read arr s subs (h.setOld hp u)
 | op kind x y ex ey hk _ _ ihx ihy => exact .op kind x y ex ey hk ihx ihy
theorem nodeOf_five (dd : Int) (e : Ex) (u s v : Value) (w : World) (hu : IntsAt w u e.ix.1) (ha : e.arr.size ≤ 9223372036854775807) (hs : AffsAt w s e.subs) (hv : ExsAt w v e.kids) :
  Calls Tryz.prog 139 #[.agg #[.int .i64 e.kind, .int .i64 e.num, u, .int .i64 e.ix.2, .string e.arr, s, v], .int .i64 dd, .int .i64 5] w fun r w' =>
   (∃ nv, r = .returned (.tuple #[nv, .bool (shapeB 5 e dd)]) ∧ (nv = .nilIface ∨ ∃ t x, nv = .iface t x) ∧ (shapeB 5 e dd = true → NdR w.heap.size w' nv e)) ∧ Ext w w' :=
 nodeOf_all dd 5 (by omega) e u s v w hu ha hs hv
theorem statementOf_any (v : Value) (arr : ByteArray) (subs : List Aff) (e : Ex) (d : Int) (w : World) (hs : StR w v arr subs e) :
  Calls Tryz.prog 107 #[v, .int .i64 d] w fun r w' => (∃ a' p' n' c' nv, r = .returned (.tuple #[.agg #[.string a', .slice p' n' c', nv], .bool (validB arr subs e d)]) ∧ (nv = .nilIface ∨ ∃ t x, nv = .iface t x) ∧ (validB arr subs e d = true → a' = arr ∧ LinsOwn w.heap.size w' (.slice p' n' c') subs ∧ NdR w.heap.size w' nv e)) ∧ Ext w w' := by
 obtain ⟨q1, d1, q2, d2, q3, d3, q4, d4, rfl, ha, hs1, he⟩ := hs.parts
 obtain ⟨u', s', v', hcs, hu2, ha2, hs2, hv2⟩ := he.parts
 simp only [List.cons.injEq, and_true, true_and] at hcs
 obtain ⟨rfl, rfl, rfl⟩ := hcs
 have HS := hid hs1; have HU2 := hid hu2; have HS2 := hid hs2; have HV2 := hid hv2; clear hs hs1 he hu2 hs2 hv2
 obtain ⟨q, hq⟩ : ∃ q, validB arr subs e d = q := ⟨_, rfl⟩
 rw [hq]
 have HQ := hid hq; clear hq
 by_cases h0 : d < 0
 ·have hb0 : decide (d < 0) = true := by simpa using h0
  obtain rfl : q = false := by rw [← HQ.out]; unfold validB; rw [decide_eq_false (show ¬ 0 ≤ d by omega)]; rfl
  clear h0 HQ
  go_enter Tryz.func107, Tryz.ntmps107
  go_wp2
  exact bodyPost_ret (v := .tuple #[.agg #[.string ⟨#[]⟩, .slice none 0 0, .nilIface], .bool false]) (by simp [results, Tryz.results107, go_sem]) rfl ⟨⟨_, _, _, _, _, rfl, .inl rfl, fun h => by cases h⟩, ((Ext.refl w).alloc _).alloc _⟩
 have hb0 : decide (d < 0) = false := by simpa using h0
 by_cases h4 : 4 < d
 ·have hb4 : decide (4 < d) = true := by simpa using h4
  obtain rfl : q = false := by rw [← HQ.out]; unfold validB; rw [decide_eq_false (show ¬ d ≤ 4 by omega)]; simp
  clear h0 h4 HQ
  go_enter Tryz.func107, Tryz.ntmps107
  go_wp2
  exact bodyPost_ret (v := .tuple #[.agg #[.string ⟨#[]⟩, .slice none 0 0, .nilIface], .bool false]) (by simp [results, Tryz.results107, go_sem]) rfl ⟨⟨_, _, _, _, _, rfl, .inl rfl, fun h => by cases h⟩, ((Ext.refl w).alloc _).alloc _⟩
 have hb4 : decide (4 < d) = false := by simpa using h4
 have HQV : Hid (q = (accB arr subs d && (shapeB 5 e d && decide (countE 5 e ≤ 12)))) := hid (by
  rw [← HQ.out]; unfold validB; rw [decide_eq_true (show 0 ≤ d by omega), decide_eq_true (show d ≤ 4 by omega)]; simp)
 clear h0 h4 HQ
 obtain ⟨qa, hqa⟩ : ∃ qa, accB arr subs d = qa := ⟨_, rfl⟩
 obtain ⟨qs, hqs⟩ : ∃ qs, shapeB 5 e d = qs := ⟨_, rfl⟩
 have HQA := hid hqa; have HQS := hid hqs; clear hqa hqs
 go_enter Tryz.func107, Tryz.ntmps107
 go_wp2_with (fail)
 refine (elementOf_any arr _ subs d _ ha (HS.out.ext (((Ext.refl w).alloc _).alloc _))).mono ?_
 rw [HQA.out]
 rintro r W1 ⟨⟨a', p', n', c', rfl, hval⟩, hE⟩
 have E1 := hid ((((Ext.refl w).alloc _).alloc _).trans hE); have HVAL := hid hval
 have B1 := hid (hE.blk (g := w.heap.size) (blk_old (blk_at rfl))); have R1 := hid (hE.blk (g := w.heap.size + 1) (blk_at (by simp)))
 have hz1 := hE.size_le
 simp only [World.size_alloc] at hz1
 clear hE hval
 obtain ⟨-, -, y2, y3, y4, y5, y6, y7, y8⟩ := blk9 B1.out
 have hl1 := lt_of_block B1.out
 have EE : Hid (Ext W1 (W1.alloc (.cells #[.string a', .slice p' n' c'] 118))) := hid ((Ext.refl W1).alloc _)
 go_wp2_with (fail)
 refine (nodeOf_five d e _ _ _ _ (HU2.out.ext (E1.out.trans EE.out)) ha2 (HS2.out.ext (E1.out.trans EE.out)) (HV2.out.ext (E1.out.trans EE.out))).mono ?_
 rw [HQS.out]
 rintro r W2 ⟨⟨nv, rfl, hf, hnd⟩, hE⟩
 have E2 := hid ((E1.out.trans EE.out).trans hE); have HND := hid hnd; have X2 := hid (EE.out.trans hE)
 have T2 := hid (hE.blk (g := W1.heap.size) (blk_at rfl)); have R2 := hid (X2.out.blk R1.out)
 clear hE hnd y2 y3 y4 y5 y6 y7 y8 hl1 EE
 have hl2 := lt_of_block R2.out
 cases qa with
 | false =>
    obtain rfl : q = false := by rw [HQV.out, HQA.out]; rfl
    have HQ : Hid (false = false) := hid rfl
    clear HQV
    obtain ⟨r0, r1, r2⟩ := blk3 R2.out
    have rf0 := blk3f R2.out 0; have rf1 := blk3f R2.out 1; have rf2 := blk3f R2.out 2
    go_wp2
    obtain ⟨WF, hWF⟩ : ∃ WF, (((W2.setCell ⟨w.heap.size + 1, 0, none⟩ (.string ⟨#[]⟩)).setCell ⟨w.heap.size + 1, 1, none⟩ (.slice none 0 0)).setCell ⟨w.heap.size + 1, 2, none⟩ .nilIface) = WF := ⟨_, rfl⟩
    have EF : Ext w WF := by rw [← hWF]; exact ((E2.out.setCell (Nat.le_succ _) _).setCell (Nat.le_succ _) _).setCell (Nat.le_succ _) _
    obtain ⟨f0, f1, f2⟩ := blk3 (W := WF) (g := w.heap.size + 1) (by rw [← hWF]; exact blk3_set R2.out)
    rw [hWF]
    clear hWF
    exact bodyPost_ret (v := .tuple #[.agg #[.string ⟨#[]⟩, .slice none 0 0, .nilIface], .bool false]) (by simp [results, Tryz.results107, go_sem, f0, f1, f2]) rfl ⟨⟨_, _, _, _, _, by first | rfl | rw [HQ.out], (.inl rfl), fun h => by first | cases h | (rw [HQ.out] at h; cases h)⟩, EF⟩
 | true =>
  cases qs with
  | false =>
    obtain rfl : q = false := by rw [HQV.out, HQA.out, HQS.out]; rfl
    have HQ : Hid (false = false) := hid rfl
    clear HQV
    obtain ⟨r0, r1, r2⟩ := blk3 R2.out
    have rf0 := blk3f R2.out 0; have rf1 := blk3f R2.out 1; have rf2 := blk3f R2.out 2
    go_wp2
    obtain ⟨WF, hWF⟩ : ∃ WF, (((W2.setCell ⟨w.heap.size + 1, 0, none⟩ (.string ⟨#[]⟩)).setCell ⟨w.heap.size + 1, 1, none⟩ (.slice none 0 0)).setCell ⟨w.heap.size + 1, 2, none⟩ .nilIface) = WF := ⟨_, rfl⟩
    have EF : Ext w WF := by rw [← hWF]; exact ((E2.out.setCell (Nat.le_succ _) _).setCell (Nat.le_succ _) _).setCell (Nat.le_succ _) _
    obtain ⟨f0, f1, f2⟩ := blk3 (W := WF) (g := w.heap.size + 1) (by rw [← hWF]; exact blk3_set R2.out)
    rw [hWF]
    clear hWF
    exact bodyPost_ret (v := .tuple #[.agg #[.string ⟨#[]⟩, .slice none 0 0, .nilIface], .bool false]) (by simp [results, Tryz.results107, go_sem, f0, f1, f2]) rfl ⟨⟨_, _, _, _, _, by first | rfl | rw [HQ.out], (.inl rfl), fun h => by first | cases h | (rw [HQ.out] at h; cases h)⟩, EF⟩
  | true =>
   have hnd := HND.out
   simp only [forall_const] at hnd
   obtain ⟨tn, pn, rfl⟩ := hnd.iface
   have hz2 := X2.out.size_le
   have hcb := countE_bd 5 e HQS.out
   have h63 := bC_five (L := 5) (by omega)
   obtain ⟨C, hC⟩ : ∃ C, countE 5 e = C := ⟨_, rfl⟩
   have HC := hid hC
   rw [hC] at hcb
   have hC0 := hcb.1
   have hC1 : C ≤ 63 := by omega
   have HN2 := hid hnd
   obtain rfl : q = decide (C ≤ 12) := by rw [HQV.out, HQA.out, HQS.out, hC]; rfl
   clear HQV hC hcb h63 hf hnd HND
   go_wp2_with (fail)
   refine (countNodes_any d _ 5 _ e W2 (by omega) HQS.out HN2.out).mono ?_
   rw [HC.out]
   rintro r W3 ⟨rfl, hE⟩
   have E3 := hid (E2.out.trans hE); have R3 := hid (hE.blk R2.out); have T3 := hid (hE.blk T2.out); have X3 := hid (X2.out.trans hE)
   have HN3 := hid (HN2.out.ext hE)
   clear hE hl2
   have hl3 := lt_of_block R3.out
   by_cases h12 : C ≤ 12
   ·have hd12 : decide (12 < C) = false := by simp; omega
    have HQ : Hid (decide (C ≤ 12) = true) := hid (by simpa using h12)
    obtain ⟨r0, r1, r2⟩ := blk3 R3.out
    have rf0 := blk3f R3.out 0; have rf1 := blk3f R3.out 1; have rf2 := blk3f R3.out 2
    obtain ⟨t0, t1, -, -⟩ := blk2 T3.out
    clear h12
    go_wp2
    obtain ⟨WF, hWF⟩ : ∃ WF, (((W3.setCell ⟨w.heap.size + 1, 0, none⟩ (.string a')).setCell ⟨w.heap.size + 1, 1, none⟩ (.slice p' n' c')).setCell ⟨w.heap.size + 1, 2, none⟩ (.iface tn pn)) = WF := ⟨_, rfl⟩
    have EF : Ext w WF := by rw [← hWF]; exact ((E3.out.setCell (Nat.le_succ _) _).setCell (Nat.le_succ _) _).setCell (Nat.le_succ _) _
    obtain ⟨f0, f1, f2⟩ := blk3 (W := WF) (g := w.heap.size + 1) (by rw [← hWF]; exact blk3_set R3.out)
    obtain ⟨ha', ho⟩ := HVAL.out trivial
    have HO : LinsOwn w.heap.size WF (.slice p' n' c') subs := by
     rw [← hWF]
     have h := ho.ext X3.out
     simp only [World.size_alloc] at h
     exact ((((h.setOld (p := ⟨w.heap.size + 1, 0, none⟩) (by simp) _).setOld (p := ⟨w.heap.size + 1, 1, none⟩) (by simp) _).setOld (p := ⟨w.heap.size + 1, 2, none⟩) (by simp) _)).weak (by omega)
    have HN : NdR w.heap.size WF (.iface tn pn) e := by
     rw [← hWF]
     have h := HN3.out
     simp only [World.size_alloc] at h
     exact ((((h.setOld (p := ⟨w.heap.size + 1, 0, none⟩) (by simp; omega) _).setOld (p := ⟨w.heap.size + 1, 1, none⟩) (by simp; omega) _).setOld (p := ⟨w.heap.size + 1, 2, none⟩) (by simp; omega) _)).weak (by omega)
    rw [hWF]
    clear hWF
    exact bodyPost_ret (v := .tuple #[.agg #[.string a', .slice p' n' c', .iface tn pn], .bool true]) (by simp [results, Tryz.results107, go_sem, f0, f1, f2]) rfl ⟨⟨_, _, _, _, _, by rw [HQ.out], .inr ⟨_, _, rfl⟩, fun _ => ⟨ha', HO, HN⟩⟩, EF⟩
   ·have hd12 : decide (12 < C) = true := by simp; omega
    have HQ : Hid (decide (C ≤ 12) = false) := hid (by simpa using h12)
    clear h12
    obtain ⟨r0, r1, r2⟩ := blk3 R3.out
    have rf0 := blk3f R3.out 0; have rf1 := blk3f R3.out 1; have rf2 := blk3f R3.out 2
    go_wp2
    obtain ⟨WF, hWF⟩ : ∃ WF, (((W3.setCell ⟨w.heap.size + 1, 0, none⟩ (.string ⟨#[]⟩)).setCell ⟨w.heap.size + 1, 1, none⟩ (.slice none 0 0)).setCell ⟨w.heap.size + 1, 2, none⟩ .nilIface) = WF := ⟨_, rfl⟩
    have EF : Ext w WF := by rw [← hWF]; exact ((E3.out.setCell (Nat.le_succ _) _).setCell (Nat.le_succ _) _).setCell (Nat.le_succ _) _
    obtain ⟨f0, f1, f2⟩ := blk3 (W := WF) (g := w.heap.size + 1) (by rw [← hWF]; exact blk3_set R3.out)
    rw [hWF]
    clear hWF
    exact bodyPost_ret (v := .tuple #[.agg #[.string ⟨#[]⟩, .slice none 0 0, .nilIface], .bool false]) (by simp [results, Tryz.results107, go_sem, f0, f1, f2]) rfl ⟨⟨_, _, _, _, _, by first | rfl | rw [HQ.out], (.inl rfl), fun h => by first | cases h | (rw [HQ.out] at h; cases h)⟩, EF⟩
end Go.Proofs.YtggpjapmhakklaaGreat
namespace Go.Proofs.YtggpjapmhakklaaGreat
open Go.Lib (hid)
open Go.RowKit
theorem cellI_some {ar : ByteArray} {subs : List Aff} {pt : List Int} {base n : Int} {a : Arr} {r : List Arr} (h : a.1 = ar) (ho : offD a.2 (subs.map (evalA pt)) 0 = some n) : cellI ar subs pt base (a :: r) = base + n := by
 unfold cellI; rw [if_pos h, ho]
theorem cellI_none {ar : ByteArray} {subs : List Aff} {pt : List Int} {base : Int} {a : Arr} {r : List Arr} (h : a.1 = ar) (ho : offD a.2 (subs.map (evalA pt)) 0 = none) : cellI ar subs pt base (a :: r) = -1 := by
 unfold cellI; rw [if_pos h, ho]
theorem cellI_cons_ne {ar : ByteArray} {subs : List Aff} {pt : List Int} {base : Int} {a : Arr} {r : List Arr} (h : a.1 ≠ ar) : cellI ar subs pt base (a :: r) = cellI ar subs pt (base + dimsN a.2) r := by
 conv => lhs; unfold cellI
 rw [if_neg h]
theorem l4Cell_any (p : Option Addr) (n c : Nat) (ars : List Arr) (ar : ByteArray) (s pv : Value) (subs : List Aff) (pt : List Int) (w : World) (hn : ars.length = n) (ha : ArrsAt w (.slice p n c) ars) (hok : ∀ a ∈ ars, arrOkB a = true) (h4 : n ≤ 4)
  (har : arrB ar = true) (hs : AffsAt w s subs) (hsv : ∀ x ∈ subs, affValidB x.1 x.2 = true) (hsl : 1 ≤ subs.length ∧ subs.length ≤ 2) (hp : IntsAt w pv pt) (hpw : ptW pt) :
  Calls Tryz.prog 69 #[.slice p n c, .agg #[.string ar, s], pv] w fun e w' => e = .returned (.int .i64 (cellI ar subs pt 0 ars)) ∧ Ext w w' := by
 obtain ⟨ps, cs, rfl, -⟩ := hs.form
 obtain ⟨pp, cp, rfl, hpm, -⟩ := id hp
 obtain ⟨c1, rfl, -⟩ := arr_byte har
 have HA := hid ha; have HN := hid hn; have HS := hid hs; have HP := hid hp; have HOK := hid hok; have HSV := hid hsv; have HPW := hid hpw
 clear ha hn hs hp hok hsv hpw har
 obtain ⟨m, hm⟩ : ∃ m, subs.length = m := ⟨_, rfl⟩
 rw [hm] at hsl HS ⊢
 have HM := hid hm; clear hm
 obtain ⟨TOT, hT⟩ : ∃ T, cellI ⟨#[c1]⟩ subs pt 0 ars = T := ⟨_, rfl⟩
 rw [hT]
 have HT := hid hT; clear hT
 go_enter Tryz.func69, Tryz.ntmps69
 go_wp2
 obtain ⟨W0, hW0⟩ : ∃ W0, w.alloc (.cells #[.string ⟨#[c1]⟩, .slice ps m cs] 96) = W0 := ⟨_, rfl⟩
 have E0 : Hid (Ext w W0) := hid (by rw [← hW0]; exact (Ext.refl w).alloc _)
 have B0 := hid (show W0.heap[w.heap.size]? = some (.cells #[.string ⟨#[c1]⟩, .slice ps m cs] 96 (0, 0)) by rw [← hW0]; exact blk_at rfl)
 rw [hW0]
 clear hW0
 go_loopw [7, 8] (fun bs i wr => ∃ (k : Nat) (B : Int), k ≤ n ∧ i = .int .i64 k ∧ bs = .int .i64 B ∧ 0 ≤ B ∧ B ≤ 36 * (k : Int) ∧ cellI ⟨#[c1]⟩ subs pt B (ars.drop k) = TOT ∧ Ext W0 wr) (fun _ i _ => n - (intOf i).toNat)
 case atStart => exact ⟨0, 0, by omega, rfl, rfl, by omega, by omega, by simpa using HT.out, Ext.refl W0⟩
 case round =>
  obtain ⟨k, B, hk, rfl, rfl, hB0, hB1, hcell, hE⟩ := hrel
  have HC := hid hcell; have HE := hid hE
  obtain ⟨y0, y1, -, -⟩ := blk2 (hE.blk B0.out)
  clear hcell hE
  by_cases hlt : k < n
  ·obtain ⟨x, hx⟩ := get_some (xs := ars) (k := k) (by rw [HN.out]; exact hlt)
   obtain ⟨b, off, q, mm, rfl, a0, a1, hb, hsz, hr⟩ := (HA.out.ext (E0.out.trans HE.out)).elem hx
   obtain ⟨nm, ds⟩ := x
   have hxo := HOK.out (nm, ds) (List.mem_of_getElem? hx)
   obtain ⟨har, hdl, hdd⟩ := arrOk_parts hxo
   obtain ⟨b1, rfl, -⟩ := arr_byte har
   dsimp only at *
   have HDR : Hid (ars.drop k = (⟨#[b1]⟩, ds) :: ars.drop (k + 1)) := hid (drop_consG hx)
   have hdn := dimsN_bd hdl hdd
   have HX := hid hx; have HR := hid hr; have HXO := hid hxo; have HDD := hid hdd
   clear hx hr hxo har hdd
   by_cases hc : b1 = c1
   ·subst hc
    have hbc : (b1 == b1) = true := by simp
    obtain ⟨dl, hdle⟩ : ∃ dl, ds.length = dl := ⟨_, rfl⟩
    rw [hdle] at hdl a1 HR
    have HDL := hid hdle; clear hdle
    by_cases hle : m = dl
    ·subst hle
     obtain ⟨R, hR⟩ : ∃ R, offD ds (subs.map (evalA pt)) 0 = R := ⟨_, rfl⟩
     have HRR := hid hR; clear hR
     have hne : ((m : Int) != (m : Int)) = false := by simp
     go_wp2
     go_quiet (fail)
     go_wp2
     obtain ⟨W1, hW1⟩ : ∃ W1, wr.drewN nq = W1 := ⟨_, rfl⟩
     have E1 : Hid (Ext W0 W1) := hid (by rw [← hW1]; exact HE.out.drewN _)
     have EW : Hid (Ext wr W1) := hid (by rw [← hW1]; exact (Ext.refl wr).drewN _)
     rw [hW1]
     have HA1 := hid a1
     clear hW1 a0 a1 y0 y1
     go_loopw [9, 10] (fun nv i wq => ∃ (j : Nat) (N : Int), j ≤ m ∧ i = .int .i64 j ∧ nv = .int .i64 N ∧ 0 ≤ N ∧ (j = 0 → N = 0) ∧ (j = 1 → N ≤ 5) ∧ N ≤ 35 ∧ offD (ds.drop j) ((subs.drop j).map (evalA pt)) N = R ∧ Ext W1 wq) (fun _ i _ => m - (intOf i).toNat)
     case atStart => exact ⟨0, 0, by omega, rfl, rfl, by omega, by omega, by omega, by omega, by simpa using HRR.out, Ext.refl W1⟩
     case round =>
      obtain ⟨j, N, hj, rfl, rfl, hN0, hj0, hj1, hN1, hoff, hEq⟩ := hrel
      have HO := hid hoff; have HQ1 := hid hEq; have HEQ := hid (E1.out.trans hEq); have HEW := hid (EW.out.trans hEq)
      obtain ⟨y0, y1, -, -⟩ := blk2 (HEQ.out.blk B0.out)
      clear hoff hEq
      by_cases hjm : j < m
      ·obtain ⟨x, hx⟩ := get_some (xs := subs) (k := j) (by rw [HM.out]; exact hjm)
       obtain ⟨bs, os, qx, mx, rfl, s0, s1, hbs, hrx⟩ := (HS.out.ext (E0.out.trans HEQ.out)).elem hx
       obtain ⟨d, hd⟩ := get_some (xs := ds) (k := j) (by rw [HDL.out]; exact hjm)
       obtain ⟨q', m', e', -, hdc⟩ := (HR.out.ext HEW.out).get
       simp only [Value.slice.injEq] at e'
       obtain ⟨rfl, -, rfl⟩ := e'
       obtain ⟨bd, od, rfl, cd, hbd⟩ := hdc j d hd
       have hdd := HDD.out d (List.mem_of_getElem? hd)
       have hv := HSV.out x (List.mem_of_getElem? hx)
       have HDX := hid (drop_consG hx); have HDD2 := hid (drop_consG hd)
       obtain ⟨xs, kk⟩ := x
       obtain ⟨xa, xb, xc, xd, hxs, -⟩ := valid_four hv
       dsimp only at hxs s0 s1 hrx hv
       subst hxs
       have hvb := evalA_W (a := ([xa, xb, xc, xd], kk)) hv HPW.out
       have HV := hid hv; have HRX := hid hrx
       have a1' := HEW.out.keep HA1.out
       obtain ⟨V, hV⟩ : ∃ V, evalA pt ([xa, xb, xc, xd], kk) = V := ⟨_, rfl⟩
       rw [hV] at hvb
       have HVE : Hid (evalK [xa, xb, xc, xd] pt kk pt.length = V) := hid hV
       have HOV : Hid (offD (d :: ds.drop (j + 1)) (V :: (subs.drop (j + 1)).map (evalA pt)) N = R) := hid (by
        have h := HO.out
        rw [HDX.out, HDD2.out, List.map_cons, hV] at h
        exact h)
       have hjm' : (j : Int) < (m : Int) := by omega
       clear hx hd hdc hv hrx hV
       go_wp2
       go_quiet (fail)
       go_wp2_with (fail)
       have EQ : Ext wr (wr.drewN nq) := (Ext.refl wr).drewN _
       refine (l1EvalW_any xa xb xc xd kk _ _ pt _ (HRX.out.ext EQ) (HP.out.ext ((E0.out.trans HEQ.out).trans EQ)) HV.out HPW.out).mono ?_
       rw [HVE.out]
       rintro e w2 ⟨rfl, hE2⟩
       have hE3 := EQ.trans hE2
       have E3 := hid (HEQ.out.trans hE3); have cd3 := hE3.keep cd; have a13 := hE3.keep a1'
       have y03 := hE3.keep y0; have y13 := hE3.keep y1
       have E4 : Hid (Ext W1 w2) := hid (HQ1.out.trans hE3)
       clear hE2 hE3 EQ cd a1' y0 y1 s0 s1
       by_cases hv0 : V < 0
       ·have hb0 : decide (V < 0) = true := by simpa using hv0
        have HRN : Hid (TOT = -1) := hid (by
         have h1 := HOV.out
         simp only [offD] at h1
         rw [if_neg (by omega)] at h1
         have h2 := HC.out
         rw [HDR.out, cellI_none (a := (⟨#[b1]⟩, ds)) rfl (by rw [HRR.out]; exact h1.symm)] at h2
         exact h2.symm)
        go_wp2
        go_ret
        exact ⟨ret_int HRN.out.symm, E0.out.trans E3.out⟩
       ·have hb0 : decide (V < 0) = false := by simpa using hv0
        by_cases hvd : d ≤ V
        ·have hb1 : decide (d ≤ V) = true := by simpa using hvd
         have HRN : Hid (TOT = -1) := hid (by
          have h1 := HOV.out
          simp only [offD] at h1
          rw [if_neg (by omega)] at h1
          have h2 := HC.out
          rw [HDR.out, cellI_none (a := (⟨#[b1]⟩, ds)) rfl (by rw [HRR.out]; exact h1.symm)] at h2
          exact h2.symm)
         go_wp2
         go_ret
         exact ⟨ret_int HRN.out.symm, E0.out.trans E3.out⟩
        ·have hb1 : decide (d ≤ V) = false := by simpa using hvd
         have HON : Hid (offD (ds.drop (j + 1)) ((subs.drop (j + 1)).map (evalA pt)) (N * d + V) = R) := hid (by
          have h1 := HOV.out
          simp only [offD] at h1
          rw [if_pos (by omega)] at h1
          exact h1)
         have hnd0 : 0 ≤ N * d := Int.mul_nonneg hN0 (by omega)
         have hnd1 : N * d ≤ 30 ∧ (j = 0 → N * d = 0) := by
          rcases Nat.lt_or_ge j 1 with h | h
          ·have := hj0 (by omega); subst this; simp
          ·have h5 : N ≤ 5 := hj1 (by omega)
           have a := Int.mul_nonneg (a := 5 - N) (b := d) (by omega) (by omega)
           simp only [Int.sub_mul] at a
           exact ⟨by omega, by omega⟩
         generalize hND : N * d = ND at *
         go_wp2
         go_roundw
         case rel => exact ⟨j + 1, ND + V, by omega, by go_num, by go_num, by omega, by omega, by omega, by omega, HON.out, E4.out⟩
         case measure => simp [intOf]; omega
      ·obtain rfl : j = m := by omega
       have HRN : Hid (TOT = B + N) := hid (by
        have h1 := HO.out
        rw [List.drop_of_length_le (by rw [HDL.out]; omega), List.drop_of_length_le (by rw [HM.out]; omega)] at h1
        simp only [offD, List.map_nil] at h1
        have h2 := HC.out
        rw [HDR.out, cellI_some (a := (⟨#[b1]⟩, ds)) rfl (by rw [HRR.out]; exact h1.symm)] at h2
        exact h2.symm)
       have HEF := hid (E0.out.trans HEQ.out)
       go_wp2
       go_ret
       exact ⟨ret_int HRN.out.symm, HEF.out⟩
    ·have hne : ((m : Int) != (dl : Int)) = true := by simp; omega
     have HRN : Hid (TOT = -1) := hid (by
      have h2 := HC.out
      rw [HDR.out, cellI_none (a := (⟨#[b1]⟩, ds)) rfl (by
       cases ho : offD ds (subs.map (evalA pt)) 0 with
       | none => rfl
       | some r => exact absurd (offD_len ho) (by rw [HDL.out, List.length_map, HM.out]; omega))] at h2
      exact h2.symm)
     clear hle
     go_wp2
     go_quiet (fail)
     go_wp2
     obtain ⟨W1, hW1⟩ : ∃ W1, wr.drewN nq = W1 := ⟨_, rfl⟩
     have E1 : Hid (Ext W0 W1) := hid (by rw [← hW1]; exact HE.out.drewN _)
     have EW : Hid (Ext wr W1) := hid (by rw [← hW1]; exact (Ext.refl wr).drewN _)
     rw [hW1]
     clear hW1 y0 y1
     obtain ⟨y0, y1, -, -⟩ := blk2 (E1.out.blk B0.out)
     have a1' := EW.out.keep a1
     clear a0 a1
     have hm0 : (0 : Int) < (m : Int) := by omega
     refine wp_loop_rounds 2 ?_
     rw [rounds_succ]; go_wp2
     go_quiet (fail)
     go_wp2
     go_ret
     exact ⟨ret_int HRN.out.symm, (E0.out.trans E1.out).drewN _⟩
   ·have HC2 : Hid (cellI ⟨#[c1]⟩ subs pt (B + dimsN ds) (ars.drop (k + 1)) = TOT) := hid (by
     have h := HC.out
     rw [HDR.out, cellI_cons_ne (by simpa using hc)] at h
     exact h)
    have hbc : (b1 == c1) = false := by simpa using hc
    clear hc
    go_wp2
    go_quiet (fail)
    go_wp2_with (fail)
    refine (l4Size_any ⟨#[b1]⟩ ds _ _ (HR.out.ext ((Ext.refl wr).drewN nq)) HXO.out).mono ?_
    rintro e w1 ⟨rfl, hE1⟩
    have HE1 := hid ((HE.out.drewN nq).trans hE1)
    clear hE1 y0 y1
    generalize dimsN ds = D at *
    go_wp2
    go_roundw
    case rel => exact ⟨k + 1, B + D, by omega, by go_num, by go_num, by omega, by omega, HC2.out, HE1.out⟩
    case measure => simp [intOf]; omega
  ·obtain rfl : k = n := by omega
   have HRN : Hid (TOT = -1) := hid (by
    have h2 := HC.out
    rw [List.drop_of_length_le (by rw [HN.out]; omega)] at h2
    exact h2.symm)
   have HEF := hid (E0.out.trans HE.out)
   go_wp2
   go_ret
   exact ⟨ret_int HRN.out.symm, HEF.out⟩
end Go.Proofs.YtggpjapmhakklaaGreat

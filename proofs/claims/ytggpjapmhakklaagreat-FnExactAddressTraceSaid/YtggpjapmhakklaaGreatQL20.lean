/- The texts G11, joined. No statement is proved here. -/
import Derived.Test.YtggpjapmhakklaaGreatQL18
import Derived.Test.YtggpjapmhakklaaGreatQL26
import Derived.Test.YtggpjapmhakklaaGreatQL24
import Derived.Test.YtggpjapmhakklaaGreatQL22
import Derived.Test.YtggpjapmhakklaaGreatQL27
set_option maxRecDepth 100000
set_option maxHeartbeats 8000000
set_option linter.unusedVariables false
set_option linter.unusedSimpArgs false
namespace Go.Proofs.YtggpjapmhakklaaGreat
open Go.Lib (hid)
open Go.RowKit
theorem nptsL_W {ls : List Lp} (h : nptsB ls = true) {x : List Int} (hx : x ∈ nptsL ls) : ptW x ∧ x.length = ls.length := by
 have hl := ((nptsL_iff h x).1 hx).1
 have h4 := (nestB_iff.1 (nptsB_nest h)).1
 exact ⟨ptW_PB (npts_PB hx) (by omega), hl⟩
def pNum (ars : List Arr) (x : Pt) : Int := if partB ars x = true then (partN x : Int) else 0
theorem pNum_no {ars : List Arr} {x : Pt} (h : partB ars x = false) : pNum ars x = 0 := by unfold pNum; rw [h]; rfl
theorem pNum_yes {ars : List Arr} {x : Pt} (h : partB ars x = true) : pNum ars x = (partN x : Int) := by unfold pNum; rw [h]; rfl
theorem partB_no1 {ars : List Arr} {p : Pt} (h : nptsB p.1 = false) : partB ars p = false := by simp [partB, h]
theorem partB_no2 {ars : List Arr} {p : Pt} (h : ¬ (1 ≤ p.2.length ∧ p.2.length ≤ 4)) : partB ars p = false := by unfold partB; rw [decide_eq_false h]; simp
theorem partB_no3 {ars : List Arr} {p : Pt} {i : Nat} {s : St} (hs : p.2[i]? = some s) (h : stOkB ars p s = false) : partB ars p = false := by
 unfold partB; rw [all_false_of (p := stOkB ars p) hs h]; simp
theorem l4Part_any (p : Option Addr) (n c : Nat) (ars : List Arr) (u0 u1 : Value) (x : Pt) (w : World) (hn : ars.length = n) (ha : ArrsAt w (.slice p n c) ars) (hok : ∀ a ∈ ars, arrOkB a = true) (h4 : n ≤ 4) (hu0 : LoopsAt w u0 x.1) (hu1 : StmtsAt w u1 x.2) :
  Calls Tryz.prog 38 #[.slice p n c, .agg #[u0, u1]] w fun e w' => e = .returned (.tuple #[.int .i64 (pNum ars x), .bool (partB ars x)]) ∧ Ext w w' := by
 obtain ⟨pn, cn, rfl, hnm⟩ := hu0.form
 obtain ⟨pb, cb, rfl, hbm⟩ := hu1.form
 obtain ⟨nn, hnn⟩ : ∃ nn, x.1.length = nn := ⟨_, rfl⟩
 obtain ⟨nb, hnb⟩ : ∃ nb, x.2.length = nb := ⟨_, rfl⟩
 rw [hnn] at hu0 hnm ⊢
 rw [hnb] at hu1 hbm ⊢
 have HA := hid ha; have HN := hid hn; have HOK := hid hok; have HU0 := hid hu0; have HU1 := hid hu1; have HNN := hid hnn; have HNB := hid hnb
 clear ha hn hok hu0 hu1 hnn hnb
 go_enter Tryz.func38, Tryz.ntmps38
 go_wp2_with (fail)
 obtain ⟨W0, hW0⟩ : ∃ W0, w.alloc (.cells #[.slice pn nn cn, .slice pb nb cb] 91) = W0 := ⟨_, rfl⟩
 have E0 : Hid (Ext w W0) := hid (by rw [← hW0]; exact (Ext.refl w).alloc _)
 have B0 := hid (show W0.heap[w.heap.size]? = some (.cells #[.slice pn nn cn, .slice pb nb cb] 91 (0, 0)) by rw [← hW0]; exact blk_at rfl)
 rw [hW0]
 clear hW0
 refine (specNestPoints_any pn nn cn x.1 _ HNN.out (HU0.out.ext E0.out)).mono ?_
 rintro e W1 ⟨⟨v', b, rfl, hb, hpts⟩, hE1⟩
 have B1 := hid (hE1.blk B0.out); have E1 := hid (E0.out.trans hE1)
 obtain ⟨pp, cp, rfl⟩ := PtsOwn.slice hpts
 have hnp : (nptsL x.1).length ≤ 120 := nptsL_len
 obtain ⟨np, hnpe⟩ : ∃ np, (nptsL x.1).length = np := ⟨_, rfl⟩
 have hpa := hpts.at (by omega)
 rw [hnpe] at hpa hnp ⊢
 have HPT := hid hpa; have HNP := hid hnpe
 obtain ⟨y0, y1, -, -⟩ := blk2 B1.out
 clear hE1 hpts hpa hnpe
 cases b with
 | false =>
  have HRF : Hid (partB ars x = false) := hid (partB_no1 hb.symm)
  clear hb
  go_wp2
  exact bodyPost_ret (v := .tuple #[.int .i64 0, .bool false]) (by simp [results, Tryz.results38, go_sem]) rfl ⟨by rw [HRF.out, pNum_no HRF.out], E1.out⟩
 | true =>
  have HB := hid hb.symm
  clear hb
  by_cases hb1 : 1 ≤ nb
  ·have hq1 : decide ((nb : Int) < 1) = false := by simp; omega
   by_cases hb4 : nb ≤ 4
   ·have hq4 : decide ((4 : Int) < (nb : Int)) = false := by simp; omega
    clear y0 y1
    obtain ⟨y0, y1, -, -⟩ := blk2 B1.out
    go_wp2
    clear y0 y1
    go_loopw [8] (fun iv wr => ∃ i : Nat, i ≤ nb ∧ iv = .int .i64 i ∧ (x.2.take i).all (stOkB ars x) = true ∧ Ext W1 wr) (fun iv _ => nb - (intOf iv).toNat)
    case atStart => exact ⟨0, by omega, rfl, by simp, Ext.refl W1⟩
    case round =>
     obtain ⟨i, hi, rfl, hall, hE⟩ := hrel
     have HALL := hid hall; have HE := hid hE; have HEW := hid (E1.out.trans hE)
     obtain ⟨y0, y1, -, -⟩ := blk2 (hE.blk B1.out)
     clear hall hE
     by_cases hib : i < nb
     ·obtain ⟨s, hs⟩ := get_some (xs := x.2) (k := i) (by rw [HNB.out]; exact hib)
      obtain ⟨bb, bo, q1, d1, q2, d2, q3, d3, q4, d4, rfl, c0, c1, c2, c3, c4, c5, c6, c7, c8, hbb, hst, -⟩ := (HU1.out.ext HEW.out).elem' hs
      have HS := hid hs; have HST := hid hst
      have hiI : (i : Int) < (nb : Int) := by omega
      clear hs hst
      obtain ⟨vb, hvb⟩ : ∃ vb, validB s.1 s.2.1 s.2.2 (nn : Int) = vb := ⟨_, rfl⟩
      have HVB := hid hvb; clear hvb
      go_wp2_with (fail)
      go_region_held3 (fun W => W.cell? ⟨w.heap.size, 0, none⟩ = some (.slice pn nn cn) ∧ W.cell? ⟨w.heap.size, 1, none⟩ = some (.slice (some ⟨bb, bo, none⟩) nb cb) ∧ W.cell? ⟨bb, bo + i * 9, none⟩ = some (.string s.1) ∧ W.cell? ⟨bb, bo + i * 9 + 1, none⟩ = some (.slice q1 s.2.1.length d1) ∧ W.cell? ⟨bb, bo + i * 9 + 2, none⟩ = some (.int .i64 s.2.2.kind) ∧ W.cell? ⟨bb, bo + i * 9 + 3, none⟩ = some (.int .i64 s.2.2.num) ∧ W.cell? ⟨bb, bo + i * 9 + 4, none⟩ = some (.slice q2 s.2.2.ix.1.length d2) ∧ W.cell? ⟨bb, bo + i * 9 + 5, none⟩ = some (.int .i64 s.2.2.ix.2) ∧ W.cell? ⟨bb, bo + i * 9 + 6, none⟩ = some (.string s.2.2.arr) ∧ W.cell? ⟨bb, bo + i * 9 + 7, none⟩ = some (.slice q3 s.2.2.subs.length d3) ∧ W.cell? ⟨bb, bo + i * 9 + 8, none⟩ = some (.slice q4 s.2.2.kids.length d4))
       (first | exact ⟨y0, y1, c0, c1, c2, c3, c4, c5, c6, c7, c8⟩ | exact ⟨g3.keep y0, g3.keep y1, g3.keep c0, g3.keep c1, g3.keep c2, g3.keep c3, g3.keep c4, g3.keep c5, g3.keep c6, g3.keep c7, g3.keep c8⟩ | fail)
       (first | (go_at_call 66; (with_reducible refine (specStmtValid_any _ s.1 s.2.1 s.2.2 (nn : Int) _ (HST.out.ext (Ext.refl wr).drew)).mono ?_); rw [HVB.out]; rintro e w3 ⟨rfl, hE3⟩; have g3 := (Ext.refl wr).drew.trans hE3) | fail)
      have HE3 := hid (HE.out.trans g3); have HEW3 := hid (HEW.out.trans g3); have HST3 := hid (HST.out.ext g3)
      cases vb with
      | false =>
       have HRF : Hid (partB ars x = false) := hid (partB_no3 HS.out (by unfold stOkB; rw [HNN.out, HVB.out]; rfl))
       clear y0 y1 c0 c1 c2 c3 c4 c5 c6 c7 c8
       go_wp2
       exact bodyPost_ret (v := .tuple #[.int .i64 0, .bool false]) (by simp [results, Tryz.results38, go_sem]) rfl ⟨by rw [HRF.out, pNum_no HRF.out], HEW3.out⟩
      | true =>
       simp only [Bool.not_true]
       replace c0 := g3.keep c0; replace c1 := g3.keep c1; replace c2 := g3.keep c2; replace c3 := g3.keep c3; replace c4 := g3.keep c4; replace c5 := g3.keep c5; replace c6 := g3.keep c6; replace c7 := g3.keep c7; replace c8 := g3.keep c8
       have C0 := hid c0; have C1 := hid c1; have C2 := hid c2; have C3 := hid c3; have C4 := hid c4; have C5 := hid c5; have C6 := hid c6; have C7 := hid c7; have C8 := hid c8
       have B3 := hid (HE3.out.blk B1.out)
       clear y0 y1 c0 c1 c2 c3 c4 c5 c6 c7 c8 g3
       go_wp2
       go_loopw [9] (fun kv wq => ∃ k : Nat, k ≤ np ∧ kv = .int .i64 k ∧ ((nptsL x.1).take k).all (fun pt => cellsOk ars s pt && ptB pt) = true ∧ Ext w3 wq) (fun kv _ => np - (intOf kv).toNat)
       case atStart => exact ⟨0, by omega, rfl, by simp, Ext.refl w3⟩
       case round =>
        obtain ⟨k, hk, rfl, hall, hE⟩ := hrel
        have HAL := hid hall; have HQ := hid hE; have HQ1 := hid (HE3.out.trans hE); have HQW := hid (HEW3.out.trans hE)
        obtain ⟨y0, y1, -, -⟩ := blk2 (hE.blk B3.out)
        have c0 := hE.keep C0.out; have c1 := hE.keep C1.out; have c2 := hE.keep C2.out; have c3 := hE.keep C3.out; have c4 := hE.keep C4.out; have c5 := hE.keep C5.out; have c6 := hE.keep C6.out; have c7 := hE.keep C7.out; have c8 := hE.keep C8.out
        clear hall hE
        by_cases hkn : k < np
        ·obtain ⟨pt, hpt⟩ := get_some (xs := nptsL x.1) (k := k) (by rw [HNP.out]; exact hkn)
         obtain ⟨gp, up, rfl, cp0, hgp, hip⟩ := (HPT.out.ext HQ1.out).elem hpt
         obtain ⟨qp, dp, rfl, hpl, -⟩ := id hip
         have hptw := (nptsL_W HB.out (List.mem_of_getElem? hpt)).1
         have HPTX := hid hpt; have HIP := hid hip; have HPW := hid hptw
         have hkI : (k : Int) < (np : Int) := by omega
         have hSTQ := HST3.out.ext HQ.out
         have HSTQ := hid hSTQ
         clear hpt hip hptw hSTQ
         obtain ⟨ck, hck⟩ : ∃ ck, cellsOk ars s pt = ck := ⟨_, rfl⟩
         have HCK := hid hck; clear hck
         go_wp2_with (fail)
         go_region_held3 (fun W => W.cell? ⟨w.heap.size, 0, none⟩ = some (.slice pn nn cn) ∧ W.cell? ⟨w.heap.size, 1, none⟩ = some (.slice (some ⟨bb, bo, none⟩) nb cb) ∧ W.cell? ⟨bb, bo + i * 9, none⟩ = some (.string s.1) ∧ W.cell? ⟨bb, bo + i * 9 + 1, none⟩ = some (.slice q1 s.2.1.length d1) ∧ W.cell? ⟨bb, bo + i * 9 + 2, none⟩ = some (.int .i64 s.2.2.kind) ∧ W.cell? ⟨bb, bo + i * 9 + 3, none⟩ = some (.int .i64 s.2.2.num) ∧ W.cell? ⟨bb, bo + i * 9 + 4, none⟩ = some (.slice q2 s.2.2.ix.1.length d2) ∧ W.cell? ⟨bb, bo + i * 9 + 5, none⟩ = some (.int .i64 s.2.2.ix.2) ∧ W.cell? ⟨bb, bo + i * 9 + 6, none⟩ = some (.string s.2.2.arr) ∧ W.cell? ⟨bb, bo + i * 9 + 7, none⟩ = some (.slice q3 s.2.2.subs.length d3) ∧ W.cell? ⟨bb, bo + i * 9 + 8, none⟩ = some (.slice q4 s.2.2.kids.length d4) ∧ W.cell? ⟨gp, k, none⟩ = some (.slice qp pt.length dp))
          (first | exact ⟨y0, y1, c0, c1, c2, c3, c4, c5, c6, c7, c8, cp0⟩ | exact ⟨g3.keep y0, g3.keep y1, g3.keep c0, g3.keep c1, g3.keep c2, g3.keep c3, g3.keep c4, g3.keep c5, g3.keep c6, g3.keep c7, g3.keep c8, g3.keep cp0⟩ | fail)
          (first | (go_at_call 39; (with_reducible refine (l4Cells_any p n c ars _ _ s pt (nn : Int) _ HN.out ((HA.out.ext HQW.out).ext (Ext.refl wr).drew) HOK.out h4 (HSTQ.out.ext (Ext.refl wr).drew) HVB.out (HIP.out.ext (Ext.refl wr).drew) HPW.out).mono ?_); rw [HCK.out]; rintro e w5 ⟨⟨v5, cw5, rfl, -, -⟩, hE5⟩; have g3 := (Ext.refl wr).drew.trans hE5) | fail)
         have HG := hid g3
         cases ck with
         | false =>
          have HRF : Hid (partB ars x = false) := hid (partB_no3 HS.out (by unfold stOkB; rw [all_false_of (p := fun pt => cellsOk ars s pt && ptB pt) HPTX.out (by rw [HCK.out]; rfl)]; simp))
          have HEF := hid (HQW.out.trans g3)
          clear y0 y1 c0 c1 c2 c3 c4 c5 c6 c7 c8 cp0 g3
          go_wp2
          exact bodyPost_ret (v := .tuple #[.int .i64 0, .bool false]) (by simp [results, Tryz.results38, go_sem]) rfl ⟨by rw [HRF.out, pNum_no HRF.out], HEF.out⟩
         | true =>
          replace cp0 := g3.keep cp0
          have HIP5 := hid (HIP.out.ext g3)
          have HQ5 := hid (HQ.out.trans g3); have HEF := hid (HQW.out.trans g3)
          obtain ⟨vp, hvp⟩ : ∃ vp, ptB pt = vp := ⟨_, rfl⟩
          have HVP := hid hvp
          clear y0 y1 c0 c1 c2 c3 c4 c5 c6 c7 c8 g3 hvp
          go_wp2_with (fail)
          refine (l1Point_any _ pt _ HIP5.out).mono ?_
          rw [HVP.out]
          rintro e w6 ⟨rfl, rfl⟩
          cases vp with
          | false =>
           have HRF : Hid (partB ars x = false) := hid (partB_no3 HS.out (by unfold stOkB; rw [all_false_of (p := fun pt => cellsOk ars s pt && ptB pt) HPTX.out (by rw [HVP.out]; simp)]; simp))
           go_wp2
           exact bodyPost_ret (v := .tuple #[.int .i64 0, .bool false]) (by simp [results, Tryz.results38, go_sem]) rfl ⟨by rw [HRF.out, pNum_no HRF.out], HEF.out⟩
          | true =>
           have HAL2 := hid (all_take_next (p := fun pt => cellsOk ars s pt && ptB pt) HPTX.out HAL.out (by rw [HCK.out, HVP.out]; rfl))
           clear cp0
           go_wp2
           go_roundw
           case rel => exact ⟨k + 1, by omega, by go_num, HAL2.out, HQ5.out⟩
           case measure => simp [intOf]; omega
        ·obtain rfl : k = np := by omega
         have HST2 : Hid (stOkB ars x s = true) := hid (by
          have h := HAL.out
          rw [List.take_of_length_le (by rw [HNP.out]; omega)] at h
          unfold stOkB
          rw [HNN.out, HVB.out, h]; rfl)
         have HALL2 := hid (all_take_next (p := stOkB ars x) HS.out HALL.out HST2.out)
         clear y0 y1 c0 c1 c2 c3 c4 c5 c6 c7 c8
         go_wp2
         go_roundw
         case rel => exact ⟨i + 1, by omega, by go_num, HALL2.out, HQ1.out⟩
         case measure => simp [intOf]; omega
     ·obtain rfl : i = nb := by omega
      have HRT : Hid (partB ars x = true) := hid (by
       have h := HALL.out
       rw [List.take_of_length_le (by rw [HNB.out]; omega)] at h
       unfold partB
       rw [HB.out, h, decide_eq_true (by rw [HNB.out]; exact ⟨hb1, hb4⟩)]; rfl)
      have HPN : Hid (((np : Int)) * (i : Int) = pNum ars x) := hid (by rw [pNum_yes HRT.out]; unfold partN; rw [HNP.out, HNB.out]; simp)
      have hml := Int.mul_nonneg (a := (120 : Int) - np) (b := (i : Int)) (by omega) (by omega)
      have hml2 := Int.mul_nonneg (a := (np : Int)) (b := (i : Int)) (by omega) (by omega)
      simp only [Int.sub_mul] at hml
      obtain ⟨PN, hPN⟩ : ∃ PN, (np : Int) * (i : Int) = PN := ⟨_, rfl⟩
      rw [hPN] at hml hml2
      have HPN2 : Hid (PN = pNum ars x) := hid (by rw [← hPN]; exact HPN.out)
      clear HPN
      go_wp2
      exact bodyPost_ret (v := .tuple #[.int .i64 PN, .bool true]) (by simp [results, Tryz.results38, go_sem]) rfl ⟨by rw [HRT.out, HPN2.out], HEW.out⟩
   ·have hq4 : decide ((4 : Int) < (nb : Int)) = true := by simp; omega
    have HRF : Hid (partB ars x = false) := hid (partB_no2 (by rw [HNB.out]; omega))
    go_wp2
    exact bodyPost_ret (v := .tuple #[.int .i64 0, .bool false]) (by simp [results, Tryz.results38, go_sem]) rfl ⟨by rw [HRF.out, pNum_no HRF.out], E1.out⟩
  ·have hq1 : decide ((nb : Int) < 1) = true := by simp; omega
   have HRF : Hid (partB ars x = false) := hid (partB_no2 (by rw [HNB.out]; omega))
   go_wp2
   exact bodyPost_ret (v := .tuple #[.int .i64 0, .bool false]) (by simp [results, Tryz.results38, go_sem]) rfl ⟨by rw [HRF.out, pNum_no HRF.out], E1.out⟩
end Go.Proofs.YtggpjapmhakklaaGreat

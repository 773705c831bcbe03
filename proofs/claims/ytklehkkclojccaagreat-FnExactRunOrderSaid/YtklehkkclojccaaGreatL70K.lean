/- FnExactRunOrder: RunOrder answers as its model at every argument: the walk. -/
import Derived.Test.YtklehkkclojccaaGreatK50
import Derived.Test.YtklehkkclojccaaGreatK51
import Derived.Test.YtklehkkclojccaaGreatK26
import Derived.Test.YtklehkkclojccaaGreatK44
import Derived.Test.YtklehkkclojccaaGreatK28
namespace Go.Proofs.YtklehkkclojccaaGreat
open Go.RowKit

theorem Mk.extW {B : Nat} {W w0 a b : World} (h : Mk B w0 a b) (hE : Ext W a) (hB : W.heap.size ≤ B) : Ext W b :=
  ⟨h.lv.os.trans hE.os, h.lv.tape.trans hE.tape, h.lv.output.trans hE.output, Nat.le_trans hE.size h.lv.size, fun i hi => (h.lv.block i (Nat.lt_of_lt_of_le hi hE.size) (fun hd => by omega)).trans (hE.block i hi)⟩
theorem roR_len (ars : List Arr) (ps : List Pt) (xs os : List Int) : (roR ars ps xs os).length ≤ 1000000 := by
  unfold roR
  by_cases hb : roOk ars ps xs os = true
  · rw [if_pos hb, runM_len]
    have hm : memB ars ps xs = true := by unfold roOk at hb; simp only [Bool.and_eq_true] at hb; exact hb.1
    obtain ⟨-, hprog, hlen⟩ := memB_parts hm
    have htb := totN_bd (ars := ars) (by have h := progB_arrs hprog; simp only [arrsB, Bool.and_eq_true, List.all_eq_true] at h; exact h.1)
    have hal := arrs_len (progB_arrs hprog)
    omega
  · rw [if_neg hb]; simp
set_option maxRecDepth 100000 in
set_option maxHeartbeats 8000000 in
theorem walk0FnExactRunOrder (hrl : ∀ ars ps xs os, (roR ars ps xs os).length ≤ 1000000) (v s s2 : Value) (ars : List Arr) (ps : List Pt) (xs os : List Int) (w : World) (hs : PrR w v ars ps) (hx : IntsAt w s xs) (ho : IntsAt w s2 os) :
    Calls Tryz.prog 4 #[v, s, s2] w fun r w' => r = .returned (.bool true) ∧ Ext w w' := by
  have HS := Lib.hid hs; have HX := Lib.hid hx; have HY := Lib.hid ho
  obtain ⟨rs, hrs⟩ : ∃ rs, roR ars ps xs os = rs := ⟨_, rfl⟩
  obtain ⟨rb, hrb⟩ : ∃ rb, roOk ars ps xs os = rb := ⟨_, rfl⟩
  have hnb : (rb != rb) = false := by simp
  have HRS := Lib.hid hrs; have HRB := Lib.hid hrb; have HRL : Hid (rs.length ≤ 1000000) := Lib.hid (by rw [← hrs]; exact hrl ars ps xs os)
  clear hrs hrb hrl
  obtain ⟨q1, c1, q2, c2, rfl, -, -, -, -⟩ := hs.parts
  obtain ⟨qm, cm, rfl, hmm, -⟩ := id hx
  obtain ⟨qo, co, rfl, hoo, -⟩ := id ho
  obtain ⟨na, hna⟩ : ∃ n, ars.length = n := ⟨_, rfl⟩
  obtain ⟨np, hnp⟩ : ∃ n, ps.length = n := ⟨_, rfl⟩
  obtain ⟨nm, hnm⟩ : ∃ n, xs.length = n := ⟨_, rfl⟩
  obtain ⟨no, hno⟩ : ∃ n, os.length = n := ⟨_, rfl⟩
  rw [hna, hnp] at HS ⊢
  rw [hnm] at HX hmm ⊢
  rw [hno] at HY hoo ⊢
  have HNA := Lib.hid hna; have HNP := Lib.hid hnp; have HNM := Lib.hid hnm; have HNO := Lib.hid hno
  clear hs hx ho hna hnp hnm hno
  by_cases hbig : (1048576 : Int) < nm
  · go_enter Tryz.func4, Tryz.ntmps4
    go_wp2
    go_ret
    exact ⟨rfl, (Ext.refl w).alloc _⟩
  · have hnm20 : nm ≤ 1048576 := by omega
    by_cases hbig2 : (1048576 : Int) < no
    · go_enter Tryz.func4, Tryz.ntmps4
      go_wp2
      go_ret
      exact ⟨rfl, (Ext.refl w).alloc _⟩
    have hno20 : no ≤ 1048576 := by omega
    go_enter Tryz.func4, Tryz.ntmps4
    go_wp2_with (fail)
    refine (szProgramW_any _ ars ps _ _ (HS.out.ext ((Ext.refl w).alloc _)) (by omega) (by omega)).mono ?_
    rintro r w1 ⟨⟨z, rfl, hz⟩, hE⟩
    have A1 := Lib.hid (hE.blk (g := w.heap.size) (blk_at rfl)); have E1 := Lib.hid (((Ext.refl w).alloc _).trans hE)
    clear hE
    rcases hz with rfl | ⟨z0, z1, hcp, hsa, hsp⟩
    · go_wp2_with (fail)
      go_ret
      exact ⟨rfl, E1.out⟩
    · have HSA := Lib.hid hsa; have HSP := Lib.hid hsp; have HCP := Lib.hid hcp; clear hsa hsp hcp
      have hzn : decide (z < 0) = false := by simp; omega
      obtain ⟨y0, y1, -, -⟩ := blk2 A1.out
      go_wp2_with (fail)
      refine (toProgram_any _ ars ps _ (HS.out.ext E1.out) HSA.out HSP.out).mono ?_
      rintro r w3 ⟨⟨v3, rfl, hv3⟩, hE⟩
      have E3 := Lib.hid (E1.out.trans hE); have A3 := Lib.hid (hE.blk A1.out); have HV3 := Lib.hid hv3.at
      clear hE hv3 y0 y1
      go_wp2_with (fail)
      refine (toIntS_any _ xs _ (HX.out.ext E3.out) (by rw [HNM.out]; exact hnm20)).mono ?_
      rintro r w5 ⟨p4, d4, rfl, hv4, hE⟩
      rw [HNM.out] at hv4 ⊢
      have E5a := Lib.hid (E3.out.trans hE); have A5a := Lib.hid (hE.blk A3.out); have HV35a := Lib.hid (HV3.out.ext hE); have HV4a := Lib.hid hv4.at
      clear hE hv4
      go_wp2_with (fail)
      refine (toIntS_any _ os _ (HY.out.ext E5a.out) (by rw [HNO.out]; exact hno20)).mono ?_
      rintro r w5b ⟨p4o, d4o, rfl, hv4o, hE⟩
      rw [HNO.out] at hv4o ⊢
      have E5 := Lib.hid (E5a.out.trans hE); have A5 := Lib.hid (hE.blk A5a.out); have HV35 := Lib.hid (HV35a.out.ext hE); have HV4 := Lib.hid (HV4a.out.ext hE); have HV4o := Lib.hid hv4o.at
      clear hE hv4o
      go_wp2_with (fail)
      refine (specRunOrder_any _ ars ps p4 nm d4 xs p4o no d4o os _ HV35.out HNM.out HV4.out HNO.out HV4o.out).mono ?_
      rw [HRS.out, HRB.out]
      rintro r w6 ⟨⟨v6, rfl, hv6⟩, hE6⟩
      have E6 := Lib.hid (E5.out.trans hE6); have A6 := Lib.hid (hE6.blk A5.out); have HG6 := Lib.hid hv6; have S6 := Lib.hid hE6.size_le; have S5 := Lib.hid (show w.heap.size + 1 ≤ w5b.heap.size by have h1 := lt_of_block A5.out; omega)
      clear hE6 hv6 HV3 HV35a HV4a HV35 HV4 HV4o
      obtain ⟨y0, y1, -, -⟩ := blk2 A6.out
      go_wp2_with (fail)
      refine (toProgram_any _ ars ps _ (HS.out.ext E6.out) HSA.out HSP.out).mono ?_
      rintro r w7 ⟨⟨v7, rfl, hv7⟩, hE⟩
      have E7 := Lib.hid (E6.out.trans hE); have A7 := Lib.hid (hE.blk A6.out); have HPO := Lib.hid hv7; have HG7 := Lib.hid (HG6.out.ext hE); have S7 := Lib.hid hE.size_le
      obtain ⟨q3, c3, q4, c4, rfl, -, -, -, -⟩ := hv7.at.parts
      rw [HNA.out, HNP.out] at HPO ⊢
      clear hE hv7 y0 y1
      obtain ⟨w8, hw8⟩ : ∃ w8, w7.alloc (.cells #[.slice q3 na c3, .slice q4 np c4] 32) = w8 := ⟨_, rfl⟩
      have X8 : Ext w7 w8 := by rw [← hw8]; exact (Ext.refl w7).alloc _
      have B8 := Lib.hid (show w8.heap[w7.heap.size]? = some (.cells #[.slice q3 na c3, .slice q4 np c4] 32 (0, 0)) by rw [← hw8]; exact blk_at rfl)
      have HW8 := Lib.hid hw8; have HX8 := Lib.hid X8; have S8 := Lib.hid X8.size_le
      clear hw8 X8
      go_wp2_with (fail)
      rw [HW8.out]
      refine (toIntS_any _ xs _ (HX.out.ext (E7.out.trans HX8.out)) (by rw [HNM.out]; exact hnm20)).mono ?_
      rintro e w9 ⟨p9, d9, rfl, hi9, hE⟩
      rw [HNM.out] at hi9 ⊢
      have X9a := Lib.hid (HX8.out.trans hE); have B9a := Lib.hid (hE.blk B8.out); have HM9a := Lib.hid hi9; have S9a := Lib.hid hE.size_le
      have HMR := Lib.hid (World.ownsRow.lt hi9)
      clear hE hi9
      go_wp2_with (fail)
      refine (toIntS_any _ os _ (HY.out.ext (E7.out.trans X9a.out)) (by rw [HNO.out]; exact hno20)).mono ?_
      rintro e w9b ⟨p9o, d9o, rfl, hi9, hE⟩
      rw [HNO.out] at hi9 ⊢
      have X9 := Lib.hid (X9a.out.trans hE); have B9 := Lib.hid (hE.blk B9a.out); have HM9 := Lib.hid (HM9a.out.ext hE); have HO9 := Lib.hid hi9; have S9 := Lib.hid hE.size_le
      have HOR := Lib.hid (World.ownsRow.lt hi9)
      clear hE hi9
      obtain ⟨u0, u1, -, -⟩ := blk2 B9.out
      go_wp2_with (fail)
      refine (RunOrder_any _ ars ps p9 nm d9 xs p9o no d9o os _ (HPO.out.at.ext X9.out) HNM.out HM9.out.at HNO.out HO9.out.at).mono ?_
      rw [HRS.out, HRB.out]
      rintro r w12 ⟨⟨v12, rfl, hv12⟩, hE⟩
      have X12 := Lib.hid (X9.out.trans hE); have B12 := Lib.hid (hE.blk B9.out); have HM12 := Lib.hid (HM9.out.ext hE); have HO12 := Lib.hid (HO9.out.ext hE); have HG12 := Lib.hid (HG7.out.ext X12.out); have HK12 := Lib.hid hv12
      have A12 := Lib.hid (X12.out.blk A7.out); have E12 := Lib.hid (E7.out.trans X12.out)
      clear hE hv12 u0 u1
      have HKlo : Hid (∀ b, v12.ownBlock = some b → w9b.heap.size ≤ b) := Lib.hid (fun b hb => (HK12.out.lt b hb).1)
      have HGhi : Hid (∀ b, v6.ownBlock = some b → b < w6.heap.size) := Lib.hid HG6.out.block_lt
      obtain ⟨p6, c6', rfl⟩ := row_form HG12.out
      obtain ⟨p12, c12, rfl⟩ := row_form HK12.out
      go_wp2_with (fail)
      refine (eqIntS_any _ _ rs rs _ HK12.out.at HG12.out.at).mono ?_
      rw [show eqB rs rs = true by simp [eqB]]
      rintro e w13 ⟨rfl, hE⟩
      have E13 := Lib.hid (E12.out.trans hE); have A13 := Lib.hid (hE.blk A12.out); have B13 := Lib.hid (hE.blk B12.out); have HG13 := Lib.hid (HG12.out.ext hE); have HK13 := Lib.hid (HK12.out.ext hE); have HM13 := Lib.hid (HM12.out.ext hE); have HO13 := Lib.hid (HO12.out.ext hE); have X13 := Lib.hid (X12.out.trans hE)
      clear hE
      obtain ⟨y0, y1, -, -⟩ := blk2 A13.out
      obtain ⟨u0, u1, -, -⟩ := blk2 B13.out
      go_wp2
      go_region_held3 (fun W => W.cell? ⟨w.heap.size, 0, none⟩ = some (.slice q1 na c1) ∧ W.cell? ⟨w.heap.size, 1, none⟩ = some (.slice q2 np c2) ∧ W.cell? ⟨w7.heap.size, 0, none⟩ = some (.slice q3 na c3) ∧ W.cell? ⟨w7.heap.size, 1, none⟩ = some (.slice q4 np c4))
        (first | exact ⟨y0, y1, u0, u1⟩ | exact ⟨g3.keep y0, g3.keep y1, g3.keep u0, g3.keep u1⟩ | exact ⟨g4.keep y0, g4.keep y1, g4.keep u0, g4.keep u1⟩ | fail)
        (first | (go_at_call 14; (with_reducible refine (toProgram_any _ ars ps _ (HS.out.ext (E13.out.trans (Ext.refl w13).drew)) HSA.out HSP.out).mono ?_); rintro r w14 ⟨⟨v14, rfl, hv14⟩, hE14⟩; have g3 := (Ext.refl w13).drew.trans hE14; have HV14 := Lib.hid hv14.at; have G3 := Lib.hid g3; clear hE14 hv14) | (go_at_call 17; (with_reducible refine (eqProgram_same _ v14 ars ps _ (HPO.out.at.ext (X13.out.trans G3.out)) HV14.out).mono ?_); rintro r w15 ⟨rfl, hE15⟩; have g4 := G3.out.trans hE15) | fail)
      have E15 := Lib.hid (E13.out.trans g4); have X15 := Lib.hid (X13.out.trans g4); have A15 := Lib.hid (g4.blk A13.out); have B15 := Lib.hid (g4.blk B13.out); have HG15 := Lib.hid (HG13.out.ext g4); have HK15 := Lib.hid (HK13.out.ext g4); have HM15 := Lib.hid (HM13.out.ext g4); have HO15 := Lib.hid (HO13.out.ext g4)
      clear y0 y1 u0 u1 g3 g4 hE15 HV14 G3
      go_wp2_with (fail)
      refine (toIntS_any _ xs _ (HX.out.ext E15.out) (by rw [HNM.out]; exact hnm20)).mono ?_
      rintro e w16 ⟨p16, d16, rfl, hi16, hE16⟩
      rw [HNM.out] at hi16 ⊢
      have HE16 := Lib.hid hE16; have HN16 := Lib.hid hi16.at
      clear hE16 hi16
      go_wp2_with (fail)
      refine (eqIntS_any _ _ xs xs _ (HM15.out.at.ext HE16.out) HN16.out).mono ?_
      rw [show eqB xs xs = true by simp [eqB]]
      rintro e w18 ⟨rfl, hE17⟩
      have hE := HE16.out.trans hE17
      have E19a := Lib.hid (E15.out.trans hE); have X19a := Lib.hid (X15.out.trans hE); have A19a := Lib.hid (hE.blk A15.out); have B19a := Lib.hid (hE.blk B15.out); have HG19a := Lib.hid (HG15.out.ext hE); have HK19a := Lib.hid (HK15.out.ext hE); have HM19a := Lib.hid (HM15.out.ext hE); have HO19a := Lib.hid (HO15.out.ext hE)
      clear hE hE17
      go_wp2_with (fail)
      refine (toIntS_any _ os _ (HY.out.ext E19a.out) (by rw [HNO.out]; exact hno20)).mono ?_
      rintro e w17 ⟨p17, d17, rfl, hi17, hE17⟩
      rw [HNO.out] at hi17 ⊢
      have HE17 := Lib.hid hE17; have HN17 := Lib.hid hi17.at
      clear hE17 hi17
      go_wp2_with (fail)
      refine (eqIntS_any _ _ os os _ (HO19a.out.at.ext HE17.out) HN17.out).mono ?_
      rw [show eqB os os = true by simp [eqB]]
      rintro e w19 ⟨rfl, hE18⟩
      have hE := HE17.out.trans hE18
      have E19 := Lib.hid (E19a.out.trans hE); have X19 := Lib.hid (X19a.out.trans hE); have A19 := Lib.hid (hE.blk A19a.out); have B19 := Lib.hid (hE.blk B19a.out); have HG19 := Lib.hid (HG19a.out.ext hE); have HK19 := Lib.hid (HK19a.out.ext hE); have HM19 := Lib.hid (HM19a.out.ext hE); have HO19 := Lib.hid (HO19a.out.ext hE)
      clear hE hE18
      obtain ⟨u0, u1, -, -⟩ := blk2 B19.out
      have k5 : w.heap.size + 1 ≤ w5b.heap.size := S5.out
      have k6 : w5b.heap.size ≤ w6.heap.size := S6.out
      have k7 : w6.heap.size ≤ w7.heap.size := S7.out
      have k8 : w7.heap.size ≤ w8.heap.size := S8.out
      have k9 : w8.heap.size ≤ w9.heap.size := S9a.out
      have k9b : w9.heap.size ≤ w9b.heap.size := S9.out
      go_wp2_with (fail)
      refine (markProgram_sh w6.heap.size w7 _ ars ps 1 _ HPO.out ((Sh.refl _ w7).ext X19.out) (by omega) (by have := HCP.out; omega)).mono ?_
      rintro e w20 ⟨rfl, hmk⟩
      have E20 := Lib.hid (hmk.extW E19.out (by omega)); have A20 := Lib.hid (hmk.lv.heap A19.out (fun h => by omega))
      have HG20 : Hid (IntsOwn w5b.heap.size w20 (.slice p6 rs.length c6') rs) := Lib.hid (row_lv HG19.out hmk.lv (fun b hb hd => by have := HGhi.out b hb; omega))
      have HK20 : Hid (IntsOwn w9b.heap.size w20 (.slice p12 rs.length c12) rs) := Lib.hid (row_lv HK19.out hmk.lv (fun b hb hd => by have := HKlo.out b hb; omega))
      have HM20 : Hid (IntsOwn w8.heap.size w20 (.slice p9 nm d9) xs) := Lib.hid (row_lv HM19.out hmk.lv (fun b hb hd => by have := (HMR.out b hb).1; omega))
      have HO20 : Hid (IntsOwn w9.heap.size w20 (.slice p9o no d9o) os) := Lib.hid (row_lv HO19.out hmk.lv (fun b hb hd => by have := (HOR.out b hb).1; omega))
      clear hmk u0 u1
      have hk1 : (0 : Int) ≤ 1 + (cPr ars ps : Nat) := by omega
      have hk2 : (1 : Int) + (cPr ars ps : Nat) ≤ 100000000 := by have := HCP.out; omega
      generalize (1 : Int) + (cPr ars ps : Nat) = ky at *
      have HM20w := Lib.hid (by have h := HM20.out; unfold IntsOwn at h; rw [HNM.out] at h; exact h)
      go_wp2_with (fail)
      refine (markIntS_any w8.heap.size p9 nm d9 xs ky _ HNM.out HM20w.out (by omega) (by omega)).mono ?_
      rintro e w21 ⟨rfl, h1, h2⟩
      have lv21 : Lv (fun b => w8.heap.size ≤ b ∧ b < w9.heap.size) w20 w21 := Lv.grown h2 (fun r hr _ => HMR.out r hr)
      have E21 := Lib.hid (E20.out.grown h2 (fun b hb => by have := HMR.out b hb; omega)); have A21 := Lib.hid (lv21.heap A20.out (fun h => by omega))
      have HG21 : Hid (IntsOwn w5b.heap.size w21 (.slice p6 rs.length c6') rs) := Lib.hid (row_lv HG20.out lv21 (fun b hb hd => by have := HGhi.out b hb; omega))
      have HK21 : Hid (IntsOwn w9b.heap.size w21 (.slice p12 rs.length c12) rs) := Lib.hid (row_lv HK20.out lv21 (fun b hb hd => by have := HKlo.out b hb; omega))
      have HO21 : Hid (IntsOwn w9.heap.size w21 (.slice p9o no d9o) os) := Lib.hid (row_lv HO20.out lv21 (fun b hb hd => by have := (HOR.out b hb).1; omega))
      clear h1 h2 lv21
      have hz1 : (0 : Int) ≤ ky + (nm : Int) := by omega
      have hz2 : ky + (nm : Int) ≤ 200000000 := by omega
      generalize ky + (nm : Int) = kw at *
      have HO21w := Lib.hid (by have h := HO21.out; unfold IntsOwn at h; rw [HNO.out] at h; exact h)
      go_wp2_with (fail)
      refine (markIntS_any w9.heap.size p9o no d9o os kw _ HNO.out HO21w.out (by omega) (by omega)).mono ?_
      rintro e w22 ⟨rfl, h1, h2⟩
      have lv22 : Lv (fun b => w9.heap.size ≤ b ∧ b < w9b.heap.size) w21 w22 := Lv.grown h2 (fun r hr _ => HOR.out r hr)
      have E22 := Lib.hid (E21.out.grown h2 (fun b hb => by have := HOR.out b hb; omega)); have A22 := Lib.hid (lv22.heap A21.out (fun h => by omega))
      have HG22 : Hid (IntsOwn w5b.heap.size w22 (.slice p6 rs.length c6') rs) := Lib.hid (row_lv HG21.out lv22 (fun b hb hd => by have := HGhi.out b hb; omega))
      have HK22 : Hid (IntsOwn w9b.heap.size w22 (.slice p12 rs.length c12) rs) := Lib.hid (row_lv HK21.out lv22 (fun b hb hd => by have := HKlo.out b hb; omega))
      clear h1 h2 lv22
      have hkd : decide (kw + (no : Int) < 0) = false := by simp; omega
      generalize kw + (no : Int) = kv at *
      go_wp2_with (fail)
      refine (eqIntS_any _ _ rs rs _ HK22.out.at HG22.out.at).mono ?_
      rw [show eqB rs rs = true by simp [eqB]]
      rintro e w23 ⟨rfl, hE⟩
      have E23 := Lib.hid (E22.out.trans hE); have A23 := Lib.hid (hE.blk A22.out); have HG23 := Lib.hid (HG22.out.ext hE); have HK23 := Lib.hid (HK22.out.ext hE)
      clear hE
      have hxl : rs.length ≤ 1000000 := HRL.out
      go_wp2_with (fail)
      refine (markIntS_any w9b.heap.size p12 rs.length c12 rs 1 _ rfl HK23.out (by omega) (by omega)).mono ?_
      rintro e w24 ⟨rfl, h1, h2⟩
      have HM24 : Hid (IntsOwn w9b.heap.size w24 (.slice p12 rs.length c12) (marks 1 rs.length)) := Lib.hid (IntsOwn.mk h1 (marks_len 1 _))
      have HG24 := Lib.hid (HG23.out.beside HK23.out (fun b hb => by have := HGhi.out b hb; omega) h2)
      have E24 := Lib.hid (E23.out.grown h2 (fun b hb => by have := HKlo.out b hb; omega))
      have A24 := Lib.hid ((Lv.grown (D := fun b => w9b.heap.size ≤ b) h2 (fun r hr _ => HKlo.out r hr)).heap A23.out (fun h => by omega))
      clear h1 h2
      have hq0 : decide ((1 : Int) + (rs.length : Nat) < 0) = false := by simp; omega
      go_wp2_with (fail)
      refine (heldIntS_any _ rs.length 1 _ HM24.out.at (by omega) (by omega)).mono ?_
      rintro e w25 ⟨rfl, rfl⟩
      obtain ⟨y0, y1, -, -⟩ := blk2 A24.out
      go_wp2_with (fail)
      refine (toProgram_any _ ars ps _ (HS.out.ext E24.out) HSA.out HSP.out).mono ?_
      rintro r w26 ⟨⟨v26, rfl, hv26⟩, hE⟩
      have E26 := Lib.hid (E24.out.trans hE); have HV26 := Lib.hid hv26.at; have HG26 := Lib.hid (HG24.out.ext hE); have HM26 := Lib.hid (HM24.out.ext hE)
      clear hE hv26 y0 y1
      go_wp2_with (fail)
      refine (toIntS_any _ xs _ (HX.out.ext E26.out) (by rw [HNM.out]; exact hnm20)).mono ?_
      rintro r w27 ⟨p27, d27, rfl, hv27, hE⟩
      rw [HNM.out] at hv27 ⊢
      have E27a := Lib.hid (E26.out.trans hE); have HV27a := Lib.hid hv27.at; have HV267a := Lib.hid (HV26.out.ext hE); have HG27a := Lib.hid (HG26.out.ext hE); have HM27a := Lib.hid (HM26.out.ext hE)
      clear hE hv27
      go_wp2_with (fail)
      refine (toIntS_any _ os _ (HY.out.ext E27a.out) (by rw [HNO.out]; exact hno20)).mono ?_
      rintro r w28 ⟨p28, d28, rfl, hv28, hE⟩
      rw [HNO.out] at hv28 ⊢
      have E27 := Lib.hid (E27a.out.trans hE); have HV28 := Lib.hid hv28.at; have HV27 := Lib.hid (HV27a.out.ext hE); have HV267 := Lib.hid (HV267a.out.ext hE); have HG27 := Lib.hid (HG27a.out.ext hE); have HM27 := Lib.hid (HM27a.out.ext hE)
      clear hE hv28
      go_wp2_with (fail)
      refine (RunOrder_any v26 ars ps p27 nm d27 xs p28 no d28 os _ HV267.out HNM.out HV27.out HNO.out HV28.out).mono ?_
      rw [HRS.out, HRB.out]
      rintro r w29 ⟨⟨v29, rfl, hv29⟩, hE⟩
      have E29 := Lib.hid (E27.out.trans hE); have HG29 := Lib.hid (HG27.out.ext hE); have HM29 := Lib.hid (HM27.out.ext hE); have HH29 := Lib.hid hv29
      clear hE hv29
      obtain ⟨p29, c29, rfl⟩ := row_form HH29.out
      go_wp2_with (fail)
      refine (eqIntS_any _ _ rs rs _ HH29.out.at HG29.out.at).mono ?_
      rw [show eqB rs rs = true by simp [eqB]]
      rintro e w30 ⟨rfl, hE⟩
      have E30 := Lib.hid (E29.out.trans hE); have HM30 := Lib.hid (HM29.out.ext hE)
      clear hE
      go_wp2_with (fail)
      refine (heldIntS_any _ rs.length 1 _ HM30.out.at (by omega) (by omega)).mono ?_
      rintro e w31 ⟨rfl, rfl⟩
      go_wp2
      go_ret
      exact ⟨rfl, E30.out⟩
theorem walkFnExactRunOrder (v s s2 : Value) (w : World) (h : RProg w v) (h1 : RInts w s) (h2 : RInts w s2) :
    Calls Tryz.prog 4 #[v, s, s2] w fun e w' => e = .returned (.bool true) ∧ Below w.heap.size w w' := by
  obtain ⟨ars, ps, hs⟩ := h
  obtain ⟨xs, hx, -⟩ := h1
  obtain ⟨os, ho, -⟩ := h2
  exact walk0FnExactRunOrder roR_len v s s2 ars ps xs os w hs hx ho
end Go.Proofs.YtklehkkclojccaaGreat

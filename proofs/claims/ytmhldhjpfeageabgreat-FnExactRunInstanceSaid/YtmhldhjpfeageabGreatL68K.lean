/- FnExactRunInstance: RunInstance answers as its model at every argument: the walk. -/
import Derived.Test.YtmhldhjpfeageabGreatK49
import Derived.Test.YtmhldhjpfeageabGreatK44
import Derived.Test.YtmhldhjpfeageabGreatK26
import Derived.Test.YtmhldhjpfeageabGreatK48
import Derived.Test.YtmhldhjpfeageabGreatK28
namespace Go.Proofs.YtmhldhjpfeageabGreat
open Go.RowKit

theorem Mk.extW {B : Nat} {W w0 a b : World} (h : Mk B w0 a b) (hE : Ext W a) (hB : W.heap.size ≤ B) : Ext W b :=
  ⟨h.lv.os.trans hE.os, h.lv.tape.trans hE.tape, h.lv.output.trans hE.output, Nat.le_trans hE.size h.lv.size, fun i hi => (h.lv.block i (Nat.lt_of_lt_of_le hi hE.size) (fun hd => by omega)).trans (hE.block i hi)⟩
theorem riR_len (ars : List Arr) (ps : List Pt) (xs : List Int) (i j : Int) (pt : List Int) : (riR ars ps xs i j pt).length ≤ 1000000 := by
  cases hb : ivOk ars ps xs i j pt with
  | false => rw [ri_no hb]; simp
  | true =>
    unfold riR
    rw [if_pos hb, List.length_set]
    unfold ivOk at hb
    rw [Bool.and_eq_true] at hb
    obtain ⟨-, hprog, hlen⟩ := memB_parts hb.1
    have htb := totN_bd (ars := ars) (by have h := progB_arrs hprog; simp only [arrsB, Bool.and_eq_true, List.all_eq_true] at h; exact h.1)
    have hal := arrs_len (progB_arrs hprog)
    omega
set_option maxRecDepth 100000 in
set_option maxHeartbeats 8000000 in
theorem walk0FnExactRunInstance (hrl : ∀ ars ps xs i j pt, (riR ars ps xs i j pt).length ≤ 1000000) (v s sp : Value) (ars : List Arr) (ps : List Pt) (xs : List Int) (i j : Int) (pt : List Int) (w : World) (hs : PrR w v ars ps) (hx : IntsAt w s xs) (hi : IntsAt w sp pt) :
    Calls Tryz.prog 7 #[v, s, .agg #[.int .i64 i, .int .i64 j, sp]] w fun r w' => r = .returned (.bool true) ∧ Ext w w' := by
  have HS := Lib.hid hs; have HI := Lib.hid hi; have HX := Lib.hid hx
  obtain ⟨rs, hrs⟩ : ∃ rs, riR ars ps xs i j pt = rs := ⟨_, rfl⟩
  obtain ⟨rb, hrb⟩ : ∃ rb, ivOk ars ps xs i j pt = rb := ⟨_, rfl⟩
  have hnb : (rb != rb) = false := by simp
  have HRS := Lib.hid hrs; have HRB := Lib.hid hrb; have HRL : Hid (rs.length ≤ 1000000) := Lib.hid (by rw [← hrs]; exact hrl ars ps xs i j pt)
  clear hrs hrb hrl
  obtain ⟨q1, c1, q2, c2, rfl, -, -, -, -⟩ := hs.parts
  obtain ⟨qi, ci, rfl, hm, -⟩ := id hi
  obtain ⟨qm, cm, rfl, hmm, -⟩ := id hx
  obtain ⟨na, hna⟩ : ∃ n, ars.length = n := ⟨_, rfl⟩
  obtain ⟨np, hnp⟩ : ∃ n, ps.length = n := ⟨_, rfl⟩
  obtain ⟨n, hn⟩ : ∃ n, pt.length = n := ⟨_, rfl⟩
  obtain ⟨nm, hnm⟩ : ∃ n, xs.length = n := ⟨_, rfl⟩
  rw [hna, hnp] at HS ⊢
  rw [hn] at HI hm ⊢
  rw [hnm] at HX hmm ⊢
  have HNA := Lib.hid hna; have HNP := Lib.hid hnp; have HN := Lib.hid hn; have HNM := Lib.hid hnm
  clear hs hi hx hna hnp hn hnm
  by_cases hbig : (1048576 : Int) < nm
  · go_enter Tryz.func7, Tryz.ntmps7
    go_wp2
    go_ret
    exact ⟨rfl, ((Ext.refl w).alloc _).alloc _⟩
  · have hnm20 : nm ≤ 1048576 := by omega
    go_enter Tryz.func7, Tryz.ntmps7
    go_wp2_with (fail)
    obtain ⟨W0, hW0⟩ : ∃ W0, ((w.alloc (.cells #[.slice q1 na c1, .slice q2 np c2] 25)).alloc (.cells #[.int .i64 i, .int .i64 j, .slice qi n ci] 41)) = W0 := ⟨_, rfl⟩
    have E0 : Hid (Ext w W0) := Lib.hid (by rw [← hW0]; exact ((Ext.refl w).alloc _).alloc _)
    have A0 := Lib.hid (show W0.heap[w.heap.size]? = some (.cells #[.slice q1 na c1, .slice q2 np c2] 25 (0, 0)) by rw [← hW0]; exact blk_old (blk_at rfl))
    have D0 := Lib.hid (show W0.heap[w.heap.size + 1]? = some (.cells #[.int .i64 i, .int .i64 j, .slice qi n ci] 41 (0, 0)) by rw [← hW0]; exact blk_at (by simp))
    try rw [hW0]
    clear hW0
    refine (szProgramW_any _ ars ps _ _ (HS.out.ext E0.out) (by omega) (by omega)).mono ?_
    rintro r w1 ⟨⟨z, rfl, hz⟩, hE⟩
    have A1 := Lib.hid (hE.blk A0.out); have D1 := Lib.hid (hE.blk D0.out); have E1 := Lib.hid (E0.out.trans hE)
    clear hE
    rcases hz with rfl | ⟨z0, z1, hcp, hsa, hsp⟩
    · go_wp2_with (fail)
      go_ret
      exact ⟨rfl, E1.out⟩
    · have HSA := Lib.hid hsa; have HSP := Lib.hid hsp; have HCP := Lib.hid hcp; clear hsa hsp hcp
      obtain ⟨x0, x1, x2⟩ := blk3i D1.out
      have hzn : decide (z < 0) = false := by simp; omega
      go_wp2_with (fail)
      refine (szInstance_any i j qi n ci z _ hm z0 z1).mono ?_
      rintro r w2 ⟨rfl, hE⟩
      have A2 := Lib.hid (hE.blk A1.out); have D2 := Lib.hid (hE.blk D1.out); have E2 := Lib.hid (E1.out.trans hE)
      clear hE x0 x1 x2
      by_cases hzl : z < n
      · have hy : szI z n = -1 := by unfold szI; rw [if_pos (by omega)]
        rw [hy]
        go_wp2_with (fail)
        go_ret
        exact ⟨rfl, E2.out⟩
      · have hy : szI z n = z - n := by unfold szI; rw [if_neg (by omega)]
        rw [hy]
        have hzn' : decide (z - (n : Int) < 0) = false := by simp; omega
        have hn20 : n ≤ 1048576 := by omega
        generalize z - (n : Int) = z2 at *
        obtain ⟨y0, y1, -, -⟩ := blk2 A2.out
        obtain ⟨x0, x1, x2⟩ := blk3i D2.out
        clear hy
        go_wp2_with (fail)
        go_region_held3 (fun W => W.cell? ⟨w.heap.size, 0, none⟩ = some (.slice q1 na c1) ∧ W.cell? ⟨w.heap.size, 1, none⟩ = some (.slice q2 np c2) ∧ W.cell? ⟨w.heap.size + 1, 0, none⟩ = some (.int .i64 i) ∧ W.cell? ⟨w.heap.size + 1, 1, none⟩ = some (.int .i64 j) ∧ W.cell? ⟨w.heap.size + 1, 2, none⟩ = some (.slice qi n ci))
          (first | exact ⟨y0, y1, x0, x1, x2⟩ | exact ⟨g3.keep y0, g3.keep y1, g3.keep x0, g3.keep x1, g3.keep x2⟩ | exact ⟨g4.keep y0, g4.keep y1, g4.keep x0, g4.keep x1, g4.keep x2⟩ | exact ⟨g5.keep y0, g5.keep y1, g5.keep x0, g5.keep x1, g5.keep x2⟩ | exact ⟨g6.keep y0, g6.keep y1, g6.keep x0, g6.keep x1, g6.keep x2⟩ | fail)
          (first | (go_at_call 13; (with_reducible refine (toProgram_any _ ars ps _ (HS.out.ext (E2.out.trans (Ext.refl w2).drew)) HSA.out HSP.out).mono ?_); rintro r w3 ⟨⟨v3, rfl, hv3⟩, hE3⟩; have g3 := (Ext.refl w2).drew.trans hE3; have HV3 := Lib.hid hv3.at; have G3 := Lib.hid g3; clear hE3 hv3) | (go_at_call 30; (with_reducible refine (toIntS_any _ xs _ (HX.out.ext (E2.out.trans G3.out)) (by rw [HNM.out]; exact hnm20)).mono ?_); rintro r w4 ⟨p4, d4, rfl, hv4, hE4⟩; have g4 := G3.out.trans hE4; have HV4 := Lib.hid hv4.at; have HV34 := Lib.hid (HV3.out.ext hE4); have G4 := Lib.hid g4; clear hE4 hv4) | (go_at_call 22; (with_reducible refine (toInstance_any i j _ pt _ (HI.out.ext (E2.out.trans G4.out)) (by rw [HN.out]; exact hn20)).mono ?_); rintro r w5 ⟨q5, d5, rfl, hv5, hE5⟩; have g5 := G4.out.trans hE5; have hcp5 := own_cap hv5 rfl; have HV5 := Lib.hid hv5.at; have HV35 := Lib.hid (HV34.out.ext hE5); have HV45 := Lib.hid (HV4.out.ext hE5); have G5 := Lib.hid g5; clear hE5 hv5) | (go_at_call 34; (with_reducible refine (specRunInstance_any v3 ars ps p4 _ d4 xs i j q5 _ d5 pt _ HV35.out rfl HV45.out HV5.out hcp5).mono ?_); rw [HRS.out, HRB.out]; rintro r w6 ⟨⟨v6, rfl, hv6⟩, hE6⟩; have g6 := G5.out.trans hE6) | fail)
        have E6 := Lib.hid (E2.out.trans g6); have A6 := Lib.hid (g6.blk A2.out); have D6 := Lib.hid (g6.blk D2.out)
        have HG6 := Lib.hid hv6; have S6 := Lib.hid hE6.size_le; have S5 := Lib.hid (show w.heap.size + 2 ≤ w5.heap.size by have h1 := lt_of_block (g5.blk D2.out); omega)
        clear g3 g4 g5 g6 y0 y1 x0 x1 x2 HV3 HV34 HV35 HV4 HV45 HV5 G3 G4 G5 hE6 hcp5 hv6
        obtain ⟨y0, y1, -, -⟩ := blk2 A6.out
        go_wp2_with (fail)
        refine (toProgram_any _ ars ps _ (HS.out.ext E6.out) HSA.out HSP.out).mono ?_
        rintro r w7 ⟨⟨v7, rfl, hv7⟩, hE⟩
        have E7 := Lib.hid (E6.out.trans hE); have A7 := Lib.hid (hE.blk A6.out); have D7 := Lib.hid (hE.blk D6.out); have HPO := Lib.hid hv7; have HG7 := Lib.hid (HG6.out.ext hE); have S7 := Lib.hid hE.size_le
        obtain ⟨q3, c3, q4, c4, rfl, -, -, -, -⟩ := hv7.at.parts
        rw [HNA.out, HNP.out] at HPO ⊢
        clear hE hv7 y0 y1
        obtain ⟨w8, hw8⟩ : ∃ w8, w7.alloc (.cells #[.slice q3 na c3, .slice q4 np c4] 32) = w8 := ⟨_, rfl⟩
        have X8 : Ext w7 w8 := by rw [← hw8]; exact (Ext.refl w7).alloc _
        have B8 := Lib.hid (show w8.heap[w7.heap.size]? = some (.cells #[.slice q3 na c3, .slice q4 np c4] 32 (0, 0)) by rw [← hw8]; exact blk_at rfl)
        have HW8 := Lib.hid hw8; have HX8 := Lib.hid X8; have S8 := Lib.hid X8.size_le
        clear hw8 X8
        go_wp2_with (fail)
        rw [HW8.out]
        refine (toIntS_any _ xs _ (HX.out.ext (E7.out.trans HX8.out)) (by rw [HNM.out]; exact hnm20)).mono ?_
        rintro e w9 ⟨p9, d9, rfl, hi9, hE⟩
        rw [HNM.out] at hi9 ⊢
        have X9 := Lib.hid (HX8.out.trans hE); have B9 := Lib.hid (hE.blk B8.out); have HM9 := Lib.hid hi9; have D9 := Lib.hid ((HX8.out.trans hE).blk D7.out); have S9 := Lib.hid hE.size_le
        have HMR := Lib.hid (World.ownsRow.lt hi9)
        clear hE hi9
        have hl9 := lt_of_block D9.out
        obtain ⟨x0, x1, x2⟩ := blk3i D9.out
        go_wp2_with (fail)
        refine (toInstance_any i j _ pt _ (HI.out.ext (E7.out.trans X9.out)) (by rw [HN.out]; exact hn20)).mono ?_
        rintro r w10 ⟨q10, d10, rfl, hv10, hE⟩
        rw [HN.out] at hv10 ⊢
        have hcp10 := own_cap hv10 HN.out
        have X10 := Lib.hid (X9.out.trans hE); have B10 := Lib.hid (hE.blk B9.out); have HM10 := Lib.hid (HM9.out.ext hE); have HV10 := Lib.hid hv10; have D10 := Lib.hid (hE.blk D9.out); have S10 := Lib.hid hE.size_le
        clear hE hv10 x0 x1 x2 hl9
        obtain ⟨w11, hw11⟩ : ∃ w11, w10.alloc (.cells #[.int .i64 i, .int .i64 j, .slice q10 n d10] 45) = w11 := ⟨_, rfl⟩
        have Y11 : Ext w10 w11 := by rw [← hw11]; exact (Ext.refl w10).alloc _
        have C11 := Lib.hid (show w11.heap[w10.heap.size]? = some (.cells #[.int .i64 i, .int .i64 j, .slice q10 n d10] 45 (0, 0)) by rw [← hw11]; exact blk_at rfl)
        have HW11 := Lib.hid hw11; have HY11 := Lib.hid Y11; have S11 := Lib.hid Y11.size_le
        have hl10 := lt_of_block B10.out
        clear hw11 Y11
        obtain ⟨u0, u1, -, -⟩ := blk2 B10.out
        go_wp2_with (fail)
        rw [HW11.out]
        refine (RunInstance_any _ ars ps p9 nm d9 xs i j q10 n d10 pt _ (HPO.out.at.ext (X10.out.trans HY11.out)) HNM.out (HM10.out.at.ext HY11.out) (HV10.out.at.ext HY11.out) hcp10).mono ?_
        rw [HRS.out, HRB.out]
        rintro r w12 ⟨⟨v12, rfl, hv12⟩, hE⟩
        have Y12 := Lib.hid (HY11.out.trans hE)
        have X12 := Lib.hid (X10.out.trans Y12.out); have B12 := Lib.hid (Y12.out.blk B10.out); have C12 := Lib.hid (hE.blk C11.out); have HM12 := Lib.hid (HM10.out.ext Y12.out); have HG12 := Lib.hid (HG7.out.ext X12.out); have HK12 := Lib.hid hv12; have S12 := Lib.hid hE.size_le
        have A12 := Lib.hid (X12.out.blk A7.out); have D12 := Lib.hid (Y12.out.blk D10.out); have E12 := Lib.hid (E7.out.trans X12.out)
        clear hE hv12 u0 u1 hl10
        have HKlo : Hid (∀ b, v12.ownBlock = some b → w11.heap.size ≤ b) := Lib.hid (fun b hb => (HK12.out.lt b hb).1)
        have HGhi : Hid (∀ b, v6.ownBlock = some b → b < w6.heap.size) := Lib.hid HG6.out.block_lt
        obtain ⟨p6, c6', rfl⟩ := row_form HG12.out
        obtain ⟨p12, c12, rfl⟩ := row_form HK12.out
        go_wp2_with (fail)
        refine (eqIntS_any _ _ rs rs _ HK12.out.at HG12.out.at).mono ?_
        rw [show eqB rs rs = true by simp [eqB]]
        rintro e w13 ⟨rfl, hE⟩
        have E13 := Lib.hid (E12.out.trans hE); have A13 := Lib.hid (hE.blk A12.out); have D13 := Lib.hid (hE.blk D12.out); have B13 := Lib.hid (hE.blk B12.out); have C13 := Lib.hid (hE.blk C12.out); have HG13 := Lib.hid (HG12.out.ext hE); have HK13 := Lib.hid (HK12.out.ext hE); have HM13 := Lib.hid (HM12.out.ext hE); have X13 := Lib.hid (X12.out.trans hE); have Y13 := Lib.hid (Y12.out.trans hE)
        clear hE
        obtain ⟨y0, y1, -, -⟩ := blk2 A13.out
        obtain ⟨u0, u1, -, -⟩ := blk2 B13.out
        go_wp2
        go_region_held3 (fun W => W.cell? ⟨w.heap.size, 0, none⟩ = some (.slice q1 na c1) ∧ W.cell? ⟨w.heap.size, 1, none⟩ = some (.slice q2 np c2) ∧ W.cell? ⟨w7.heap.size, 0, none⟩ = some (.slice q3 na c3) ∧ W.cell? ⟨w7.heap.size, 1, none⟩ = some (.slice q4 np c4))
          (first | exact ⟨y0, y1, u0, u1⟩ | exact ⟨g3.keep y0, g3.keep y1, g3.keep u0, g3.keep u1⟩ | exact ⟨g4.keep y0, g4.keep y1, g4.keep u0, g4.keep u1⟩ | fail)
          (first | (go_at_call 13; (with_reducible refine (toProgram_any _ ars ps _ (HS.out.ext (E13.out.trans (Ext.refl w13).drew)) HSA.out HSP.out).mono ?_); rintro r w14 ⟨⟨v14, rfl, hv14⟩, hE14⟩; have g3 := (Ext.refl w13).drew.trans hE14; have HV14 := Lib.hid hv14.at; have G3 := Lib.hid g3; clear hE14 hv14) | (go_at_call 16; (with_reducible refine (eqProgram_same _ v14 ars ps _ (HPO.out.at.ext (X13.out.trans G3.out)) HV14.out).mono ?_); rintro r w15 ⟨rfl, hE15⟩; have g4 := G3.out.trans hE15) | fail)
        have E15 := Lib.hid (E13.out.trans g4); have X15 := Lib.hid (X13.out.trans g4); have Y15 := Lib.hid (Y13.out.trans g4); have A15 := Lib.hid (g4.blk A13.out); have D15 := Lib.hid (g4.blk D13.out); have B15 := Lib.hid (g4.blk B13.out); have C15 := Lib.hid (g4.blk C13.out); have HG15 := Lib.hid (HG13.out.ext g4); have HK15 := Lib.hid (HK13.out.ext g4); have HM15 := Lib.hid (HM13.out.ext g4)
        clear y0 y1 u0 u1 g3 g4 hE15 HV14 G3
        go_wp2_with (fail)
        refine (toIntS_any _ xs _ (HX.out.ext E15.out) (by rw [HNM.out]; exact hnm20)).mono ?_
        rintro e w16 ⟨p16, d16, rfl, hi16, hE16⟩
        rw [HNM.out] at hi16 ⊢
        have HE16 := Lib.hid hE16; have HN16 := Lib.hid hi16.at
        clear hE16 hi16
        go_wp2_with (fail)
        refine (eqIntS_any _ _ xs xs _ (HM15.out.at.ext HE16.out) HN16.out).mono ?_
        rw [show eqB xs xs = true by simp [eqB]]
        rintro e w17 ⟨rfl, hE17⟩
        have hE := HE16.out.trans hE17
        have E17 := Lib.hid (E15.out.trans hE); have X17 := Lib.hid (X15.out.trans hE); have Y17 := Lib.hid (Y15.out.trans hE); have A17 := Lib.hid (hE.blk A15.out); have D17 := Lib.hid (hE.blk D15.out); have B17 := Lib.hid (hE.blk B15.out); have C17 := Lib.hid (hE.blk C15.out); have HG17 := Lib.hid (HG15.out.ext hE); have HK17 := Lib.hid (HK15.out.ext hE); have HM17 := Lib.hid (HM15.out.ext hE)
        clear hE hE17
        obtain ⟨x0, x1, x2⟩ := blk3i D17.out
        obtain ⟨t0, t1, t2⟩ := blk3i C17.out
        go_wp2
        go_region_held3 (fun W => W.cell? ⟨w.heap.size + 1, 0, none⟩ = some (.int .i64 i) ∧ W.cell? ⟨w.heap.size + 1, 1, none⟩ = some (.int .i64 j) ∧ W.cell? ⟨w.heap.size + 1, 2, none⟩ = some (.slice qi n ci) ∧ W.cell? ⟨w10.heap.size, 0, none⟩ = some (.int .i64 i) ∧ W.cell? ⟨w10.heap.size, 1, none⟩ = some (.int .i64 j) ∧ W.cell? ⟨w10.heap.size, 2, none⟩ = some (.slice q10 n d10))
          (first | exact ⟨x0, x1, x2, t0, t1, t2⟩ | exact ⟨g3.keep x0, g3.keep x1, g3.keep x2, g3.keep t0, g3.keep t1, g3.keep t2⟩ | exact ⟨g4.keep x0, g4.keep x1, g4.keep x2, g4.keep t0, g4.keep t1, g4.keep t2⟩ | fail)
          (first | (go_at_call 22; (with_reducible refine (toInstance_any i j _ pt _ (HI.out.ext (E17.out.trans (Ext.refl w17).drew)) (by rw [HN.out]; exact hn20)).mono ?_); rintro r w18 ⟨q18, d18, rfl, hv18, hE18⟩; have g3 := (Ext.refl w17).drew.trans hE18; have HV18 := Lib.hid hv18.at; have G3 := Lib.hid g3; clear hE18 hv18) | (go_at_call 25; (with_reducible refine (eqInstance_same i j _ _ pt _ (HV10.out.at.ext (Y17.out.trans G3.out)) HV18.out).mono ?_); rintro r w19 ⟨rfl, hE19⟩; have g4 := G3.out.trans hE19) | fail)
        have E19 := Lib.hid (E17.out.trans g4); have X19 := Lib.hid (X17.out.trans g4); have Y19 := Lib.hid (Y17.out.trans g4); have A19 := Lib.hid (g4.blk A17.out); have D19 := Lib.hid (g4.blk D17.out); have B19 := Lib.hid (g4.blk B17.out); have C19 := Lib.hid (g4.blk C17.out); have HG19 := Lib.hid (HG17.out.ext g4); have HK19 := Lib.hid (HK17.out.ext g4); have HM19 := Lib.hid (HM17.out.ext g4)
        clear x0 x1 x2 t0 t1 t2 g3 g4 hE19 HV18 G3
        obtain ⟨u0, u1, -, -⟩ := blk2 B19.out
        have k5 : w.heap.size + 2 ≤ w5.heap.size := S5.out
        have k6 : w5.heap.size ≤ w6.heap.size := S6.out
        have k7 : w6.heap.size ≤ w7.heap.size := S7.out
        have k8 : w7.heap.size ≤ w8.heap.size := S8.out
        have k9 : w8.heap.size ≤ w9.heap.size := S9.out
        have k10 : w9.heap.size ≤ w10.heap.size := S10.out
        have k11 : w10.heap.size ≤ w11.heap.size := S11.out
        go_wp2_with (fail)
        refine (markProgram_sh w6.heap.size w7 _ ars ps 1 _ HPO.out ((Sh.refl _ w7).ext X19.out) (by omega) (by have := HCP.out; omega)).mono ?_
        rintro e w20 ⟨rfl, hmk⟩
        have E20 := Lib.hid (hmk.extW E19.out (by omega)); have A20 := Lib.hid (hmk.lv.heap A19.out (fun h => by omega)); have D20 := Lib.hid (hmk.lv.heap D19.out (fun h => by omega)); have C20 := Lib.hid (hmk.lv.heap C19.out (fun h => by omega))
        have HG20 : Hid (IntsOwn w5.heap.size w20 (.slice p6 rs.length c6') rs) := Lib.hid (row_lv HG19.out hmk.lv (fun b hb hd => by have := HGhi.out b hb; omega))
        have HK20 : Hid (IntsOwn w11.heap.size w20 (.slice p12 rs.length c12) rs) := Lib.hid (row_lv HK19.out hmk.lv (fun b hb hd => by have := HKlo.out b hb; omega))
        have HM20 : Hid (IntsOwn w8.heap.size w20 (.slice p9 nm d9) xs) := Lib.hid (row_lv HM19.out hmk.lv (fun b hb hd => by have := (HMR.out b hb).1; omega))
        have HI20 : Hid (Sh w9.heap.size w10 w20) := Lib.hid (((Sh.refl _ w10).ext Y19.out).lv hmk.lv (fun g h1 h2 => by omega))
        clear hmk u0 u1
        have hk1 : (0 : Int) ≤ 1 + (cPr ars ps : Nat) := by omega
        have hk2 : (1 : Int) + (cPr ars ps : Nat) ≤ 100000000 := by have := HCP.out; omega
        generalize (1 : Int) + (cPr ars ps : Nat) = ky at *
        go_wp2_with (fail)
        have HM20w := Lib.hid (by have h := HM20.out; unfold IntsOwn at h; rw [HNM.out] at h; exact h)
        refine (markIntS_any w8.heap.size p9 nm d9 xs ky _ HNM.out HM20w.out (by omega) (by omega)).mono ?_
        rintro e w21 ⟨rfl, h1, h2⟩
        have lv21 : Lv (fun b => w8.heap.size ≤ b ∧ b < w9.heap.size) w20 w21 := Lv.grown h2 (fun r hr _ => HMR.out r hr)
        have E21 := Lib.hid (E20.out.grown h2 (fun b hb => by have := HMR.out b hb; omega)); have A21 := Lib.hid (lv21.heap A20.out (fun h => by omega)); have D21 := Lib.hid (lv21.heap D20.out (fun h => by omega)); have C21 := Lib.hid (lv21.heap C20.out (fun h => by omega))
        have HG21 : Hid (IntsOwn w5.heap.size w21 (.slice p6 rs.length c6') rs) := Lib.hid (row_lv HG20.out lv21 (fun b hb hd => by have := HGhi.out b hb; omega))
        have HK21 : Hid (IntsOwn w11.heap.size w21 (.slice p12 rs.length c12) rs) := Lib.hid (row_lv HK20.out lv21 (fun b hb hd => by have := HKlo.out b hb; omega))
        have HI21 : Hid (Sh w9.heap.size w10 w21) := Lib.hid (HI20.out.lv lv21 (fun g h1 h2 => by omega))
        clear h1 h2 lv21
        have hk3 : (0 : Int) ≤ ky + (nm : Nat) := by omega
        have hk4 : ky + (nm : Nat) ≤ 200000000 := by omega
        generalize ky + (nm : Int) = kw at *
        obtain ⟨t0, t1, t2⟩ := blk3i C21.out
        go_wp2_with (fail)
        refine (markInstance_sh w9.heap.size w10 i j q10 n d10 pt kw _ HN.out HV10.out HI21.out hk3 (by omega)).mono ?_
        rintro e w22 ⟨rfl, hmk⟩
        have E22 := Lib.hid (hmk.extW E21.out (by omega)); have A22 := Lib.hid (hmk.lv.heap A21.out (fun h => by omega)); have D22 := Lib.hid (hmk.lv.heap D21.out (fun h => by omega))
        have HG22 : Hid (IntsOwn w5.heap.size w22 (.slice p6 rs.length c6') rs) := Lib.hid (row_lv HG21.out hmk.lv (fun b hb hd => by have := HGhi.out b hb; omega))
        have HK22 : Hid (IntsOwn w11.heap.size w22 (.slice p12 rs.length c12) rs) := Lib.hid (row_lv HK21.out hmk.lv (fun b hb hd => by have := HKlo.out b hb; omega))
        clear hmk t0 t1 t2
        have hkd : decide (kw + (n : Int) < 0) = false := by simp; omega
        generalize kw + (n : Int) = kz at *
        go_wp2_with (fail)
        refine (eqIntS_any _ _ rs rs _ HK22.out.at HG22.out.at).mono ?_
        rw [show eqB rs rs = true by simp [eqB]]
        rintro e w23 ⟨rfl, hE⟩
        have E23 := Lib.hid (E22.out.trans hE); have A23 := Lib.hid (hE.blk A22.out); have D23 := Lib.hid (hE.blk D22.out); have HG23 := Lib.hid (HG22.out.ext hE); have HK23 := Lib.hid (HK22.out.ext hE)
        clear hE
        have hxl : rs.length ≤ 1000000 := HRL.out
        go_wp2_with (fail)
        refine (markIntS_any w11.heap.size p12 rs.length c12 rs 1 _ rfl HK23.out (by omega) (by omega)).mono ?_
        rintro e w24 ⟨rfl, h1, h2⟩
        have HM24 : Hid (IntsOwn w11.heap.size w24 (.slice p12 rs.length c12) (marks 1 rs.length)) := Lib.hid (IntsOwn.mk h1 (marks_len 1 _))
        have HG24 := Lib.hid (HG23.out.beside HK23.out (fun b hb => by have := HGhi.out b hb; omega) h2)
        have E24 := Lib.hid (E23.out.grown h2 (fun b hb => by have := HKlo.out b hb; omega))
        have A24 := Lib.hid ((Lv.grown (D := fun b => w11.heap.size ≤ b) h2 (fun r hr _ => HKlo.out r hr)).heap A23.out (fun h => by omega))
        have D24 := Lib.hid ((Lv.grown (D := fun b => w11.heap.size ≤ b) h2 (fun r hr _ => HKlo.out r hr)).heap D23.out (fun h => by omega))
        clear h1 h2
        have hq0 : decide ((1 : Int) + (rs.length : Nat) < 0) = false := by simp; omega
        go_wp2_with (fail)
        refine (heldIntS_any _ rs.length 1 _ HM24.out.at (by omega) (by omega)).mono ?_
        rintro e w25 ⟨rfl, rfl⟩
        obtain ⟨y0, y1, -, -⟩ := blk2 A24.out
        obtain ⟨x0, x1, x2⟩ := blk3i D24.out
        go_wp2_with (fail)
        go_region_held3 (fun W => W.cell? ⟨w.heap.size, 0, none⟩ = some (.slice q1 na c1) ∧ W.cell? ⟨w.heap.size, 1, none⟩ = some (.slice q2 np c2) ∧ W.cell? ⟨w.heap.size + 1, 0, none⟩ = some (.int .i64 i) ∧ W.cell? ⟨w.heap.size + 1, 1, none⟩ = some (.int .i64 j) ∧ W.cell? ⟨w.heap.size + 1, 2, none⟩ = some (.slice qi n ci))
          (first | exact ⟨y0, y1, x0, x1, x2⟩ | exact ⟨g3.keep y0, g3.keep y1, g3.keep x0, g3.keep x1, g3.keep x2⟩ | exact ⟨g4.keep y0, g4.keep y1, g4.keep x0, g4.keep x1, g4.keep x2⟩ | exact ⟨g5.keep y0, g5.keep y1, g5.keep x0, g5.keep x1, g5.keep x2⟩ | exact ⟨g6.keep y0, g6.keep y1, g6.keep x0, g6.keep x1, g6.keep x2⟩ | fail)
          (first | (go_at_call 13; (with_reducible refine (toProgram_any _ ars ps _ (HS.out.ext (E24.out.trans (Ext.refl w24).drew)) HSA.out HSP.out).mono ?_); rintro r w26 ⟨⟨v26, rfl, hv26⟩, hE26⟩; have g3 := (Ext.refl w24).drew.trans hE26; have HV26 := Lib.hid hv26.at; have G3 := Lib.hid g3; clear hE26 hv26) | (go_at_call 30; (with_reducible refine (toIntS_any _ xs _ (HX.out.ext (E24.out.trans G3.out)) (by rw [HNM.out]; exact hnm20)).mono ?_); rintro r w27 ⟨p27, d27, rfl, hv27, hE27⟩; have g4 := G3.out.trans hE27; have HV27 := Lib.hid hv27.at; have HV267 := Lib.hid (HV26.out.ext hE27); have G4 := Lib.hid g4; clear hE27 hv27) | (go_at_call 22; (with_reducible refine (toInstance_any i j _ pt _ (HI.out.ext (E24.out.trans G4.out)) (by rw [HN.out]; exact hn20)).mono ?_); rintro r w28 ⟨q28, d28, rfl, hv28, hE28⟩; have g5 := G4.out.trans hE28; have hcp28 := own_cap hv28 rfl; have HV28 := Lib.hid hv28.at; have HV268 := Lib.hid (HV267.out.ext hE28); have HV278 := Lib.hid (HV27.out.ext hE28); have G5 := Lib.hid g5; clear hE28 hv28) | (go_at_call 35; (with_reducible refine (RunInstance_any v26 ars ps p27 _ d27 xs i j q28 _ d28 pt _ HV268.out rfl HV278.out HV28.out hcp28).mono ?_); rw [HRS.out, HRB.out]; rintro r w29 ⟨⟨v29, rfl, hv29⟩, hE29⟩; have g6 := G5.out.trans hE29) | fail)
        have E29 := Lib.hid (E24.out.trans g6); have HG29 := Lib.hid (HG24.out.ext g6); have HM29 := Lib.hid (HM24.out.ext g6); have HH29 := Lib.hid hv29
        clear g3 g4 g5 g6 y0 y1 x0 x1 x2 HV26 HV27 HV28 HV267 HV268 HV278 G3 G4 G5 hv29 hE29 hcp28
        obtain ⟨p29, c29, rfl⟩ := row_form HH29.out
        go_wp2_with (fail)
        refine (eqIntS_any _ _ rs rs _ HH29.out.at HG29.out.at).mono ?_
        rw [show eqB rs rs = true by simp [eqB]]
        rintro e w30 ⟨rfl, hE⟩
        have E30 := Lib.hid (E29.out.trans hE); have HM30 := Lib.hid (HM29.out.ext hE)
        clear hE
        go_wp2_with (fail)
        refine (heldIntS_any _ rs.length 1 _ HM30.out.at (by omega) (by omega)).mono ?_
        rintro e w31 ⟨rfl, rfl⟩
        go_wp2
        go_ret
        exact ⟨rfl, E30.out⟩
theorem walkFnExactRunInstance (v s t : Value) (w : World) (h : RProg w v) (h1 : RInts w s) (h2 : RInst w t) :
    Calls Tryz.prog 7 #[v, s, t] w fun e w' => e = .returned (.bool true) ∧ Below w.heap.size w w' := by
  obtain ⟨ars, ps, hs⟩ := h
  obtain ⟨xs, hx, -⟩ := h1
  obtain ⟨i, j, u, pt, rfl, -, -, hi⟩ := h2
  exact walk0FnExactRunInstance riR_len v s u ars ps xs i j pt w hs hx hi
end Go.Proofs.YtmhldhjpfeageabGreat

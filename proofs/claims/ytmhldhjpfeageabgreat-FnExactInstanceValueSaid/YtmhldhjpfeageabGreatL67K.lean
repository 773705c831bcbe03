/- FnExactInstanceValue: InstanceValue answers as its model at every argument: the walk. -/
import Derived.Test.YtmhldhjpfeageabGreatK45
import Derived.Test.YtmhldhjpfeageabGreatK44
import Derived.Test.YtmhldhjpfeageabGreatK26
import Derived.Test.YtmhldhjpfeageabGreatK28
namespace Go.Proofs.YtmhldhjpfeageabGreat
open Go.RowKit

set_option maxRecDepth 100000 in
set_option maxHeartbeats 8000000 in
theorem walk0FnExactInstanceValue (v s sp : Value) (ars : List Arr) (ps : List Pt) (xs : List Int) (i j : Int) (pt : List Int) (w : World) (hs : PrR w v ars ps) (hx : IntsAt w s xs) (hi : IntsAt w sp pt) :
    Calls Tryz.prog 6 #[v, s, .agg #[.int .i64 i, .int .i64 j, sp]] w fun r w' => r = .returned (.bool true) ∧ Ext w w' := by
  have HS := Lib.hid hs; have HI := Lib.hid hi; have HX := Lib.hid hx
  obtain ⟨rz, hrz⟩ : ∃ rz, ivV ars ps xs i j pt = rz := ⟨_, rfl⟩
  obtain ⟨rb, hrb⟩ : ∃ rb, ivOk ars ps xs i j pt = rb := ⟨_, rfl⟩
  have hnb : (rb != rb) = false := by simp
  have hnz : (rz != rz) = false := by simp
  have HRZ := Lib.hid hrz; have HRB := Lib.hid hrb
  clear hrz hrb
  obtain ⟨q1, c1, q2, c2, rfl, -, -, -, -⟩ := hs.parts
  obtain ⟨qi, ci, rfl, hm, -⟩ := id hi
  obtain ⟨qm, cm, rfl, hmm, -⟩ := id hx
  obtain ⟨na, hna⟩ : ∃ n, ars.length = n := ⟨_, rfl⟩
  obtain ⟨np, hnp⟩ : ∃ n, ps.length = n := ⟨_, rfl⟩
  obtain ⟨n, hn⟩ : ∃ n, pt.length = n := ⟨_, rfl⟩
  obtain ⟨nm, hnm⟩ : ∃ n, xs.length = n := ⟨_, rfl⟩
  rw [hna, hnp] at HS ⊢
  rw [hn] at HI hm ⊢
  rw [hnm] at HX hmm ⊢
  have HNA := Lib.hid hna; have HNP := Lib.hid hnp; have HN := Lib.hid hn; have HNM := Lib.hid hnm
  clear hs hi hx hna hnp hn hnm
  by_cases hbig : (1048576 : Int) < nm
  · go_enter Tryz.func6, Tryz.ntmps6
    go_wp2
    go_ret
    exact ⟨rfl, ((Ext.refl w).alloc _).alloc _⟩
  · have hnm20 : nm ≤ 1048576 := by omega
    go_enter Tryz.func6, Tryz.ntmps6
    go_wp2_with (fail)
    obtain ⟨W0, hW0⟩ : ∃ W0, ((w.alloc (.cells #[.slice q1 na c1, .slice q2 np c2] 25)).alloc (.cells #[.int .i64 i, .int .i64 j, .slice qi n ci] 41)) = W0 := ⟨_, rfl⟩
    have E0 : Hid (Ext w W0) := Lib.hid (by rw [← hW0]; exact ((Ext.refl w).alloc _).alloc _)
    have A0 := Lib.hid (show W0.heap[w.heap.size]? = some (.cells #[.slice q1 na c1, .slice q2 np c2] 25 (0, 0)) by rw [← hW0]; exact blk_old (blk_at rfl))
    have D0 := Lib.hid (show W0.heap[w.heap.size + 1]? = some (.cells #[.int .i64 i, .int .i64 j, .slice qi n ci] 41 (0, 0)) by rw [← hW0]; exact blk_at (by simp))
    try rw [hW0]
    clear hW0
    refine (szProgram_any _ ars ps _ _ (HS.out.ext E0.out) (by omega) (by omega)).mono ?_
    rintro r w1 ⟨⟨z, rfl, hz⟩, hE⟩
    have A1 := Lib.hid (hE.blk A0.out); have D1 := Lib.hid (hE.blk D0.out); have E1 := Lib.hid (E0.out.trans hE)
    clear hE
    rcases hz with rfl | ⟨z0, z1, hsa, hsp⟩
    · go_wp2_with (fail)
      go_ret
      exact ⟨rfl, E1.out⟩
    · have HSA := Lib.hid hsa; have HSP := Lib.hid hsp; clear hsa hsp
      obtain ⟨x0, x1, x2⟩ := blk3i D1.out
      have hzn : decide (z < 0) = false := by simp; omega
      go_wp2_with (fail)
      refine (szInstance_any i j qi n ci z _ hm z0 z1).mono ?_
      rintro r w2 ⟨rfl, hE⟩
      have A2 := Lib.hid (hE.blk A1.out); have D2 := Lib.hid (hE.blk D1.out); have E2 := Lib.hid (E1.out.trans hE)
      clear hE x0 x1 x2
      by_cases hzl : z < n
      · have hy : szI z n = -1 := by unfold szI; rw [if_pos (by omega)]
        rw [hy]
        go_wp2_with (fail)
        go_ret
        exact ⟨rfl, E2.out⟩
      · have hy : szI z n = z - n := by unfold szI; rw [if_neg (by omega)]
        rw [hy]
        have hzn' : decide (z - (n : Int) < 0) = false := by simp; omega
        have hn20 : n ≤ 1048576 := by omega
        generalize z - (n : Int) = z2 at *
        obtain ⟨y0, y1, -, -⟩ := blk2 A2.out
        obtain ⟨x0, x1, x2⟩ := blk3i D2.out
        clear hy
        go_wp2_with (fail)
        go_region_held3 (fun W => W.cell? ⟨w.heap.size, 0, none⟩ = some (.slice q1 na c1) ∧ W.cell? ⟨w.heap.size, 1, none⟩ = some (.slice q2 np c2) ∧ W.cell? ⟨w.heap.size + 1, 0, none⟩ = some (.int .i64 i) ∧ W.cell? ⟨w.heap.size + 1, 1, none⟩ = some (.int .i64 j) ∧ W.cell? ⟨w.heap.size + 1, 2, none⟩ = some (.slice qi n ci))
          (first | exact ⟨y0, y1, x0, x1, x2⟩ | exact ⟨g3.keep y0, g3.keep y1, g3.keep x0, g3.keep x1, g3.keep x2⟩ | exact ⟨g4.keep y0, g4.keep y1, g4.keep x0, g4.keep x1, g4.keep x2⟩ | exact ⟨g5.keep y0, g5.keep y1, g5.keep x0, g5.keep x1, g5.keep x2⟩ | exact ⟨g6.keep y0, g6.keep y1, g6.keep x0, g6.keep x1, g6.keep x2⟩ | fail)
          (first | (go_at_call 13; (with_reducible refine (toProgram_any _ ars ps _ (HS.out.ext (E2.out.trans (Ext.refl w2).drew)) HSA.out HSP.out).mono ?_); rintro r w3 ⟨⟨v3, rfl, hv3⟩, hE3⟩; have g3 := (Ext.refl w2).drew.trans hE3; have HV3 := Lib.hid hv3.at; have G3 := Lib.hid g3; clear hE3 hv3) | (go_at_call 30; (with_reducible refine (toIntS_any _ xs _ (HX.out.ext (E2.out.trans G3.out)) (by rw [HNM.out]; exact hnm20)).mono ?_); rintro r w4 ⟨p4, d4, rfl, hv4, hE4⟩; have g4 := G3.out.trans hE4; have HV4 := Lib.hid hv4.at; have HV34 := Lib.hid (HV3.out.ext hE4); have G4 := Lib.hid g4; clear hE4 hv4) | (go_at_call 22; (with_reducible refine (toInstance_any i j _ pt _ (HI.out.ext (E2.out.trans G4.out)) (by rw [HN.out]; exact hn20)).mono ?_); rintro r w5 ⟨q5, d5, rfl, hv5, hE5⟩; have g5 := G4.out.trans hE5; have hcp5 := own_cap hv5 rfl; have HV5 := Lib.hid hv5.at; have HV35 := Lib.hid (HV34.out.ext hE5); have HV45 := Lib.hid (HV4.out.ext hE5); have G5 := Lib.hid g5; clear hE5 hv5) | (go_at_call 32; (with_reducible refine (specInstanceValue_any v3 ars ps p4 _ d4 xs i j q5 _ d5 pt _ HV35.out rfl HV45.out HV5.out hcp5).mono ?_); rw [HRZ.out, HRB.out]; rintro r w6 ⟨rfl, hE6⟩; have g6 := G5.out.trans hE6) | fail)
        have E6 := Lib.hid (E2.out.trans g6); have A6 := Lib.hid (g6.blk A2.out); have D6 := Lib.hid (g6.blk D2.out)
        clear g3 g4 g5 g6 y0 y1 x0 x1 x2 HV3 HV34 HV35 HV4 HV45 HV5 G3 G4 G5 hE6 hcp5
        obtain ⟨y0, y1, -, -⟩ := blk2 A6.out
        go_wp2_with (fail)
        refine (toProgram_any _ ars ps _ (HS.out.ext E6.out) HSA.out HSP.out).mono ?_
        rintro r w7 ⟨⟨v7, rfl, hv7⟩, hE⟩
        have E7 := Lib.hid (E6.out.trans hE); have A7 := Lib.hid (hE.blk A6.out); have D7 := Lib.hid (hE.blk D6.out); have HV7 := Lib.hid hv7.at
        obtain ⟨q3, c3, q4, c4, rfl, -, -, -, -⟩ := hv7.at.parts
        rw [HNA.out, HNP.out] at HV7 ⊢
        clear hE hv7 y0 y1
        obtain ⟨w8, hw8⟩ : ∃ w8, w7.alloc (.cells #[.slice q3 na c3, .slice q4 np c4] 32) = w8 := ⟨_, rfl⟩
        have X8 : Ext w7 w8 := by rw [← hw8]; exact (Ext.refl w7).alloc _
        have B8 := Lib.hid (show w8.heap[w7.heap.size]? = some (.cells #[.slice q3 na c3, .slice q4 np c4] 32 (0, 0)) by rw [← hw8]; exact blk_at rfl)
        have HW8 := Lib.hid hw8; have HX8 := Lib.hid X8
        clear hw8 X8
        go_wp2_with (fail)
        rw [HW8.out]
        refine (toIntS_any _ xs _ (HX.out.ext (E7.out.trans HX8.out)) (by rw [HNM.out]; exact hnm20)).mono ?_
        rintro e w9 ⟨p9, d9, rfl, hi9, hE⟩
        rw [HNM.out] at hi9 ⊢
        have X9 := Lib.hid (HX8.out.trans hE); have B9 := Lib.hid (hE.blk B8.out); have HM9 := Lib.hid hi9.at; have D9 := Lib.hid ((HX8.out.trans hE).blk D7.out)
        clear hE hi9
        have hl9 := lt_of_block D9.out
        obtain ⟨x0, x1, x2⟩ := blk3i D9.out
        go_wp2_with (fail)
        refine (toInstance_any i j _ pt _ (HI.out.ext (E7.out.trans X9.out)) (by rw [HN.out]; exact hn20)).mono ?_
        rintro r w10 ⟨q10, d10, rfl, hv10, hE⟩
        rw [HN.out] at hv10 ⊢
        have hcp10 := own_cap hv10 HN.out
        have X10 := Lib.hid (X9.out.trans hE); have B10 := Lib.hid (hE.blk B9.out); have HM10 := Lib.hid (HM9.out.ext hE); have HI10 := Lib.hid hv10.at; have D10 := Lib.hid (hE.blk D9.out)
        clear hE hv10 x0 x1 x2 hl9
        obtain ⟨w11, hw11⟩ : ∃ w11, w10.alloc (.cells #[.int .i64 i, .int .i64 j, .slice q10 n d10] 45) = w11 := ⟨_, rfl⟩
        have Y11 : Ext w10 w11 := by rw [← hw11]; exact (Ext.refl w10).alloc _
        have C11 := Lib.hid (show w11.heap[w10.heap.size]? = some (.cells #[.int .i64 i, .int .i64 j, .slice q10 n d10] 45 (0, 0)) by rw [← hw11]; exact blk_at rfl)
        have HW11 := Lib.hid hw11; have HY11 := Lib.hid Y11
        have hl10 := lt_of_block B10.out
        clear hw11 Y11
        obtain ⟨u0, u1, -, -⟩ := blk2 B10.out
        go_wp2_with (fail)
        rw [HW11.out]
        refine (InstanceValue_any _ ars ps p9 nm d9 xs i j q10 n d10 pt _ (HV7.out.ext (X10.out.trans HY11.out)) HNM.out (HM10.out.ext HY11.out) (HI10.out.ext HY11.out) hcp10).mono ?_
        rw [HRZ.out, HRB.out]
        rintro r w12 ⟨rfl, hE⟩
        have X12 := Lib.hid ((X10.out.trans HY11.out).trans hE); have B12 := Lib.hid ((HY11.out.trans hE).blk B10.out); have C12 := Lib.hid (hE.blk C11.out); have HM12 := Lib.hid (HM10.out.ext (HY11.out.trans hE)); have HI12 := Lib.hid (HI10.out.ext (HY11.out.trans hE))
        have A12 := Lib.hid (X12.out.blk A7.out); have D12 := Lib.hid ((HY11.out.trans hE).blk D10.out); have E12 := Lib.hid (E7.out.trans X12.out)
        clear hE u0 u1 hl10
        obtain ⟨y0, y1, -, -⟩ := blk2 A12.out
        obtain ⟨u0, u1, -, -⟩ := blk2 B12.out
        go_wp2
        go_region_held3 (fun W => W.cell? ⟨w.heap.size, 0, none⟩ = some (.slice q1 na c1) ∧ W.cell? ⟨w.heap.size, 1, none⟩ = some (.slice q2 np c2) ∧ W.cell? ⟨w7.heap.size, 0, none⟩ = some (.slice q3 na c3) ∧ W.cell? ⟨w7.heap.size, 1, none⟩ = some (.slice q4 np c4))
          (first | exact ⟨y0, y1, u0, u1⟩ | exact ⟨g3.keep y0, g3.keep y1, g3.keep u0, g3.keep u1⟩ | exact ⟨g4.keep y0, g4.keep y1, g4.keep u0, g4.keep u1⟩ | fail)
          (first | (go_at_call 13; (with_reducible refine (toProgram_any _ ars ps _ (HS.out.ext (E12.out.trans (Ext.refl w12).drew)) HSA.out HSP.out).mono ?_); rintro r w13 ⟨⟨v13, rfl, hv13⟩, hE13⟩; have g3 := (Ext.refl w12).drew.trans hE13; have HV13 := Lib.hid hv13.at; have G3 := Lib.hid g3; clear hE13 hv13) | (go_at_call 16; (with_reducible refine (eqProgram_same _ v13 ars ps _ (HV7.out.ext (X12.out.trans G3.out)) HV13.out).mono ?_); rintro r w14 ⟨rfl, hE14⟩; have g4 := G3.out.trans hE14) | fail)
        have E14 := Lib.hid (E12.out.trans g4); have D14 := Lib.hid (g4.blk D12.out); have C14 := Lib.hid (g4.blk C12.out); have HM14 := Lib.hid (HM12.out.ext g4); have HI14 := Lib.hid (HI12.out.ext g4)
        clear y0 y1 u0 u1 g3 g4 hE14 HV13 G3
        go_wp2_with (fail)
        refine (toIntS_any _ xs _ (HX.out.ext E14.out) (by rw [HNM.out]; exact hnm20)).mono ?_
        rintro e w15 ⟨p15, d15, rfl, hi15, hE⟩
        rw [HNM.out] at hi15 ⊢
        have E15 := Lib.hid (E14.out.trans hE); have HM15 := Lib.hid (HM14.out.ext hE); have HN15 := Lib.hid hi15.at; have D15 := Lib.hid (hE.blk D14.out); have C15 := Lib.hid (hE.blk C14.out); have HI15 := Lib.hid (HI14.out.ext hE)
        clear hE hi15
        go_wp2_with (fail)
        refine (eqIntS_any _ _ xs xs _ HM15.out HN15.out).mono ?_
        rintro e w16 ⟨rfl, hE⟩
        have E16 := Lib.hid (E15.out.trans hE); have D16 := Lib.hid (hE.blk D15.out); have C16 := Lib.hid (hE.blk C15.out); have HI16 := Lib.hid (HI15.out.ext hE)
        have heq : eqB xs xs = true := eqB_all (Nat.le_refl _) (Nat.le_refl _) rfl
        clear hE
        obtain ⟨x0, x1, x2⟩ := blk3i D16.out
        obtain ⟨t0, t1, t2⟩ := blk3i C16.out
        go_wp2
        go_region_held3 (fun W => W.cell? ⟨w.heap.size + 1, 0, none⟩ = some (.int .i64 i) ∧ W.cell? ⟨w.heap.size + 1, 1, none⟩ = some (.int .i64 j) ∧ W.cell? ⟨w.heap.size + 1, 2, none⟩ = some (.slice qi n ci) ∧ W.cell? ⟨w10.heap.size, 0, none⟩ = some (.int .i64 i) ∧ W.cell? ⟨w10.heap.size, 1, none⟩ = some (.int .i64 j) ∧ W.cell? ⟨w10.heap.size, 2, none⟩ = some (.slice q10 n d10))
          (first | exact ⟨x0, x1, x2, t0, t1, t2⟩ | exact ⟨g3.keep x0, g3.keep x1, g3.keep x2, g3.keep t0, g3.keep t1, g3.keep t2⟩ | exact ⟨g4.keep x0, g4.keep x1, g4.keep x2, g4.keep t0, g4.keep t1, g4.keep t2⟩ | fail)
          (first | (go_at_call 22; (with_reducible refine (toInstance_any i j _ pt _ (HI.out.ext (E16.out.trans (Ext.refl w16).drew)) (by rw [HN.out]; exact hn20)).mono ?_); rintro r w17 ⟨q17, d17, rfl, hv17, hE17⟩; have g3 := (Ext.refl w16).drew.trans hE17; have HV17 := Lib.hid hv17.at; have G3 := Lib.hid g3; clear hE17 hv17) | (go_at_call 25; (with_reducible refine (eqInstance_same i j _ _ pt _ (HI16.out.ext G3.out) HV17.out).mono ?_); rintro r w18 ⟨rfl, hE18⟩; have g4 := G3.out.trans hE18) | fail)
        have E18 := Lib.hid (E16.out.trans g4)
        clear x0 x1 x2 t0 t1 t2 g3 g4 hE18 HV17 G3
        go_wp2
        go_ret
        exact ⟨rfl, E18.out⟩
theorem walkFnExactInstanceValue (v s t : Value) (w : World) (h : RProg w v) (h1 : RInts w s) (h2 : RInst w t) :
    Calls Tryz.prog 6 #[v, s, t] w fun e w' => e = .returned (.bool true) ∧ Below w.heap.size w w' := by
  obtain ⟨ars, ps, hs⟩ := h
  obtain ⟨xs, hx, -⟩ := h1
  obtain ⟨i, j, u, pt, rfl, -, -, hi⟩ := h2
  exact walk0FnExactInstanceValue v s u ars ps xs i j pt w hs hx hi
end Go.Proofs.YtmhldhjpfeageabGreat

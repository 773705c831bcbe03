/- FnExactInstanceCells: InstanceCells answers as its model at every argument: the walk. -/
import Derived.Test.YtmhldhjpfeageabGreatK42
import Derived.Test.YtmhldhjpfeageabGreatK51
import Derived.Test.YtmhldhjpfeageabGreatK49
import Derived.Test.YtmhldhjpfeageabGreatK47
import Derived.Test.YtmhldhjpfeageabGreatK28
namespace Go.Proofs.YtmhldhjpfeageabGreat
open Go.RowKit

theorem Mk.extW {B : Nat} {W w0 a b : World} (h : Mk B w0 a b) (hE : Ext W a) (hB : W.heap.size ≤ B) : Ext W b :=
  ⟨h.lv.os.trans hE.os, h.lv.tape.trans hE.tape, h.lv.output.trans hE.output, Nat.le_trans hE.size h.lv.size, fun i hi => (h.lv.block i (Nat.lt_of_lt_of_le hi hE.size) (fun hd => by omega)).trans (hE.block i hi)⟩
set_option maxRecDepth 100000 in
set_option maxHeartbeats 8000000 in
theorem walkHFnExactInstanceCells (R : List Arr → List Pt → Int → Int → List Int → List Int) (Rz : List Arr → List Pt → Int → Int → List Int → Int) (Rb : List Arr → List Pt → Int → Int → List Int → Bool) (hRl : ∀ ars ps i j pt, (R ars ps i j pt).length ≤ 1000000)
    (hspec : ∀ (v : Value) (ars : List Arr) (ps : List Pt) (i j : Int) (pp : Option Addr) (n c : Nat) (pt : List Int) (w : World), PrR w v ars ps → IntsAt w (.slice pp n c) pt → n ≤ c → Calls Tryz.prog 21 #[v, .agg #[.int .i64 i, .int .i64 j, .slice pp n c]] w fun e w' => (∃ v', e = .returned (.tuple #[v', .int .i64 (Rz ars ps i j pt), .bool (Rb ars ps i j pt)]) ∧ IntsOwn w.heap.size w' v' (R ars ps i j pt)) ∧ Ext w w')
    (himpl : ∀ (v : Value) (ars : List Arr) (ps : List Pt) (i j : Int) (pp : Option Addr) (n c : Nat) (pt : List Int) (w : World), PrR w v ars ps → IntsAt w (.slice pp n c) pt → n ≤ c → Calls Tryz.prog 23 #[v, .agg #[.int .i64 i, .int .i64 j, .slice pp n c]] w fun e w' => (∃ v', e = .returned (.tuple #[v', .int .i64 (Rz ars ps i j pt), .bool (Rb ars ps i j pt)]) ∧ IntsOwn w.heap.size w' v' (R ars ps i j pt)) ∧ Ext w w')
    (v s : Value) (ars : List Arr) (ps : List Pt) (i j : Int) (pt : List Int) (w : World) (hs : PrR w v ars ps) (hi : IntsAt w s pt) :
    Calls Tryz.prog 4 #[v, .agg #[.int .i64 i, .int .i64 j, s]] w fun r w' => r = .returned (.bool true) ∧ Ext w w' := by
  have HS := Lib.hid hs; have HI := Lib.hid hi
  obtain ⟨xs, hxs⟩ : ∃ xs, R ars ps i j pt = xs := ⟨_, rfl⟩
  obtain ⟨rz, hrz⟩ : ∃ rz, Rz ars ps i j pt = rz := ⟨_, rfl⟩
  obtain ⟨rb, hrb⟩ : ∃ rb, Rb ars ps i j pt = rb := ⟨_, rfl⟩
  have hnb : (rb != rb) = false := by simp
  have hnz : (rz != rz) = false := by simp
  have HXL : Hid (xs.length ≤ 1000000) := Lib.hid (by rw [← hxs]; exact hRl ars ps i j pt)
  have HSPEC := Lib.hid (fun v pp n c w (h : PrR w v ars ps) (h2 : IntsAt w (.slice pp n c) pt) (h3 : n ≤ c) => hrz ▸ hrb ▸ hxs ▸ hspec v ars ps i j pp n c pt w h h2 h3)
  have HIMPL := Lib.hid (fun v pp n c w (h : PrR w v ars ps) (h2 : IntsAt w (.slice pp n c) pt) (h3 : n ≤ c) => hrz ▸ hrb ▸ hxs ▸ himpl v ars ps i j pp n c pt w h h2 h3)
  clear hspec himpl hRl hxs hrb hrz
  obtain ⟨q1, c1, q2, c2, rfl, -, -, -, -⟩ := hs.parts
  obtain ⟨qi, ci, rfl, hm, -⟩ := id hi
  obtain ⟨na, hna⟩ : ∃ n, ars.length = n := ⟨_, rfl⟩
  obtain ⟨np, hnp⟩ : ∃ n, ps.length = n := ⟨_, rfl⟩
  obtain ⟨n, hn⟩ : ∃ n, pt.length = n := ⟨_, rfl⟩
  rw [hna, hnp] at HS ⊢
  rw [hn] at HI hm ⊢
  have HNA := Lib.hid hna; have HNP := Lib.hid hnp; have HN := Lib.hid hn
  clear hs hi hna hnp hn
  go_enter Tryz.func4, Tryz.ntmps4
  go_wp2_with (fail)
  obtain ⟨W0, hW0⟩ : ∃ W0, ((w.alloc (.cells #[.slice q1 na c1, .slice q2 np c2] 25)).alloc (.cells #[.int .i64 i, .int .i64 j, .slice qi n ci] 41)) = W0 := ⟨_, rfl⟩
  have E0 : Hid (Ext w W0) := Lib.hid (by rw [← hW0]; exact ((Ext.refl w).alloc _).alloc _)
  have A0 := Lib.hid (show W0.heap[w.heap.size]? = some (.cells #[.slice q1 na c1, .slice q2 np c2] 25 (0, 0)) by rw [← hW0]; exact blk_old (blk_at rfl))
  have D0 := Lib.hid (show W0.heap[w.heap.size + 1]? = some (.cells #[.int .i64 i, .int .i64 j, .slice qi n ci] 41 (0, 0)) by rw [← hW0]; exact blk_at (by simp))
  try rw [hW0]
  clear hW0
  refine (szProgramW_any _ ars ps _ _ (HS.out.ext E0.out) (by omega) (by omega)).mono ?_
  rintro r w1 ⟨⟨z, rfl, hz⟩, hE⟩
  have A1 := Lib.hid (hE.blk A0.out); have D1 := Lib.hid (hE.blk D0.out); have E1 := Lib.hid (E0.out.trans hE)
  clear hE
  rcases hz with rfl | ⟨z0, z1, hcp, hsa, hsp⟩
  · go_wp2_with (fail)
    go_ret
    exact ⟨rfl, E1.out⟩
  · have HSA := Lib.hid hsa; have HSP := Lib.hid hsp; have HCP := Lib.hid hcp; clear hsa hsp hcp
    obtain ⟨x0, x1, x2⟩ := blk3i D1.out
    have hzn : decide (z < 0) = false := by simp; omega
    go_wp2_with (fail)
    refine (szInstance_any i j qi n ci z _ hm z0 z1).mono ?_
    rintro r w2 ⟨rfl, hE⟩
    have A2 := Lib.hid (hE.blk A1.out); have D2 := Lib.hid (hE.blk D1.out); have E2 := Lib.hid (E1.out.trans hE)
    clear hE x0 x1 x2
    by_cases hzl : z < n
    · have hy : szI z n = -1 := by unfold szI; rw [if_pos (by omega)]
      rw [hy]
      go_wp2_with (fail)
      go_ret
      exact ⟨rfl, E2.out⟩
    · have hy : szI z n = z - n := by unfold szI; rw [if_neg (by omega)]
      rw [hy]
      have hzn' : decide (z - (n : Int) < 0) = false := by simp; omega
      have hn20 : n ≤ 1048576 := by omega
      generalize z - (n : Int) = z2 at *
      obtain ⟨y0, y1, -, -⟩ := blk2 A2.out
      obtain ⟨x0, x1, x2⟩ := blk3i D2.out
      clear hy
      go_wp2_with (fail)
      go_region_held3 (fun W => W.cell? ⟨w.heap.size, 0, none⟩ = some (.slice q1 na c1) ∧ W.cell? ⟨w.heap.size, 1, none⟩ = some (.slice q2 np c2) ∧ W.cell? ⟨w.heap.size + 1, 0, none⟩ = some (.int .i64 i) ∧ W.cell? ⟨w.heap.size + 1, 1, none⟩ = some (.int .i64 j) ∧ W.cell? ⟨w.heap.size + 1, 2, none⟩ = some (.slice qi n ci))
        (first | exact ⟨y0, y1, x0, x1, x2⟩ | exact ⟨g3.keep y0, g3.keep y1, g3.keep x0, g3.keep x1, g3.keep x2⟩ | exact ⟨g4.keep y0, g4.keep y1, g4.keep x0, g4.keep x1, g4.keep x2⟩ | exact ⟨g5.keep y0, g5.keep y1, g5.keep x0, g5.keep x1, g5.keep x2⟩ | fail)
        (first | (go_at_call 13; (with_reducible refine (toProgram_any _ ars ps _ (HS.out.ext (E2.out.trans (Ext.refl w2).drew)) HSA.out HSP.out).mono ?_); rintro r w3 ⟨⟨v3, rfl, hv3⟩, hE3⟩; have g3 := (Ext.refl w2).drew.trans hE3; have HV3 := Lib.hid hv3.at; have G3 := Lib.hid g3; clear hE3 hv3) | (go_at_call 22; (with_reducible refine (toInstance_any i j _ pt _ (HI.out.ext (E2.out.trans G3.out)) (by rw [HN.out]; exact hn20)).mono ?_); rintro r w4 ⟨q4, d4, rfl, hv4, hE4⟩; have g4 := G3.out.trans hE4; have hcp4 := own_cap hv4 rfl; have HV4 := Lib.hid hv4.at; have HV34 := Lib.hid (HV3.out.ext hE4); have G4 := Lib.hid g4; clear hE4 hv4) | (go_at_call 21; (with_reducible refine (HSPEC.out v3 q4 _ d4 _ HV34.out HV4.out hcp4).mono ?_); rintro r w5 ⟨⟨v5, rfl, hv5⟩, hE5⟩; have g5 := G4.out.trans hE5) | fail)
      have E5 := Lib.hid (E2.out.trans g5); have A5 := Lib.hid (g5.blk A2.out); have D5 := Lib.hid (g5.blk D2.out); have HG5 := Lib.hid hv5
      have S5 := Lib.hid (hE5.size_le)
      have S4 := Lib.hid (show w.heap.size + 2 ≤ w4.heap.size by have h1 := lt_of_block (g4.blk D2.out); omega)
      clear g3 g4 g5 y0 y1 x0 x1 x2 HV3 HV34 HV4 G3 G4 hv5 hE5 hcp4
      obtain ⟨y0, y1, -, -⟩ := blk2 A5.out
      go_wp2_with (fail)
      refine (toProgram_any _ ars ps _ (HS.out.ext E5.out) HSA.out HSP.out).mono ?_
      rintro r w6 ⟨⟨v6, rfl, hv6⟩, hE⟩
      have E6 := Lib.hid (E5.out.trans hE); have A6 := Lib.hid (hE.blk A5.out); have D6 := Lib.hid (hE.blk D5.out); have HPO := Lib.hid hv6; have HG6 := Lib.hid (HG5.out.ext hE); have S6 := Lib.hid hE.size_le
      obtain ⟨q7, c7, q8, c8, rfl, -, -, -, -⟩ := hv6.at.parts
      rw [HNA.out, HNP.out] at HPO ⊢
      clear hE hv6 y0 y1
      obtain ⟨w7, hw7⟩ : ∃ w7, w6.alloc (.cells #[.slice q7 na c7, .slice q8 np c8] 32) = w7 := ⟨_, rfl⟩
      have X7 : Ext w6 w7 := by rw [← hw7]; exact (Ext.refl w6).alloc _
      have B7 := Lib.hid (show w7.heap[w6.heap.size]? = some (.cells #[.slice q7 na c7, .slice q8 np c8] 32 (0, 0)) by rw [← hw7]; exact blk_at rfl)
      have HW7 := Lib.hid hw7; have HX7 := Lib.hid X7
      have hl7 := lt_of_block D6.out
      obtain ⟨x0, x1, x2⟩ := blk3i D6.out
      clear hw7 X7
      go_wp2_with (fail)
      rw [HW7.out]
      refine (toInstance_any i j _ pt _ (HI.out.ext (E6.out.trans HX7.out)) (by rw [HN.out]; exact hn20)).mono ?_
      rintro r w8 ⟨q9, d9, rfl, hv9, hE⟩
      rw [HN.out] at hv9 ⊢
      have hcp9 := own_cap hv9 HN.out
      have X8 := Lib.hid (HX7.out.trans hE)
      have E8 := Lib.hid (E6.out.trans X8.out); have B8 := Lib.hid (hE.blk B7.out); have A8 := Lib.hid (X8.out.blk A6.out); have D8 := Lib.hid (X8.out.blk D6.out); have HV9 := Lib.hid hv9; have HG8 := Lib.hid (HG6.out.ext X8.out); have S7 := Lib.hid HX7.out.size_le; have S8 := Lib.hid hE.size_le
      clear hE hv9 x0 x1 x2 hl7
      obtain ⟨w9, hw9⟩ : ∃ w9, w8.alloc (.cells #[.int .i64 i, .int .i64 j, .slice q9 n d9] 45) = w9 := ⟨_, rfl⟩
      have X9 : Ext w8 w9 := by rw [← hw9]; exact (Ext.refl w8).alloc _
      have C9 := Lib.hid (show w9.heap[w8.heap.size]? = some (.cells #[.int .i64 i, .int .i64 j, .slice q9 n d9] 45 (0, 0)) by rw [← hw9]; exact blk_at rfl)
      have HW9 := Lib.hid hw9; have HX9 := Lib.hid X9; have S9 := Lib.hid X9.size_le
      have hl8 := lt_of_block B8.out
      clear hw9 X9
      obtain ⟨u0, u1, -, -⟩ := blk2 B8.out
      go_wp2_with (fail)
      rw [HW9.out]
      refine (HIMPL.out _ q9 n d9 _ (HPO.out.at.ext (X8.out.trans HX9.out)) (HV9.out.at.ext HX9.out) hcp9).mono ?_
      rintro r w10 ⟨⟨v10, rfl, hv10⟩, hE⟩
      have X10 := Lib.hid (HX9.out.trans hE)
      have E10 := Lib.hid (E8.out.trans X10.out); have A10 := Lib.hid (X10.out.blk A8.out); have D10 := Lib.hid (X10.out.blk D8.out); have B10 := Lib.hid (X10.out.blk B8.out); have C10 := Lib.hid (hE.blk C9.out); have HG10 := Lib.hid (HG8.out.ext X10.out); have HK10 := Lib.hid hv10; have S10 := Lib.hid hE.size_le
      have HPO10 := Lib.hid (X8.out.trans X10.out)
      clear hE hv10 u0 u1 hl8
      have HKlo : Hid (∀ b, v10.ownBlock = some b → w9.heap.size ≤ b) := Lib.hid (fun b hb => (HK10.out.lt b hb).1)
      have HGhi : Hid (∀ b, v5.ownBlock = some b → b < w5.heap.size) := Lib.hid HG5.out.block_lt
      obtain ⟨p5, c5', rfl⟩ := row_form HG10.out
      obtain ⟨p10, c10, rfl⟩ := row_form HK10.out
      go_wp2_with (fail)
      refine (eqIntS_any _ _ xs xs _ HK10.out.at HG10.out.at).mono ?_
      rw [show eqB xs xs = true by simp [eqB]]
      rintro e w11 ⟨rfl, hE⟩
      have E11 := Lib.hid (E10.out.trans hE); have A11 := Lib.hid (hE.blk A10.out); have D11 := Lib.hid (hE.blk D10.out); have B11 := Lib.hid (hE.blk B10.out); have C11 := Lib.hid (hE.blk C10.out); have HG11 := Lib.hid (HG10.out.ext hE); have HK11 := Lib.hid (HK10.out.ext hE); have X11 := Lib.hid (HPO10.out.trans hE); have X11' := Lib.hid (X10.out.trans hE)
      clear hE
      obtain ⟨y0, y1, -, -⟩ := blk2 A11.out
      obtain ⟨u0, u1, -, -⟩ := blk2 B11.out
      go_wp2
      go_region_held3 (fun W => W.cell? ⟨w.heap.size, 0, none⟩ = some (.slice q1 na c1) ∧ W.cell? ⟨w.heap.size, 1, none⟩ = some (.slice q2 np c2) ∧ W.cell? ⟨w6.heap.size, 0, none⟩ = some (.slice q7 na c7) ∧ W.cell? ⟨w6.heap.size, 1, none⟩ = some (.slice q8 np c8))
        (first | exact ⟨y0, y1, u0, u1⟩ | exact ⟨g3.keep y0, g3.keep y1, g3.keep u0, g3.keep u1⟩ | exact ⟨g4.keep y0, g4.keep y1, g4.keep u0, g4.keep u1⟩ | fail)
        (first | (go_at_call 13; (with_reducible refine (toProgram_any _ ars ps _ (HS.out.ext (E11.out.trans (Ext.refl w11).drew)) HSA.out HSP.out).mono ?_); rintro r w12 ⟨⟨v12, rfl, hv12⟩, hE12⟩; have g3 := (Ext.refl w11).drew.trans hE12; have HV12 := Lib.hid hv12.at; have G3 := Lib.hid g3; clear hE12 hv12) | (go_at_call 16; (with_reducible refine (eqProgram_same _ v12 ars ps _ (HPO.out.at.ext (X11.out.trans G3.out)) HV12.out).mono ?_); rintro r w13 ⟨rfl, hE13⟩; have g4 := G3.out.trans hE13) | fail)
      have E13 := Lib.hid (E11.out.trans g4); have X13 := Lib.hid (X11.out.trans g4); have X13' := Lib.hid (X11'.out.trans g4); have A13 := Lib.hid (g4.blk A11.out); have D13 := Lib.hid (g4.blk D11.out); have B13 := Lib.hid (g4.blk B11.out); have C13 := Lib.hid (g4.blk C11.out); have HG13 := Lib.hid (HG11.out.ext g4); have HK13 := Lib.hid (HK11.out.ext g4)
      clear y0 y1 u0 u1 g3 g4 hE13 HV12 G3
      obtain ⟨x0, x1, x2⟩ := blk3i D13.out
      obtain ⟨t0, t1, t2⟩ := blk3i C13.out
      go_wp2
      go_region_held3 (fun W => W.cell? ⟨w.heap.size + 1, 0, none⟩ = some (.int .i64 i) ∧ W.cell? ⟨w.heap.size + 1, 1, none⟩ = some (.int .i64 j) ∧ W.cell? ⟨w.heap.size + 1, 2, none⟩ = some (.slice qi n ci) ∧ W.cell? ⟨w8.heap.size, 0, none⟩ = some (.int .i64 i) ∧ W.cell? ⟨w8.heap.size, 1, none⟩ = some (.int .i64 j) ∧ W.cell? ⟨w8.heap.size, 2, none⟩ = some (.slice q9 n d9))
        (first | exact ⟨x0, x1, x2, t0, t1, t2⟩ | exact ⟨g3.keep x0, g3.keep x1, g3.keep x2, g3.keep t0, g3.keep t1, g3.keep t2⟩ | exact ⟨g4.keep x0, g4.keep x1, g4.keep x2, g4.keep t0, g4.keep t1, g4.keep t2⟩ | fail)
        (first | (go_at_call 22; (with_reducible refine (toInstance_any i j _ pt _ (HI.out.ext (E13.out.trans (Ext.refl w13).drew)) (by rw [HN.out]; exact hn20)).mono ?_); rintro r w14 ⟨q14, d14, rfl, hv14, hE14⟩; have g3 := (Ext.refl w13).drew.trans hE14; have HV14 := Lib.hid hv14.at; have G3 := Lib.hid g3; clear hE14 hv14) | (go_at_call 25; (with_reducible refine (eqInstance_same i j _ _ pt _ (HV9.out.at.ext (X13'.out.trans G3.out)) HV14.out).mono ?_); rintro r w15 ⟨rfl, hE15⟩; have g4 := G3.out.trans hE15) | fail)
      have E15 := Lib.hid (E13.out.trans g4); have X15 := Lib.hid (X13.out.trans g4); have X15' := Lib.hid (X13'.out.trans g4); have A15 := Lib.hid (g4.blk A13.out); have D15 := Lib.hid (g4.blk D13.out); have B15 := Lib.hid (g4.blk B13.out); have C15 := Lib.hid (g4.blk C13.out); have HG15 := Lib.hid (HG13.out.ext g4); have HK15 := Lib.hid (HK13.out.ext g4)
      clear x0 x1 x2 t0 t1 t2 g3 g4 hE15 HV14 G3
      obtain ⟨u0, u1, -, -⟩ := blk2 B15.out
      have q4le : w4.heap.size ≤ w5.heap.size := S5.out
      have q5le : w5.heap.size ≤ w6.heap.size := S6.out
      have q6le : w6.heap.size ≤ w7.heap.size := S7.out
      have q7le : w7.heap.size ≤ w8.heap.size := S8.out
      have q8le : w8.heap.size ≤ w9.heap.size := S9.out
      have q0le : w.heap.size + 2 ≤ w4.heap.size := S4.out
      go_wp2_with (fail)
      refine (markProgram_sh w5.heap.size w6 _ ars ps 1 _ HPO.out ((Sh.refl _ w6).ext X15.out) (by omega) (by have := HCP.out; omega)).mono ?_
      rintro e w16 ⟨rfl, hmk⟩
      have E16 := Lib.hid (hmk.extW E15.out (by omega)); have A16 := Lib.hid (hmk.lv.heap A15.out (fun h => by omega)); have D16 := Lib.hid (hmk.lv.heap D15.out (fun h => by omega)); have C16 := Lib.hid (hmk.lv.heap C15.out (fun h => by omega))
      have HG16 : Hid (IntsOwn w4.heap.size w16 (.slice p5 xs.length c5') xs) := Lib.hid (row_lv HG15.out hmk.lv (fun b hb hd => by have := HGhi.out b hb; omega))
      have HK16 : Hid (IntsOwn w9.heap.size w16 (.slice p10 xs.length c10) xs) := Lib.hid (row_lv HK15.out hmk.lv (fun b hb hd => by have := HKlo.out b hb; omega))
      have HI16 : Hid (Sh w7.heap.size w8 w16) := Lib.hid (((Sh.refl _ w8).ext X15'.out).lv hmk.lv (fun g h1 h2 => by omega))
      clear hmk u0 u1
      have hk1 : (0 : Int) ≤ 1 + (cPr ars ps : Nat) := by omega
      have hk2 : (1 : Int) + (cPr ars ps : Nat) ≤ 100000000 := by have := HCP.out; omega
      generalize (1 : Int) + (cPr ars ps : Nat) = ky at *
      obtain ⟨t0, t1, t2⟩ := blk3i C16.out
      go_wp2_with (fail)
      refine (markInstance_sh w7.heap.size w8 i j q9 n d9 pt ky _ HN.out HV9.out HI16.out hk1 (by omega)).mono ?_
      rintro e w17 ⟨rfl, hmk⟩
      have E17 := Lib.hid (hmk.extW E16.out (by omega)); have A17 := Lib.hid (hmk.lv.heap A16.out (fun h => by omega)); have D17 := Lib.hid (hmk.lv.heap D16.out (fun h => by omega))
      have HG17 : Hid (IntsOwn w4.heap.size w17 (.slice p5 xs.length c5') xs) := Lib.hid (row_lv HG16.out hmk.lv (fun b hb hd => by have := HGhi.out b hb; omega))
      have HK17 : Hid (IntsOwn w9.heap.size w17 (.slice p10 xs.length c10) xs) := Lib.hid (row_lv HK16.out hmk.lv (fun b hb hd => by have := HKlo.out b hb; omega))
      clear hmk t0 t1 t2
      have hkd : decide (ky + (n : Int) < 0) = false := by simp; omega
      generalize ky + (n : Int) = kz at *
      go_wp2_with (fail)
      refine (eqIntS_any _ _ xs xs _ HK17.out.at HG17.out.at).mono ?_
      rw [show eqB xs xs = true by simp [eqB]]
      rintro e w18 ⟨rfl, hE⟩
      have E18 := Lib.hid (E17.out.trans hE); have A18 := Lib.hid (hE.blk A17.out); have D18 := Lib.hid (hE.blk D17.out); have HG18 := Lib.hid (HG17.out.ext hE); have HK18 := Lib.hid (HK17.out.ext hE)
      clear hE
      have hxl : xs.length ≤ 1000000 := HXL.out
      go_wp2_with (fail)
      refine (markIntS_any w9.heap.size p10 xs.length c10 xs 1 _ rfl HK18.out (by omega) (by omega)).mono ?_
      rintro e w19 ⟨rfl, h1, h2⟩
      have HM19 : Hid (IntsOwn w9.heap.size w19 (.slice p10 xs.length c10) (marks 1 xs.length)) := Lib.hid (IntsOwn.mk h1 (marks_len 1 _))
      have HG19 := Lib.hid (HG18.out.beside HK18.out (fun b hb => by have := HGhi.out b hb; omega) h2)
      have E19 := Lib.hid (E18.out.grown h2 (fun b hb => by have := HKlo.out b hb; omega))
      have A19 := Lib.hid ((Lv.grown (D := fun b => w9.heap.size ≤ b) h2 (fun r hr _ => HKlo.out r hr)).heap A18.out (fun h => by omega))
      have D19 := Lib.hid ((Lv.grown (D := fun b => w9.heap.size ≤ b) h2 (fun r hr _ => HKlo.out r hr)).heap D18.out (fun h => by omega))
      clear h1 h2
      have hq0 : decide ((1 : Int) + (xs.length : Nat) < 0) = false := by simp; omega
      go_wp2_with (fail)
      refine (heldIntS_any _ xs.length 1 _ HM19.out.at (by omega) (by omega)).mono ?_
      rintro e w20 ⟨rfl, rfl⟩
      obtain ⟨y0, y1, -, -⟩ := blk2 A19.out
      obtain ⟨x0, x1, x2⟩ := blk3i D19.out
      go_wp2_with (fail)
      go_region_held3 (fun W => W.cell? ⟨w.heap.size, 0, none⟩ = some (.slice q1 na c1) ∧ W.cell? ⟨w.heap.size, 1, none⟩ = some (.slice q2 np c2) ∧ W.cell? ⟨w.heap.size + 1, 0, none⟩ = some (.int .i64 i) ∧ W.cell? ⟨w.heap.size + 1, 1, none⟩ = some (.int .i64 j) ∧ W.cell? ⟨w.heap.size + 1, 2, none⟩ = some (.slice qi n ci))
        (first | exact ⟨y0, y1, x0, x1, x2⟩ | exact ⟨g3.keep y0, g3.keep y1, g3.keep x0, g3.keep x1, g3.keep x2⟩ | exact ⟨g4.keep y0, g4.keep y1, g4.keep x0, g4.keep x1, g4.keep x2⟩ | exact ⟨g5.keep y0, g5.keep y1, g5.keep x0, g5.keep x1, g5.keep x2⟩ | fail)
        (first | (go_at_call 13; (with_reducible refine (toProgram_any _ ars ps _ (HS.out.ext (E19.out.trans (Ext.refl w19).drew)) HSA.out HSP.out).mono ?_); rintro r w21 ⟨⟨v21, rfl, hv21⟩, hE21⟩; have g3 := (Ext.refl w19).drew.trans hE21; have HV21 := Lib.hid hv21.at; have G3 := Lib.hid g3; clear hE21 hv21) | (go_at_call 22; (with_reducible refine (toInstance_any i j _ pt _ (HI.out.ext (E19.out.trans G3.out)) (by rw [HN.out]; exact hn20)).mono ?_); rintro r w22 ⟨q22, d22, rfl, hv22, hE22⟩; have g4 := G3.out.trans hE22; have hcp22 := own_cap hv22 rfl; have HV22 := Lib.hid hv22.at; have HV212 := Lib.hid (HV21.out.ext hE22); have G4 := Lib.hid g4; clear hE22 hv22) | (go_at_call 23; (with_reducible refine (HIMPL.out v21 q22 _ d22 _ HV212.out HV22.out hcp22).mono ?_); rintro r w23 ⟨⟨v23, rfl, hv23⟩, hE23⟩; have g5 := G4.out.trans hE23) | fail)
      have E23 := Lib.hid (E19.out.trans g5); have HG23 := Lib.hid (HG19.out.ext g5); have HM23 := Lib.hid (HM19.out.ext g5); have HH23 := Lib.hid hv23
      clear g3 g4 g5 y0 y1 x0 x1 x2 HV21 HV22 HV212 G3 G4 hv23 hE23 hcp22
      obtain ⟨p23, c23, rfl⟩ := row_form HH23.out
      go_wp2_with (fail)
      refine (eqIntS_any _ _ xs xs _ HH23.out.at HG23.out.at).mono ?_
      rw [show eqB xs xs = true by simp [eqB]]
      rintro e w24 ⟨rfl, hE⟩
      have E24 := Lib.hid (E23.out.trans hE); have HM24 := Lib.hid (HM23.out.ext hE)
      clear hE
      go_wp2_with (fail)
      refine (heldIntS_any _ xs.length 1 _ HM24.out.at (by omega) (by omega)).mono ?_
      rintro e w25 ⟨rfl, rfl⟩
      go_wp2
      go_ret
      exact ⟨rfl, E24.out⟩
theorem icR_len (ars : List Arr) (ps : List Pt) (i j : Int) (pt : List Int) : (icR ars ps i j pt).length ≤ 1000000 := by
  cases hb : icOk ars ps i j pt with
  | false => unfold icR; rw [hb]; simp
  | true =>
    unfold icR
    rw [if_pos hb]
    unfold icOk at hb
    rw [Bool.and_eq_true] at hb
    obtain ⟨y, hy, rfl, rfl, rfl⟩ := (atB_iff hb.1).1 hb.2
    rw [stAt_ins hy]
    have := ev_reads hb.1 (useOf ars y) (List.mem_map.2 ⟨evOf ars y, List.mem_map.2 ⟨y, hy, rfl⟩, rfl⟩)
    have h2 : (readCells ars y.2 y.1.2.2).length ≤ 1000 := this
    omega
theorem walkFnExactInstanceCells (v v1 : Value) (w : World) (h : RProg w v) (h1 : RInst w v1) :
    Calls Tryz.prog 4 #[v, v1] w fun e w' => e = .returned (.bool true) ∧ Below w.heap.size w w' := by
  obtain ⟨ars, ps, hs⟩ := h
  obtain ⟨i, j, u, pt, rfl, -, -, hi⟩ := h1
  exact walkHFnExactInstanceCells icR icW icOk icR_len specInstanceCells_any InstanceCells_any v u ars ps i j pt w hs hi
end Go.Proofs.YtmhldhjpfeageabGreat

/- FnExactAddressTrace: AddressTrace answers as its model at every argument: the walk. -/
import Derived.Test.YtggpjapmhakklaaGreatQL44
import Derived.Test.YtggpjapmhakklaaGreatQL53
import Derived.Test.YtggpjapmhakklaaGreatQL28
namespace Go.Proofs.YtggpjapmhakklaaGreat
open Go.RowKit

theorem Mk.extW {B : Nat} {W w0 a b : World} (h : Mk B w0 a b) (hE : Ext W a) (hB : W.heap.size ≤ B) : Ext W b :=
  ⟨h.lv.os.trans hE.os, h.lv.tape.trans hE.tape, h.lv.output.trans hE.output, Nat.le_trans hE.size h.lv.size, fun i hi => (h.lv.block i (Nat.lt_of_lt_of_le hi hE.size) (fun hd => by omega)).trans (hE.block i hi)⟩
set_option maxRecDepth 100000 in
set_option maxHeartbeats 8000000 in
theorem walkHFnExactAddressTrace (R : List Arr → List Pt → List Int) (hRl : ∀ ars ps, (R ars ps).length ≤ 1000000)
    (hspec : ∀ (v : Value) (ars : List Arr) (ps : List Pt) (w : World), PrR w v ars ps → Calls Tryz.prog 6 #[v] w fun e w' => (∃ v', e = .returned v' ∧ IntsOwn w.heap.size w' v' (R ars ps)) ∧ Ext w w')
    (himpl : ∀ (v : Value) (ars : List Arr) (ps : List Pt) (w : World), PrR w v ars ps → Calls Tryz.prog 8 #[v] w fun e w' => (∃ v', e = .returned v' ∧ IntsOwn w.heap.size w' v' (R ars ps)) ∧ Ext w w')
    (v : Value) (ars : List Arr) (ps : List Pt) (w : World) (hs : PrR w v ars ps) :
    Calls Tryz.prog 3 #[v] w fun r w' => r = .returned (.bool true) ∧ Ext w w' := by
  have HS := Lib.hid hs
  obtain ⟨xs, hxs⟩ : ∃ xs, R ars ps = xs := ⟨_, rfl⟩
  have HXL : Hid (xs.length ≤ 1000000) := Lib.hid (by rw [← hxs]; exact hRl ars ps)
  have HSPEC := Lib.hid (fun v w (h : PrR w v ars ps) => hxs ▸ hspec v ars ps w h)
  have HIMPL := Lib.hid (fun v w (h : PrR w v ars ps) => hxs ▸ himpl v ars ps w h)
  clear hspec himpl hRl hxs
  obtain ⟨q1, c1, q2, c2, rfl, -, -, -, -⟩ := hs.parts
  obtain ⟨na, hna⟩ : ∃ n, ars.length = n := ⟨_, rfl⟩
  obtain ⟨np, hnp⟩ : ∃ n, ps.length = n := ⟨_, rfl⟩
  rw [hna, hnp] at HS ⊢
  have HNA := Lib.hid hna; have HNP := Lib.hid hnp
  clear hs hna hnp
  go_enter Tryz.func3, Tryz.ntmps3
  go_wp2_with (fail)
  refine (szProgramW_any _ ars ps _ _ (HS.out.ext ((Ext.refl w).alloc _)) (by omega) (by omega)).mono ?_
  rintro r w1 ⟨⟨z, rfl, hz⟩, hE⟩
  have B1 := Lib.hid (hE.blk (g := w.heap.size) (blk_at rfl))
  have E1 := Lib.hid (((Ext.refl w).alloc _).trans hE)
  clear hE
  rcases hz with rfl | ⟨z0, z1, hcp, hsa, hsp⟩
  · go_wp2_with (fail)
    go_ret
    exact ⟨rfl, E1.out⟩
  · have HSA := Lib.hid hsa; have HSP := Lib.hid hsp; have HCP := Lib.hid hcp; clear hsa hsp hcp
    obtain ⟨y0, y1, -, -⟩ := blk2 B1.out
    go_wp2_with (fail)
    refine (toProgram_any _ ars ps _ (HS.out.ext E1.out) HSA.out HSP.out).mono ?_
    rintro r w2 ⟨⟨v2, rfl, hv2⟩, hE⟩
    have B2 := Lib.hid (hE.blk B1.out); have E2 := Lib.hid (E1.out.trans hE); have HV2 := Lib.hid hv2.at
    clear hE hv2 y0 y1
    go_wp2_with (fail)
    refine (HSPEC.out v2 _ HV2.out).mono ?_
    rintro r w3 ⟨⟨v3, rfl, hv3⟩, hE⟩
    have B3 := Lib.hid (hE.blk B2.out); have E3 := Lib.hid (E2.out.trans hE); have HG3 := Lib.hid hv3; have S3 := Lib.hid hE.size_le
    clear hE hv3
    obtain ⟨y0, y1, -, -⟩ := blk2 B3.out
    go_wp2_with (fail)
    refine (toProgram_any _ ars ps _ (HS.out.ext E3.out) HSA.out HSP.out).mono ?_
    rintro r w4 ⟨⟨v4, rfl, hv4⟩, hE⟩
    have B4 := Lib.hid (hE.blk B3.out); have E4 := Lib.hid (E3.out.trans hE); have HV4 := Lib.hid hv4.at; have HPO := Lib.hid hv4
    have HG4 := Lib.hid (HG3.out.ext hE); have S4 := Lib.hid hE.size_le
    obtain ⟨q3, c3, q4, c4, rfl, -, -, -, -⟩ := hv4.at.parts
    rw [HNA.out, HNP.out] at HV4 HPO ⊢
    clear hE hv4 y0 y1
    obtain ⟨w5, hw5⟩ : ∃ w5, w4.alloc (.cells #[.slice q3 na c3, .slice q4 np c4] 32) = w5 := ⟨_, rfl⟩
    have X5 : Ext w4 w5 := by rw [← hw5]; exact (Ext.refl w4).alloc _
    have BX5 : w5.heap[w4.heap.size]? = some (.cells #[.slice q3 na c3, .slice q4 np c4] 32 (0, 0)) := by rw [← hw5]; exact blk_at rfl
    have HW5 := Lib.hid hw5; have HX5 := Lib.hid X5; have HB5 := Lib.hid BX5
    clear hw5 X5 BX5
    go_wp2_with (fail)
    rw [HW5.out]
    refine (HIMPL.out _ _ (HV4.out.ext HX5.out)).mono ?_
    rintro r w6 ⟨⟨v6, rfl, hv6⟩, hE⟩
    have X6 := Lib.hid (HX5.out.trans hE); have HK6 := Lib.hid hv6; have S5 := Lib.hid HX5.out.size_le
    have HKlo : Hid (∀ b, v6.ownBlock = some b → w4.heap.size ≤ b) := Lib.hid (fun b hb => Nat.le_trans HX5.out.size_le (hv6.lt b hb).1)
    have HG6 := Lib.hid (HG4.out.ext X6.out)
    have HGhi : Hid (∀ b, v3.ownBlock = some b → b < w3.heap.size) := Lib.hid HG3.out.block_lt
    have E6 := Lib.hid (E4.out.trans X6.out); have B6 := Lib.hid (X6.out.blk B4.out); have BX6 := Lib.hid (hE.blk HB5.out); have HX6 := Lib.hid (HV4.out.ext X6.out)
    clear hE hv6
    obtain ⟨p3, c3', rfl⟩ := row_form HG6.out
    obtain ⟨p6, c6, rfl⟩ := row_form HK6.out
    go_wp2_with (fail)
    refine (eqIntS_any _ _ xs xs _ HK6.out.at HG6.out.at).mono ?_
    rw [show eqB xs xs = true by simp [eqB]]
    rintro e w7 ⟨rfl, hE⟩
    have X7 := Lib.hid (X6.out.trans hE); have E7 := Lib.hid (E6.out.trans hE); have B7 := Lib.hid (hE.blk B6.out); have BX7 := Lib.hid (hE.blk BX6.out); have HX7 := Lib.hid (HX6.out.ext hE)
    have HG7 := Lib.hid (HG6.out.ext hE); have HK7 := Lib.hid (HK6.out.ext hE)
    clear hE
    obtain ⟨y0, y1, -, -⟩ := blk2 B7.out
    obtain ⟨z0', z1', -, -⟩ := blk2 BX7.out
    have u0 := z0'; have u1 := z1'
    clear z0' z1'
    go_wp2
    go_region_held3 (fun W => W.cell? ⟨w.heap.size, 0, none⟩ = some (.slice q1 na c1) ∧ W.cell? ⟨w.heap.size, 1, none⟩ = some (.slice q2 np c2) ∧ W.cell? ⟨w4.heap.size, 0, none⟩ = some (.slice q3 na c3) ∧ W.cell? ⟨w4.heap.size, 1, none⟩ = some (.slice q4 np c4))
      (first | exact ⟨y0, y1, u0, u1⟩ | exact ⟨g3.keep y0, g3.keep y1, g3.keep u0, g3.keep u1⟩ | exact ⟨g4.keep y0, g4.keep y1, g4.keep u0, g4.keep u1⟩ | fail)
      (first | (go_at_call 7; (with_reducible refine (toProgram_any _ ars ps _ (HS.out.ext (E7.out.trans (Ext.refl w7).drew)) HSA.out HSP.out).mono ?_); rintro r w8 ⟨⟨v8, rfl, hv8⟩, hE8⟩; have g3 := (Ext.refl w7).drew.trans hE8; have HV8 := Lib.hid hv8.at; have G3 := Lib.hid g3; clear hE8 hv8) | (go_at_call 10; (with_reducible refine (eqProgram_same _ v8 ars ps _ (HX7.out.ext G3.out) HV8.out).mono ?_); rintro r w9 ⟨rfl, hE9⟩; have g4 := G3.out.trans hE9) | fail)
    have E9 := Lib.hid (E7.out.trans g4); have X9 := Lib.hid (X7.out.trans g4); have B9 := Lib.hid (g4.blk B7.out); have BX9 := Lib.hid (g4.blk BX7.out)
    have HG9 := Lib.hid (HG7.out.ext g4); have HK9 := Lib.hid (HK7.out.ext g4)
    have hLT : w.heap.size < w3.heap.size := lt_of_block B3.out
    have hLE : w3.heap.size ≤ w4.heap.size := S4.out
    have hLE5 : w4.heap.size ≤ w5.heap.size := S5.out
    clear y0 y1 u0 u1 g3 g4 hE9
    obtain ⟨u0, u1, -, -⟩ := blk2 BX9.out
    go_wp2_with (fail)
    refine (markProgram_sh w3.heap.size w4 _ ars ps 1 _ HPO.out ((Sh.refl _ w4).ext X9.out) (by omega) (by have := HCP.out; omega)).mono ?_
    rintro e w10 ⟨rfl, hmk⟩
    have E10 := Lib.hid (hmk.extW E9.out (by omega)); have B10 := Lib.hid (hmk.lv.heap B9.out (fun h => by omega))
    have HG10 : Hid (IntsOwn w2.heap.size w10 (.slice p3 xs.length c3') xs) := Lib.hid (row_lv HG9.out hmk.lv (fun b hb hd => by have := HGhi.out b hb; omega))
    have HK10 : Hid (IntsOwn w5.heap.size w10 (.slice p6 xs.length c6) xs) := Lib.hid (row_lv HK9.out hmk.lv (fun b hb hd => by have := HKlo.out b hb; omega))
    clear hmk u0 u1
    have hk1 : (0 : Int) ≤ 1 + (cPr ars ps : Nat) := by omega
    generalize (1 : Int) + (cPr ars ps : Nat) = ky at *
    have hkd : decide (ky < 0) = false := by simp; omega
    go_wp2_with (fail)
    refine (eqIntS_any _ _ xs xs _ HK10.out.at HG10.out.at).mono ?_
    rw [show eqB xs xs = true by simp [eqB]]
    rintro e w11 ⟨rfl, hE⟩
    have E11 := Lib.hid (E10.out.trans hE); have B11 := Lib.hid (hE.blk B10.out); have HG11 := Lib.hid (HG10.out.ext hE); have HK11 := Lib.hid (HK10.out.ext hE)
    clear hE
    have hxl : xs.length ≤ 1000000 := HXL.out
    go_wp2_with (fail)
    refine (markIntS_any w5.heap.size p6 xs.length c6 xs 1 _ rfl HK11.out (by omega) (by omega)).mono ?_
    rintro e w12 ⟨rfl, h1, h2⟩
    have HM12 : Hid (IntsOwn w5.heap.size w12 (.slice p6 xs.length c6) (marks 1 xs.length)) := Lib.hid (IntsOwn.mk h1 (marks_len 1 _))
    have HG12 := Lib.hid (HG11.out.beside HK11.out (fun b hb => by have := HGhi.out b hb; omega) h2)
    have E12 := Lib.hid (E11.out.grown h2 (fun b hb => by have := HKlo.out b hb; omega))
    have B12 := Lib.hid ((Lv.grown (D := fun b => w4.heap.size ≤ b) h2 (fun r hr _ => HKlo.out r hr)).heap B11.out (fun h => by omega))
    clear h1 h2
    have hq0 : decide ((1 : Int) + (xs.length : Nat) < 0) = false := by simp; omega
    go_wp2_with (fail)
    refine (heldIntS_any _ xs.length 1 _ HM12.out.at (by omega) (by omega)).mono ?_
    rintro e w13 ⟨rfl, rfl⟩
    obtain ⟨y0, y1, -, -⟩ := blk2 B12.out
    go_wp2_with (fail)
    refine (toProgram_any _ ars ps _ (HS.out.ext E12.out) HSA.out HSP.out).mono ?_
    rintro r w14 ⟨⟨v14, rfl, hv14⟩, hE⟩
    have E14 := Lib.hid (E12.out.trans hE); have HV14 := Lib.hid hv14.at; have HG14 := Lib.hid (HG12.out.ext hE); have HM14 := Lib.hid (HM12.out.ext hE)
    clear hE hv14 y0 y1
    go_wp2_with (fail)
    refine (HIMPL.out _ _ HV14.out).mono ?_
    rintro r w15 ⟨⟨v15, rfl, hv15⟩, hE⟩
    have E15 := Lib.hid (E14.out.trans hE); have HG15 := Lib.hid (HG14.out.ext hE); have HM15 := Lib.hid (HM14.out.ext hE); have HH15 := Lib.hid hv15
    clear hE hv15
    obtain ⟨p15, c15, rfl⟩ := row_form HH15.out
    go_wp2_with (fail)
    refine (eqIntS_any _ _ xs xs _ HH15.out.at HG15.out.at).mono ?_
    rw [show eqB xs xs = true by simp [eqB]]
    rintro e w16 ⟨rfl, hE⟩
    have E16 := Lib.hid (E15.out.trans hE); have HM16 := Lib.hid (HM15.out.ext hE)
    clear hE
    go_wp2_with (fail)
    refine (heldIntS_any _ xs.length 1 _ HM16.out.at (by omega) (by omega)).mono ?_
    rintro e w17 ⟨rfl, rfl⟩
    go_wp2
    go_ret
    exact ⟨rfl, E16.out⟩
theorem walkFnExactAddressTrace (v : Value) (w : World) (h : RProg w v) :
    Calls Tryz.prog 3 #[v] w fun e w' => e = .returned (.bool true) ∧ Below w.heap.size w w' := by
  obtain ⟨ars, ps, hs⟩ := h
  exact walkHFnExactAddressTrace atL atL_len specAddressTrace_any AddressTrace_any v ars ps w hs
end Go.Proofs.YtggpjapmhakklaaGreat

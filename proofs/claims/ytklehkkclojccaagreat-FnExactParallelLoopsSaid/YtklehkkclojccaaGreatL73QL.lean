/- FnExactParallelLoops: ParallelLoops answers as its model at every argument: the walk. -/
import Derived.Test.YtklehkkclojccaaGreatQL39
import Derived.Test.YtklehkkclojccaaGreatQL43
import Derived.Test.YtklehkkclojccaaGreatQL24
import Derived.Test.YtklehkkclojccaaGreatQL22
import Derived.Test.YtklehkkclojccaaGreatQL20
namespace Go.Proofs.YtklehkkclojccaaGreat
open Go.RowKit

theorem Mk.extW {B : Nat} {W w0 a b : World} (h : Mk B w0 a b) (hE : Ext W a) (hB : W.heap.size <= B) : Ext W b :=
  ⟨h.lv.os.trans hE.os, h.lv.tape.trans hE.tape, h.lv.output.trans hE.output, Nat.le_trans hE.size h.lv.size, fun i hi => (h.lv.block i (Nat.lt_of_lt_of_le hi hE.size) (fun hd => by omega)).trans (hE.block i hi)⟩
theorem plL_len (ars : List Arr) (ps : List Pt) (z : Int) : (plL ars ps z).length <= 1000000 := by
  have h := jY25 ars ps z 4
  unfold plL
  omega
set_option maxRecDepth 100000 in
set_option maxHeartbeats 8000000 in
theorem walkHFnExactParallelLoops (R : List Arr -> List Pt -> Int -> List Int) (hRl : ∀ ars ps z, (R ars ps z).length <= 1000000)
    (hspec : ∀ (v : Value) (ars : List Arr) (ps : List Pt) (zt : Int) (w : World), PrR w v ars ps -> Calls Tryz.prog 38 #[v, .int .i64 zt] w fun e w' => (∃ v', e = .returned v' /\ jZ1 w.heap.size w' v' (R ars ps zt)) /\ Ext w w')
    (himpl : ∀ (v : Value) (ars : List Arr) (ps : List Pt) (zt : Int) (w : World), PrR w v ars ps -> Calls Tryz.prog 39 #[v, .int .i64 zt] w fun e w' => (∃ v', e = .returned v' /\ jZ1 w.heap.size w' v' (R ars ps zt)) /\ Ext w w')
    (v : Value) (ars : List Arr) (ps : List Pt) (zt : Int) (w : World) (hs : PrR w v ars ps) :
    Calls Tryz.prog 9 #[v, .int .i64 zt] w fun r w' => r = .returned (.bool true) /\ Ext w w' := by
  have HS := Lib.hid hs
  obtain ⟨xs, hxs⟩ : ∃ xs, R ars ps zt = xs := ⟨_, rfl⟩
  have HXL : Hid (xs.length <= 1000000) := Lib.hid (by rw [<- hxs]; exact hRl ars ps zt)
  have HSPEC := Lib.hid (fun v w (h : PrR w v ars ps) => hxs ▸ hspec v ars ps zt w h)
  have HIMPL := Lib.hid (fun v w (h : PrR w v ars ps) => hxs ▸ himpl v ars ps zt w h)
  clear hspec himpl hRl hxs
  obtain ⟨q1, c1, q2, c2, rfl, -, -, -, -⟩ := hs.parts
  obtain ⟨na, hna⟩ : ∃ n, ars.length = n := ⟨_, rfl⟩
  obtain ⟨np, hnp⟩ : ∃ n, ps.length = n := ⟨_, rfl⟩
  rw [hna, hnp] at HS ⊢
  have HNA := Lib.hid hna; have HNP := Lib.hid hnp
  clear hs hna hnp
  go_enter Tryz.func9, Tryz.ntmps9
  go_wp2_with (fail)
  refine (jY0s _ ars ps _ _ (HS.o.ext ((Ext.refl w).alloc _)) (by omega) (by omega)).mono ?_
  rintro r w1 ⟨⟨z, rfl, hz⟩, hE⟩
  have B1 := Lib.hid (hE.blk (g := w.heap.size) (blk_at rfl))
  have E1 := Lib.hid (((Ext.refl w).alloc _).trans hE)
  clear hE
  rcases hz with rfl | ⟨z0, z1, hcp, hsa, hsp⟩
  · go_wp2_with (fail)
    go_ret
    exact ⟨rfl, E1.o⟩
  · have HSA := Lib.hid hsa; have HSP := Lib.hid hsp; have HCP := Lib.hid hcp; clear hsa hsp hcp
    obtain ⟨y0, y1, -, -⟩ := blk2 B1.o
    go_wp2_with (fail)
    refine (jXf _ ars ps _ (HS.o.ext E1.o) HSA.o HSP.o).mono ?_
    rintro r w2 ⟨⟨v2, rfl, hv2⟩, hE⟩
    have B2 := Lib.hid (hE.blk B1.o); have E2 := Lib.hid (E1.o.trans hE); have HV2 := Lib.hid hv2.at
    clear hE hv2 y0 y1
    go_wp2_with (fail)
    refine (HSPEC.o v2 _ HV2.o).mono ?_
    rintro r w3 ⟨⟨v3, rfl, hv3⟩, hE⟩
    have B3 := Lib.hid (hE.blk B2.o); have E3 := Lib.hid (E2.o.trans hE); have HG3 := Lib.hid hv3; have S3 := Lib.hid hE.size_le
    clear hE hv3
    obtain ⟨y0, y1, -, -⟩ := blk2 B3.o
    go_wp2_with (fail)
    refine (jXf _ ars ps _ (HS.o.ext E3.o) HSA.o HSP.o).mono ?_
    rintro r w4 ⟨⟨v4, rfl, hv4⟩, hE⟩
    have B4 := Lib.hid (hE.blk B3.o); have E4 := Lib.hid (E3.o.trans hE); have HV4 := Lib.hid hv4.at; have HPO := Lib.hid hv4
    have HG4 := Lib.hid (HG3.o.ext hE); have S4 := Lib.hid hE.size_le
    obtain ⟨q3, c3, q4, c4, rfl, -, -, -, -⟩ := hv4.at.parts
    rw [HNA.o, HNP.o] at HV4 HPO ⊢
    clear hE hv4 y0 y1
    obtain ⟨w5, hw5⟩ : ∃ w5, w4.alloc (.cells #[.slice q3 na c3, .slice q4 np c4] 32) = w5 := ⟨_, rfl⟩
    have X5 : Ext w4 w5 := by rw [<- hw5]; exact (Ext.refl w4).alloc _
    have BX5 : w5.heap[w4.heap.size]? = some (.cells #[.slice q3 na c3, .slice q4 np c4] 32 (0, 0)) := by rw [<- hw5]; exact blk_at rfl
    have HW5 := Lib.hid hw5; have HX5 := Lib.hid X5; have HB5 := Lib.hid BX5
    clear hw5 X5 BX5
    go_wp2_with (fail)
    rw [HW5.o]
    refine (HIMPL.o _ _ (HV4.o.ext HX5.o)).mono ?_
    rintro r w6 ⟨⟨v6, rfl, hv6⟩, hE⟩
    have X6 := Lib.hid (HX5.o.trans hE); have HK6 := Lib.hid hv6; have S5 := Lib.hid HX5.o.size_le
    have HKlo : Hid (∀ b, v6.ownBlock = some b -> w4.heap.size <= b) := Lib.hid (fun b hb => Nat.le_trans HX5.o.size_le (hv6.lt b hb).1)
    have HG6 := Lib.hid (HG4.o.ext X6.o)
    have HGhi : Hid (∀ b, v3.ownBlock = some b -> b < w3.heap.size) := Lib.hid HG3.o.block_lt
    have E6 := Lib.hid (E4.o.trans X6.o); have B6 := Lib.hid (X6.o.blk B4.o); have BX6 := Lib.hid (hE.blk HB5.o); have HX6 := Lib.hid (HV4.o.ext X6.o)
    clear hE hv6
    obtain ⟨p3, c3', rfl⟩ := jZt HG6.o
    obtain ⟨p6, c6, rfl⟩ := jZt HK6.o
    go_wp2_with (fail)
    refine (jXh _ _ xs xs _ HK6.o.at HG6.o.at).mono ?_
    rw [show eqB xs xs = true by simp [eqB]]
    rintro e w7 ⟨rfl, hE⟩
    have X7 := Lib.hid (X6.o.trans hE); have E7 := Lib.hid (E6.o.trans hE); have B7 := Lib.hid (hE.blk B6.o); have BX7 := Lib.hid (hE.blk BX6.o); have HX7 := Lib.hid (HX6.o.ext hE)
    have HG7 := Lib.hid (HG6.o.ext hE); have HK7 := Lib.hid (HK6.o.ext hE)
    clear hE
    obtain ⟨y0, y1, -, -⟩ := blk2 B7.o
    obtain ⟨z0', z1', -, -⟩ := blk2 BX7.o
    have u0 := z0'; have u1 := z1'
    clear z0' z1'
    go_wp2
    go_region_held3 (fun W => W.cell? ⟨w.heap.size, 0, none⟩ = some (.slice q1 na c1) /\ W.cell? ⟨w.heap.size, 1, none⟩ = some (.slice q2 np c2) /\ W.cell? ⟨w4.heap.size, 0, none⟩ = some (.slice q3 na c3) /\ W.cell? ⟨w4.heap.size, 1, none⟩ = some (.slice q4 np c4))
      (first | exact ⟨y0, y1, u0, u1⟩ | exact ⟨g3.keep y0, g3.keep y1, g3.keep u0, g3.keep u1⟩ | exact ⟨g4.keep y0, g4.keep y1, g4.keep u0, g4.keep u1⟩ | fail)
      (first | (go_at_call 14; (with_reducible refine (jXf _ ars ps _ (HS.o.ext (E7.o.trans (Ext.refl w7).drew)) HSA.o HSP.o).mono ?_); rintro r w8 ⟨⟨v8, rfl, hv8⟩, hE8⟩; have g3 := (Ext.refl w7).drew.trans hE8; have HV8 := Lib.hid hv8.at; have G3 := Lib.hid g3; clear hE8 hv8) | (go_at_call 17; (with_reducible refine (jY0m _ v8 ars ps _ (HX7.o.ext G3.o) HV8.o).mono ?_); rintro r w9 ⟨rfl, hE9⟩; have g4 := G3.o.trans hE9) | fail)
    have E9 := Lib.hid (E7.o.trans g4); have X9 := Lib.hid (X7.o.trans g4); have B9 := Lib.hid (g4.blk B7.o); have BX9 := Lib.hid (g4.blk BX7.o)
    have HG9 := Lib.hid (HG7.o.ext g4); have HK9 := Lib.hid (HK7.o.ext g4)
    have hLT : w.heap.size < w3.heap.size := lt_of_block B3.o
    have hLE : w3.heap.size <= w4.heap.size := S4.o
    have hLE5 : w4.heap.size <= w5.heap.size := S5.o
    clear y0 y1 u0 u1 g3 g4 hE9
    obtain ⟨u0, u1, -, -⟩ := blk2 BX9.o
    go_wp2_with (fail)
    refine (jY0v w3.heap.size w4 _ ars ps 1 _ HPO.o ((Sh.refl _ w4).ext X9.o) (by omega) (by have := HCP.o; omega)).mono ?_
    rintro e w10 ⟨rfl, hmk⟩
    have E10 := Lib.hid (hmk.extW E9.o (by omega)); have B10 := Lib.hid (hmk.lv.heap B9.o (fun h => by omega))
    have HG10 : Hid (jZ1 w2.heap.size w10 (.slice p3 xs.length c3') xs) := Lib.hid (row_lv HG9.o hmk.lv (fun b hb hd => by have := HGhi.o b hb; omega))
    have HK10 : Hid (jZ1 w5.heap.size w10 (.slice p6 xs.length c6) xs) := Lib.hid (row_lv HK9.o hmk.lv (fun b hb hd => by have := HKlo.o b hb; omega))
    clear hmk u0 u1
    have hk1 : (0 : Int) <= 1 + (cPr ars ps : Nat) := by omega
    generalize (1 : Int) + (cPr ars ps : Nat) = ky at *
    have hkd : decide (ky < 0) = false := by simp; omega
    go_wp2_with (fail)
    refine (jXh _ _ xs xs _ HK10.o.at HG10.o.at).mono ?_
    rw [show eqB xs xs = true by simp [eqB]]
    rintro e w11 ⟨rfl, hE⟩
    have E11 := Lib.hid (E10.o.trans hE); have B11 := Lib.hid (hE.blk B10.o); have HG11 := Lib.hid (HG10.o.ext hE); have HK11 := Lib.hid (HK10.o.ext hE)
    clear hE
    have hxl : xs.length <= 1000000 := HXL.o
    go_wp2_with (fail)
    refine (jY1W w5.heap.size p6 xs.length c6 xs 1 _ rfl HK11.o (by omega) (by omega)).mono ?_
    rintro e w12 ⟨rfl, h1, h2⟩
    have HM12 : Hid (jZ1 w5.heap.size w12 (.slice p6 xs.length c6) (marks 1 xs.length)) := Lib.hid (jZ1.mk h1 (jWR 1 _))
    have HG12 := Lib.hid (HG11.o.beside HK11.o (fun b hb => by have := HGhi.o b hb; omega) h2)
    have E12 := Lib.hid (E11.o.grown h2 (fun b hb => by have := HKlo.o b hb; omega))
    have B12 := Lib.hid ((Lv.grown (D := fun b => w4.heap.size <= b) h2 (fun r hr _ => HKlo.o r hr)).heap B11.o (fun h => by omega))
    clear h1 h2
    have hq0 : decide ((1 : Int) + (xs.length : Nat) < 0) = false := by simp; omega
    go_wp2_with (fail)
    refine (jV9 _ xs.length 1 _ HM12.o.at (by omega) (by omega)).mono ?_
    rintro e w13 ⟨rfl, rfl⟩
    obtain ⟨y0, y1, -, -⟩ := blk2 B12.o
    go_wp2_with (fail)
    refine (jXf _ ars ps _ (HS.o.ext E12.o) HSA.o HSP.o).mono ?_
    rintro r w14 ⟨⟨v14, rfl, hv14⟩, hE⟩
    have E14 := Lib.hid (E12.o.trans hE); have HV14 := Lib.hid hv14.at; have HG14 := Lib.hid (HG12.o.ext hE); have HM14 := Lib.hid (HM12.o.ext hE)
    clear hE hv14 y0 y1
    go_wp2_with (fail)
    refine (HIMPL.o _ _ HV14.o).mono ?_
    rintro r w15 ⟨⟨v15, rfl, hv15⟩, hE⟩
    have E15 := Lib.hid (E14.o.trans hE); have HG15 := Lib.hid (HG14.o.ext hE); have HM15 := Lib.hid (HM14.o.ext hE); have HH15 := Lib.hid hv15
    clear hE hv15
    obtain ⟨p15, c15, rfl⟩ := jZt HH15.o
    go_wp2_with (fail)
    refine (jXh _ _ xs xs _ HH15.o.at HG15.o.at).mono ?_
    rw [show eqB xs xs = true by simp [eqB]]
    rintro e w16 ⟨rfl, hE⟩
    have E16 := Lib.hid (E15.o.trans hE); have HM16 := Lib.hid (HM15.o.ext hE)
    clear hE
    go_wp2_with (fail)
    refine (jV9 _ xs.length 1 _ HM16.o.at (by omega) (by omega)).mono ?_
    rintro e w17 ⟨rfl, rfl⟩
    go_wp2
    go_ret
    exact ⟨rfl, E16.o⟩
theorem walkFnExactParallelLoops (v v1 : Value) (w : World) (h : RProg w v) (h1 : RInt w v1) :
    Calls Tryz.prog 9 #[v, v1] w fun e w' => e = .returned (.bool true) /\ Below w.heap.size w w' := by
  obtain ⟨ars, ps, hs⟩ := h
  obtain ⟨zt, rfl, _⟩ := h1
  exact walkHFnExactParallelLoops plL plL_len jW4 jWY v ars ps zt w hs
end Go.Proofs.YtklehkkclojccaaGreat

/- FnExactCellOf: CellOf answers as its model at every argument: the walk. -/
import Derived.Test.YtclgbnilfipobaaGreatK47
import Derived.Test.YtclgbnilfipobaaGreatK30
import Derived.Test.YtclgbnilfipobaaGreatK28
namespace Go.Proofs.YtclgbnilfipobaaGreat
open Go.RowKit Go.ChangeShapes Go.WideShapes Go.ChangeAt Go.Joins

/-- The access as an argument. -/
def RAcc (w : World) (v : Value) : Prop := ∃ (arr : ByteArray) (u : Value) (subs : List Aff), v = .agg #[.string arr, u] ∧ arr.size ≤ 9223372036854775807 ∧ AffsAt w u subs
set_option maxRecDepth 100000 in
theorem open_acc {H : Type} {enc : TypeId × Value → H} {W : World} {base : Nat} {v : Value} {d : DataW H} {p : List MemPlace} (hv : Value.okWide Tryz.prog W .any base 38 v) (h : DataW.Trod enc Tryz.prog W 0 (fun _ => true) true 38 v d p) : RAcc W v := by
  obtain ⟨c0, c1, y0, y1, m, rfl, rfl, rfl, hy0, hy1⟩ := open_agg2 Tryz.underlying38 (by kernel_rfl) (by kernel_rfl) hv h
  obtain ⟨ar, e0, _, ha⟩ := DataW.trod_string Tryz.underlying9 hy0
  obtain ⟨subs, h1⟩ := affs_of_trod hy1
  simp only [List.cons.injEq, and_true] at e0
  exact ⟨ar, c1, subs, by rw [e0], by unfold maxLen at ha; omega, h1⟩
set_option maxRecDepth 100000 in
set_option maxHeartbeats 8000000 in
theorem walk0FnExactCellOf (v s t : Value) (ars : List Arr) (ps : List Pt) (arr : ByteArray) (subs : List Aff) (pt : List Int) (w : World) (hs : PrR w v ars ps) (har : arr.size ≤ 9223372036854775807) (ha : AffsAt w s subs) (hi : IntsAt w t pt) :
    Calls Tryz.prog 5 #[v, .agg #[.string arr, s], t] w fun r w' => r = .returned (.bool true) ∧ Ext w w' := by
  have HS := Lib.hid hs; have HAF := Lib.hid ha; have HI := Lib.hid hi; have HAR := Lib.hid har
  obtain ⟨q1, c1, q2, c2, rfl, -, -, -, -⟩ := hs.parts
  obtain ⟨qs, cs, rfl, -⟩ := ha.form
  obtain ⟨qi, ci, rfl, hm, -⟩ := id hi
  obtain ⟨na, hna⟩ : ∃ n, ars.length = n := ⟨_, rfl⟩
  obtain ⟨np, hnp⟩ : ∃ n, ps.length = n := ⟨_, rfl⟩
  obtain ⟨ns, hns⟩ : ∃ n, subs.length = n := ⟨_, rfl⟩
  obtain ⟨n, hn⟩ : ∃ n, pt.length = n := ⟨_, rfl⟩
  rw [hna, hnp] at HS
  rw [hns] at HAF
  rw [hn] at HI hm
  rw [hna, hnp, hns, hn]
  have HNA := Lib.hid hna; have HNP := Lib.hid hnp; have HNS := Lib.hid hns; have HN := Lib.hid hn
  clear hs ha hi hna hnp hns hn har
  by_cases hbig : (1048576 : Int) < n
  · go_enter Tryz.func5, Tryz.ntmps5
    go_wp2
    go_ret
    exact ⟨rfl, ((Ext.refl w).alloc _).alloc _⟩
  · have hy : n ≤ 1048576 := by omega
    go_enter Tryz.func5, Tryz.ntmps5
    go_wp2_with (fail)
    obtain ⟨W0, hW0⟩ : ∃ W0, ((w.alloc (.cells #[.slice q1 na c1, .slice q2 np c2] 25)).alloc (.cells #[.string arr, .slice qs ns cs] 38)) = W0 := ⟨_, rfl⟩
    have E0 : Hid (Ext w W0) := Lib.hid (by rw [← hW0]; exact ((Ext.refl w).alloc _).alloc _)
    have A0 := Lib.hid (show W0.heap[w.heap.size]? = some (.cells #[.slice q1 na c1, .slice q2 np c2] 25 (0, 0)) by rw [← hW0]; exact blk_old (blk_at rfl))
    have D0 := Lib.hid (show W0.heap[w.heap.size + 1]? = some (.cells #[.string arr, .slice qs ns cs] 38 (0, 0)) by rw [← hW0]; exact blk_at (by simp))
    try rw [hW0]
    clear hW0
    refine (szProgram_any _ ars ps _ _ (HS.out.ext E0.out) (by omega) (by omega)).mono ?_
    rintro r w1 ⟨⟨z, rfl, hz⟩, hE⟩
    have A1 := Lib.hid (hE.blk A0.out); have D1 := Lib.hid (hE.blk D0.out); have E1 := Lib.hid (E0.out.trans hE)
    clear hE
    rcases hz with rfl | ⟨z0, z1, hsa, hsp⟩
    · go_wp2_with (fail)
      go_ret
      exact ⟨rfl, E1.out⟩
    · have HSA := Lib.hid hsa; have HSP := Lib.hid hsp; clear hsa hsp
      obtain ⟨x0, x1, -, -⟩ := blk2 D1.out
      have hzn : decide (z < 0) = false := by simp; omega
      go_wp2_with (fail)
      refine (szAccess_any arr _ subs _ _ HAR.out (HAF.out.ext E1.out) z0 z1).mono ?_
      rintro r w2 ⟨⟨z', rfl, hz'⟩, hE⟩
      have A2 := Lib.hid (hE.blk A1.out); have D2 := Lib.hid (hE.blk D1.out); have E2 := Lib.hid (E1.out.trans hE)
      clear hE x0 x1
      rcases hz' with rfl | ⟨z0', z1', -, hsm⟩
      · go_wp2_with (fail)
        go_ret
        exact ⟨rfl, E2.out⟩
      · have HSM := Lib.hid hsm; clear hsm
        have hzn' : decide (z' < 0) = false := by simp; omega
        obtain ⟨y0, y1, -, -⟩ := blk2 A2.out
        obtain ⟨x0, x1, -, -⟩ := blk2 D2.out
        obtain ⟨ans, hans⟩ : ∃ a, cofB ars ps arr subs pt = a := ⟨_, rfl⟩
        have HANS := Lib.hid hans; clear hans
        go_wp2_with (fail)
        go_region_held3 (fun W => W.cell? ⟨w.heap.size, 0, none⟩ = some (.slice q1 na c1) ∧ W.cell? ⟨w.heap.size, 1, none⟩ = some (.slice q2 np c2) ∧ W.cell? ⟨w.heap.size + 1, 0, none⟩ = some (.string arr) ∧ W.cell? ⟨w.heap.size + 1, 1, none⟩ = some (.slice qs ns cs))
          (first | exact ⟨y0, y1, x0, x1⟩ | exact ⟨g3.keep y0, g3.keep y1, g3.keep x0, g3.keep x1⟩ | exact ⟨g4.keep y0, g4.keep y1, g4.keep x0, g4.keep x1⟩ | exact ⟨g5.keep y0, g5.keep y1, g5.keep x0, g5.keep x1⟩ | exact ⟨g6.keep y0, g6.keep y1, g6.keep x0, g6.keep x1⟩ | fail)
          (first | (go_at_call 17; (with_reducible refine (toProgram_any _ ars ps _ (HS.out.ext (E2.out.trans (Ext.refl w2).drew)) HSA.out HSP.out).mono ?_); rintro r w3 ⟨⟨v3, rfl, hv3⟩, hE3⟩; have g3 := (Ext.refl w2).drew.trans hE3; have HV3 := Lib.hid hv3.at; have G3 := Lib.hid g3; clear hE3 hv3) | (go_at_call 24; (with_reducible refine (toAccess_any arr _ subs _ (HAF.out.ext (E2.out.trans G3.out)) HSM.out).mono ?_); rintro r w4 ⟨q4, d4, rfl, hv4, hE4⟩; have g4 := G3.out.trans hE4; have HV4 := Lib.hid hv4.at; have HV34 := Lib.hid (HV3.out.ext hE4); have G4 := Lib.hid g4; clear hE4 hv4) | (go_at_call 25; (with_reducible refine (toIntS_any _ pt _ (HI.out.ext (E2.out.trans G4.out)) (by rw [HN.out]; exact hy)).mono ?_); rintro r w5 ⟨p5, c5, rfl, hv5, hE5⟩; have g5 := G4.out.trans hE5; have HV5 := Lib.hid hv5.at; have HV35 := Lib.hid (HV34.out.ext hE5); have HV45 := Lib.hid (HV4.out.ext hE5); have G5 := Lib.hid g5; clear hE5 hv5) | (go_at_call 23; (with_reducible refine (specCellOf_any v3 ars ps arr q4 _ d4 subs p5 _ c5 pt _ HV35.out HAR.out HV45.out HV5.out).mono ?_); rw [HANS.out]; rintro r w6 ⟨rfl, hE6⟩; have g6 := G5.out.trans hE6) | fail)
        have E6 := Lib.hid (E2.out.trans g6); have A6 := Lib.hid (g6.blk A2.out); have D6 := Lib.hid (g6.blk D2.out)
        clear g3 g4 g5 g6 y0 y1 x0 x1 HV3 HV34 HV35 HV4 HV45 HV5 G3 G4 G5
        obtain ⟨y0, y1, -, -⟩ := blk2 A6.out
        go_wp2_with (fail)
        refine (toProgram_any _ ars ps _ (HS.out.ext E6.out) HSA.out HSP.out).mono ?_
        rintro r w7 ⟨⟨v7, rfl, hv7⟩, hE⟩
        have E7 := Lib.hid (E6.out.trans hE); have A7 := Lib.hid (hE.blk A6.out); have D7 := Lib.hid (hE.blk D6.out); have HV7 := Lib.hid hv7.at
        obtain ⟨q7, c7, q8, c8, rfl, -, -, -, -⟩ := hv7.at.parts
        rw [HNA.out, HNP.out] at HV7 ⊢
        clear hE hv7 y0 y1
        obtain ⟨w8, hw8⟩ : ∃ w8, w7.alloc (.cells #[.slice q7 na c7, .slice q8 np c8] 31) = w8 := ⟨_, rfl⟩
        have X8 : Ext w7 w8 := by rw [← hw8]; exact (Ext.refl w7).alloc _
        have B8 := Lib.hid (show w8.heap[w7.heap.size]? = some (.cells #[.slice q7 na c7, .slice q8 np c8] 31 (0, 0)) by rw [← hw8]; exact blk_at rfl)
        have HW8 := Lib.hid hw8; have HX8 := Lib.hid X8
        have hl7 := lt_of_block D7.out
        obtain ⟨x0, x1, -, -⟩ := blk2 D7.out
        clear hw8 X8
        go_wp2_with (fail)
        rw [HW8.out]
        refine (toAccess_any arr _ subs _ (HAF.out.ext (E7.out.trans HX8.out)) HSM.out).mono ?_
        rintro r w9 ⟨q9, d9, rfl, hv9, hE⟩
        rw [HNS.out] at hv9 ⊢
        have E9 := Lib.hid ((E7.out.trans HX8.out).trans hE); have B9 := Lib.hid (hE.blk B8.out); have A9 := Lib.hid ((HX8.out.trans hE).blk A7.out); have D9 := Lib.hid ((HX8.out.trans hE).blk D7.out); have HV9 := Lib.hid hv9.at; have HV79 := Lib.hid (HV7.out.ext (HX8.out.trans hE))
        clear hE hv9 x0 x1 hl7
        obtain ⟨w10, hw10⟩ : ∃ w10, w9.alloc (.cells #[.string arr, .slice q9 ns d9] 44) = w10 := ⟨_, rfl⟩
        have X10 : Ext w9 w10 := by rw [← hw10]; exact (Ext.refl w9).alloc _
        have C10 := Lib.hid (show w10.heap[w9.heap.size]? = some (.cells #[.string arr, .slice q9 ns d9] 44 (0, 0)) by rw [← hw10]; exact blk_at rfl)
        have HW10 := Lib.hid hw10; have HX10 := Lib.hid X10
        clear hw10 X10
        go_wp2_with (fail)
        rw [HW10.out]
        refine (toIntS_any _ pt _ (HI.out.ext (E9.out.trans HX10.out)) (by rw [HN.out]; exact hy)).mono ?_
        rintro r w11 ⟨p11, d11, rfl, hv11, hE⟩
        rw [HN.out] at hv11 ⊢
        have E11 := Lib.hid ((E9.out.trans HX10.out).trans hE); have B11 := Lib.hid ((HX10.out.trans hE).blk B9.out); have C11 := Lib.hid (hE.blk C10.out); have A11 := Lib.hid ((HX10.out.trans hE).blk A9.out); have D11 := Lib.hid ((HX10.out.trans hE).blk D9.out); have HV11 := Lib.hid hv11.at; have HP11 := Lib.hid (HV79.out.ext (HX10.out.trans hE)); have HA11 := Lib.hid (HV9.out.ext (HX10.out.trans hE))
        clear hE hv11
        obtain ⟨u0, u1, -, -⟩ := blk2 B11.out
        obtain ⟨t0, t1, -, -⟩ := blk2 C11.out
        go_wp2_with (fail)
        refine (CellOf_any _ ars ps arr q9 ns d9 subs p11 n d11 pt _ HP11.out HAR.out HA11.out HV11.out).mono ?_
        rw [HANS.out]
        rintro r w12 ⟨rfl, hE⟩
        have E12 := Lib.hid (E11.out.trans hE); have B12 := Lib.hid (hE.blk B11.out); have C12 := Lib.hid (hE.blk C11.out); have A12 := Lib.hid (hE.blk A11.out); have D12 := Lib.hid (hE.blk D11.out); have HV12 := Lib.hid (HV11.out.ext hE); have HP12 := Lib.hid (HP11.out.ext hE); have HA12 := Lib.hid (HA11.out.ext hE)
        clear hE u0 u1 t0 t1
        obtain ⟨y0, y1, -, -⟩ := blk2 A12.out
        obtain ⟨u0, u1, -, -⟩ := blk2 B12.out
        have hne : (ans != ans) = false := by simp
        go_wp2
        go_region_held3 (fun W => W.cell? ⟨w.heap.size, 0, none⟩ = some (.slice q1 na c1) ∧ W.cell? ⟨w.heap.size, 1, none⟩ = some (.slice q2 np c2) ∧ W.cell? ⟨w7.heap.size, 0, none⟩ = some (.slice q7 na c7) ∧ W.cell? ⟨w7.heap.size, 1, none⟩ = some (.slice q8 np c8))
          (first | exact ⟨y0, y1, u0, u1⟩ | exact ⟨g3.keep y0, g3.keep y1, g3.keep u0, g3.keep u1⟩ | exact ⟨g4.keep y0, g4.keep y1, g4.keep u0, g4.keep u1⟩ | fail)
          (first | (go_at_call 17; (with_reducible refine (toProgram_any _ ars ps _ (HS.out.ext (E12.out.trans (Ext.refl w12).drew)) HSA.out HSP.out).mono ?_); rintro r w13 ⟨⟨v13, rfl, hv13⟩, hE13⟩; have g3 := (Ext.refl w12).drew.trans hE13; have HV13 := Lib.hid hv13.at; have G3 := Lib.hid g3; clear hE13 hv13) | (go_at_call 19; (with_reducible refine (eqProgram_same _ v13 ars ps _ (HP12.out.ext G3.out) HV13.out).mono ?_); rintro r w14 ⟨rfl, hE14⟩; have g4 := G3.out.trans hE14) | fail)
        have E14 := Lib.hid (E12.out.trans g4); have C14 := Lib.hid (g4.blk C12.out); have D14 := Lib.hid (g4.blk D12.out); have HV14 := Lib.hid (HV12.out.ext g4); have HA14 := Lib.hid (HA12.out.ext g4)
        clear g3 g4 y0 y1 u0 u1 HV13 G3
        obtain ⟨x0, x1, -, -⟩ := blk2 D14.out
        obtain ⟨t0, t1, -, -⟩ := blk2 C14.out
        go_wp2
        go_region_held3 (fun W => W.cell? ⟨w.heap.size + 1, 0, none⟩ = some (.string arr) ∧ W.cell? ⟨w.heap.size + 1, 1, none⟩ = some (.slice qs ns cs) ∧ W.cell? ⟨w9.heap.size, 0, none⟩ = some (.string arr) ∧ W.cell? ⟨w9.heap.size, 1, none⟩ = some (.slice q9 ns d9))
          (first | exact ⟨x0, x1, t0, t1⟩ | exact ⟨g3.keep x0, g3.keep x1, g3.keep t0, g3.keep t1⟩ | exact ⟨g4.keep x0, g4.keep x1, g4.keep t0, g4.keep t1⟩ | fail)
          (first | (go_at_call 24; (with_reducible refine (toAccess_any arr _ subs _ (HAF.out.ext (E14.out.trans (Ext.refl w14).drew)) HSM.out).mono ?_); rintro r w15 ⟨q15, d15, rfl, hv15, hE15⟩; have g3 := (Ext.refl w14).drew.trans hE15; have HV15 := Lib.hid hv15.at; have G3 := Lib.hid g3; clear hE15 hv15) | (go_at_call 27; (with_reducible refine (eqAccess_same arr _ _ subs _ (HA14.out.ext G3.out) HV15.out).mono ?_); rintro r w16 ⟨rfl, hE16⟩; have g4 := G3.out.trans hE16) | fail)
        have E16 := Lib.hid (E14.out.trans g4); have HV16 := Lib.hid (HV14.out.ext g4)
        clear g3 g4 x0 x1 t0 t1 HV15 G3
        go_wp2_with (fail)
        refine (toIntS_any _ pt _ (HI.out.ext E16.out) (by rw [HN.out]; exact hy)).mono ?_
        rintro r w17 ⟨p17, d17, rfl, hv17, hE⟩
        rw [HN.out] at hv17 ⊢
        have E17 := Lib.hid (E16.out.trans hE); have HV17 := Lib.hid (HV16.out.ext hE); have HI17 := Lib.hid hv17.at
        clear hE hv17
        go_wp2_with (fail)
        refine (eqIntS_any _ _ pt pt _ HV17.out HI17.out).mono ?_
        rintro r w18 ⟨rfl, hE⟩
        have E18 := Lib.hid (E17.out.trans hE)
        have heq : eqB pt pt = true := eqB_all (Nat.le_refl _) (Nat.le_refl _) rfl
        clear hE
        go_wp2
        go_ret
        exact ⟨rfl, E18.out⟩

theorem walkFnExactCellOf (v v1 v2 : Value) (w : World) (h : RProg w v) (h1 : RAcc w v1) (h2 : RInts w v2) :
    Calls Tryz.prog 5 #[v, v1, v2] w fun e w' => e = .returned (.bool true) ∧ Below w.heap.size w w' := by
  obtain ⟨ars, ps, hs⟩ := h
  obtain ⟨arr, u, subs, rfl, har, ha⟩ := h1
  obtain ⟨pt, hi, -⟩ := h2
  exact walk0FnExactCellOf v u v2 ars ps arr subs pt w hs har ha hi
end Go.Proofs.YtclgbnilfipobaaGreat

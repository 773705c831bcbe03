/- FnScaleAffine: multiples of drawn expressions, the walk. -/
import Derived.Test.YtcpbfefgjpimiaaDoorD12
import Derived.Test.YtcpbfefgjpimiaaDoorD9
import Derived.Test.YtcpbfefgjpimiaaDoorT8
import Derived.Test.YtcpbfefgjpimiaaDoorOp
namespace Go.Proofs.YtcpbfefgjpimiaaDoor
open Go.RowKit Go.ChangeShapes Go.WideShapes Go.ChangeAt Go.Joins

theorem aff_self (xs : List Int) (c : Int) : affEqB xs c xs c = true := by simp [affEqB, eqB]
theorem mul_lim {m e : Int} (h : -99 ≤ m ∧ m ≤ 99) (he : -1000000 ≤ e ∧ e ≤ 1000000) : -100000000 ≤ m * e ∧ m * e ≤ 100000000 := by
  constructor
  · have := Int.mul_nonneg (a := m + 100) (b := e + 1000000) (by omega) (by omega)
    have := Int.mul_nonneg (a := 100 - m) (b := 1000000 - e) (by omega) (by omega)
    simp only [Int.add_mul, Int.mul_add, Int.sub_mul, Int.mul_sub] at *
    omega
  · have := Int.mul_nonneg (a := m + 100) (b := 1000000 - e) (by omega) (by omega)
    have := Int.mul_nonneg (a := 100 - m) (b := e + 1000000) (by omega) (by omega)
    simp only [Int.add_mul, Int.mul_add, Int.sub_mul, Int.mul_sub] at *
    omega

set_option maxHeartbeats 3000000 in
set_option maxRecDepth 100000 in
theorem walkFnScaleAffine (v0 v1 : Value) (w : World) (h0 : RBytes w v0) (h1 : RBytes w v1) (ht : Tab w) :
    Calls Tryd.prog 5 #[v0, v1] w fun e w' => e = .returned (.bool true) ∧ Below w.heap.size w w' := by
  obtain ⟨p0, n0, c0, rfl, hb0, hl0⟩ := h0
  obtain ⟨p1, n1, c1, rfl, hb1, hl1⟩ := h1
  have hm0 := hb0.2.1
  have hm1 := hb1.2.1
  have HB0 := Lib.hid hb0; have HL0 := Lib.hid hl0; have HB1 := Lib.hid hb1; have HL1 := Lib.hid hl1; have HT0 := Lib.hid ht; clear hb0 hl0 hb1 hl1 ht
  by_cases h0 : n0 ≤ 1048576
  · by_cases h1 : n1 ≤ 1048576
    · have hd0 : decide ((1048576 : Int) < n0) = false := by simp; omega
      have hd1 : decide ((1048576 : Int) < n1) = false := by simp; omega
      go_enter Tryd.func5, Tryd.ntmps5
      go_wp2_with (fail)
      refine (DrawScaleAffine_any p0 n0 c0 _ HB0.out HL0.out).mono ?_
      rintro e w1 ⟨⟨u, k, m, xs, rfl, hx, hm⟩, E1⟩
      obtain ⟨pu, cu, rfl, -, -⟩ := id hx
      obtain ⟨r1, r2, r3, hr⟩ : ∃ r1 r2 r3, scaleR xs k m = (r1, r2, r3) := ⟨_, _, _, rfl⟩
      have HR := Lib.hid hr; have HM := Lib.hid hm; clear hr hm
      have gA : Ext w1 (w1.alloc (.cells #[.slice pu xs.length cu, .int .i64 k] 27)) := by exact (Ext.refl w1).alloc _
      have E_0 := Lib.hid (E1.trans gA)
      have HA_0 := Lib.hid (hx.ext gA)
      have KA_0 : Hid ((w1.alloc (.cells #[.slice pu xs.length cu, .int .i64 k] 27)).heap[w1.heap.size]? = some (.cells #[.slice pu xs.length cu, .int .i64 k] 27 (0, 0))) := Lib.hid (by exact blk_at rfl)
      have HT_0 := Lib.hid (HT0.out.ext (E1.trans gA))
      clear gA hx E1
      go_wp2_with (fail)
      generalize (w1.alloc (.cells #[.slice pu xs.length cu, .int .i64 k] 27)) = W2 at *
      refine (ScaleAffine_any (.slice pu xs.length cu) xs k m _ HA_0.out).mono ?_
      rw [HR.out]
      rintro e w3 ⟨⟨p3, c3, rfl, hv⟩, hE⟩
      dsimp only at hv ⊢
      have gC : Ext w3 (w3.alloc (.cells #[.slice p3 r1.length c3, .int .i64 r2] 27)) := by exact (Ext.refl w3).alloc _
      have g_ : Ext W2 (w3.alloc (.cells #[.slice p3 r1.length c3, .int .i64 r2] 27)) := hE.trans gC
      have E_1 := Lib.hid (E_0.out.trans (g_))
      have HA_1 := Lib.hid (HA_0.out.ext (g_))
      have KA_1 := Lib.hid ((g_).blk KA_0.out)
      have HT_1 := Lib.hid (HT_0.out.ext (g_))
      clear E_0 HA_0 KA_0 HT_0
      have HC_1 := Lib.hid (hv.at.ext gC)
      have KC_1 : Hid ((w3.alloc (.cells #[.slice p3 r1.length c3, .int .i64 r2] 27)).heap[w3.heap.size]? = some (.cells #[.slice p3 r1.length c3, .int .i64 r2] 27 (0, 0))) := Lib.hid (by exact blk_at rfl)
      clear hv hE g_ gC
      obtain ⟨al0, al1, -, -⟩ := blk2 KA_1.out
      go_wp2_with (fail)
      generalize (w3.alloc (.cells #[.slice p3 r1.length c3, .int .i64 r2] 27)) = W4 at *
      refine (specScaleAffine_any (.slice pu xs.length cu) xs k m _ HA_1.out).mono ?_
      rw [HR.out]
      rintro e w5 ⟨⟨p5, c5, rfl, hv⟩, hE⟩
      dsimp only at hv ⊢
      clear al0 al1
      have gD : Ext w5 (w5.alloc (.cells #[.slice p5 r1.length c5, .int .i64 r2] 27)) := by exact (Ext.refl w5).alloc _
      have g_ : Ext W4 (w5.alloc (.cells #[.slice p5 r1.length c5, .int .i64 r2] 27)) := hE.trans gD
      have E_2 := Lib.hid (E_1.out.trans (g_))
      have HA_2 := Lib.hid (HA_1.out.ext (g_))
      have KA_2 := Lib.hid ((g_).blk KA_1.out)
      have HT_2 := Lib.hid (HT_1.out.ext (g_))
      have HC_2 := Lib.hid (HC_1.out.ext (g_))
      have KC_2 := Lib.hid ((g_).blk KC_1.out)
      clear E_1 HA_1 KA_1 HT_1 HC_1 KC_1
      have HD_2 := Lib.hid (hv.at.ext gD)
      have KD_2 : Hid ((w5.alloc (.cells #[.slice p5 r1.length c5, .int .i64 r2] 27)).heap[w5.heap.size]? = some (.cells #[.slice p5 r1.length c5, .int .i64 r2] 27 (0, 0))) := Lib.hid (by exact blk_at rfl)
      clear hv hE g_ gD
      obtain ⟨cl0, cl1, -, -⟩ := blk2 KC_2.out
      obtain ⟨dl0, dl1, -, -⟩ := blk2 KD_2.out
      go_wp2_with (fail)
      generalize (w5.alloc (.cells #[.slice p5 r1.length c5, .int .i64 r2] 27)) = W6 at *
      refine (AffineSame_any (.slice p3 r1.length c3) (.slice p5 r1.length c5) r1 r1 r2 r2 _ HC_2.out HD_2.out).mono ?_
      rw [aff_self]
      rintro e w7 ⟨rfl, hE⟩
      clear cl0 cl1 dl0 dl1
      have E_3 := Lib.hid (E_2.out.trans (hE))
      have HA_3 := Lib.hid (HA_2.out.ext (hE))
      have KA_3 := Lib.hid ((hE).blk KA_2.out)
      have HT_3 := Lib.hid (HT_2.out.ext (hE))
      have HC_3 := Lib.hid (HC_2.out.ext (hE))
      have KC_3 := Lib.hid ((hE).blk KC_2.out)
      have HD_3 := Lib.hid (HD_2.out.ext (hE))
      have KD_3 := Lib.hid ((hE).blk KD_2.out)
      clear E_2 HA_2 KA_2 HT_2 HC_2 KC_2 HD_2 KD_2
      clear hE
      cases r3 with
      | false =>
        obtain ⟨cl0, cl1, -, -⟩ := blk2 KC_3.out
        obtain ⟨dl0, dl1, -, -⟩ := blk2 KD_3.out
        go_wp2_with (fail)
        refine (AffineSame_any (.slice p3 r1.length c3) (.slice p5 r1.length c5) r1 r1 r2 r2 _ HC_3.out HD_3.out).mono ?_
        rw [aff_self]
        rintro e w8 ⟨rfl, hE⟩
        clear cl0 cl1 dl0 dl1
        have E_4 := Lib.hid (E_3.out.trans (hE))
        have HA_4 := Lib.hid (HA_3.out.ext (hE))
        have KA_4 := Lib.hid ((hE).blk KA_3.out)
        have HT_4 := Lib.hid (HT_3.out.ext (hE))
        have HC_4 := Lib.hid (HC_3.out.ext (hE))
        have KC_4 := Lib.hid ((hE).blk KC_3.out)
        have HD_4 := Lib.hid (HD_3.out.ext (hE))
        have KD_4 := Lib.hid ((hE).blk KD_3.out)
        clear E_3 HA_3 KA_3 HT_3 HC_3 KC_3 HD_3 KD_3
        clear hE
        go_wp2
        go_ret
        exact ⟨rfl, E_4.out⟩
      | true =>
        obtain ⟨hxv, hmv, hr1, hr2, hrv⟩ := scaleR_t HR.out
        obtain ⟨a, b, c, d, hr4, -⟩ := valid_four hrv
        have HMM : Hid (-99 ≤ m ∧ m ≤ 99) := Lib.hid (by rcases HM.out with h | h; exact h; rw [h] at hmv; cases hmv)
        have HRV : Hid (affValidB [a, b, c, d] r2 = true) := Lib.hid (by rw [← hr4]; exact hrv)
        obtain ⟨nb, hnb⟩ : ∃ x, r2 * -1 = x := ⟨_, rfl⟩
        have HSN : Hid (scaleR r1 r2 (-1) = ([a * -1, b * -1, c * -1, d * -1], nb, true)) := Lib.hid (by rw [← hnb, hr4]; exact scale_neg HRV.out)
        have HAN : Hid (addR r1 r2 [a * -1, b * -1, c * -1, d * -1] nb = ([0, 0, 0, 0], 0, true)) := Lib.hid (by rw [← hnb, hr4]; exact add_neg HRV.out)
        clear hxv hmv hr1 hr2 hrv hr4 hnb
        go_wp2_with (fail)
        refine (DrawEvalAffine_any p1 n1 c1 _ (HB1.out.ext E_3.out) (fun b off h e => Nat.lt_of_lt_of_le (HL1.out b off h e) E_3.out.size_le)).mono ?_
        rintro e w9 ⟨⟨uf, vp, kf, fs, ps, rfl, hf, hp⟩, hE⟩
        obtain ⟨pf, cf, rfl, -, -⟩ := id hf
        obtain ⟨pp, cp, rfl, -, -⟩ := id hp
        have gF : Ext w9 (w9.alloc (.cells #[.slice pf fs.length cf, .int .i64 kf] 27)) := by exact (Ext.refl w9).alloc _
        have g_ : Ext w7 (w9.alloc (.cells #[.slice pf fs.length cf, .int .i64 kf] 27)) := hE.trans gF
        have E_4 := Lib.hid (E_3.out.trans (g_))
        have HA_4 := Lib.hid (HA_3.out.ext (g_))
        have KA_4 := Lib.hid ((g_).blk KA_3.out)
        have HT_4 := Lib.hid (HT_3.out.ext (g_))
        have HC_4 := Lib.hid (HC_3.out.ext (g_))
        have KC_4 := Lib.hid ((g_).blk KC_3.out)
        clear E_3 HA_3 KA_3 HT_3 HC_3 KC_3 HD_3 KD_3
        have HP_4 := Lib.hid (hp.ext gF)
        clear hE g_ gF hf hp
        obtain ⟨cl0, cl1, -, -⟩ := blk2 KC_4.out
        go_wp2_with (fail)
        generalize (w9.alloc (.cells #[.slice pf fs.length cf, .int .i64 kf] 27)) = W10 at *
        refine (ScaleAffine_any (.slice p3 r1.length c3) r1 r2 (-1) _ HC_4.out).mono ?_
        rw [HSN.out]
        rintro e w11 ⟨⟨p7, c7, rfl, hv⟩, hE⟩
        dsimp only [List.length_cons, List.length_nil, Nat.reduceAdd] at hv ⊢
        clear cl0 cl1
        have gB : Ext w11 (w11.alloc (.cells #[.slice p7 4 c7, .int .i64 nb] 27)) := by exact (Ext.refl w11).alloc _
        have g_ : Ext W10 (w11.alloc (.cells #[.slice p7 4 c7, .int .i64 nb] 27)) := hE.trans gB
        have E_5 := Lib.hid (E_4.out.trans (g_))
        have HA_5 := Lib.hid (HA_4.out.ext (g_))
        have KA_5 := Lib.hid ((g_).blk KA_4.out)
        have HT_5 := Lib.hid (HT_4.out.ext (g_))
        have HC_5 := Lib.hid (HC_4.out.ext (g_))
        have KC_5 := Lib.hid ((g_).blk KC_4.out)
        have HP_5 := Lib.hid (HP_4.out.ext (g_))
        clear E_4 HA_4 KA_4 HT_4 HC_4 KC_4 HP_4
        have HBK_5 := Lib.hid (hv.at.ext gB)
        have KB_5 : Hid ((w11.alloc (.cells #[.slice p7 4 c7, .int .i64 nb] 27)).heap[w11.heap.size]? = some (.cells #[.slice p7 4 c7, .int .i64 nb] 27 (0, 0))) := Lib.hid (by exact blk_at rfl)
        clear hv hE g_ gB
        obtain ⟨cl0, cl1, -, -⟩ := blk2 KC_5.out
        obtain ⟨bl0, bl1, -, -⟩ := blk2 KB_5.out
        go_wp2_with (fail)
        generalize (w11.alloc (.cells #[.slice p7 4 c7, .int .i64 nb] 27)) = W12 at *
        refine (AddAffine_any (.slice p3 r1.length c3) (.slice p7 4 c7) r1 [a * -1, b * -1, c * -1, d * -1] r2 nb _ HC_5.out HBK_5.out).mono ?_
        rw [HAN.out]
        rintro e w13 ⟨⟨p9, c9, rfl, hv⟩, hE⟩
        dsimp only [List.length_cons, List.length_nil, Nat.reduceAdd] at hv ⊢
        clear cl0 cl1 bl0 bl1
        have gS : Ext w13 (w13.alloc (.cells #[.slice p9 4 c9, .int .i64 0] 27)) := by exact (Ext.refl w13).alloc _
        have g_ : Ext W12 (w13.alloc (.cells #[.slice p9 4 c9, .int .i64 0] 27)) := hE.trans gS
        have E_6 := Lib.hid (E_5.out.trans (g_))
        have HA_6 := Lib.hid (HA_5.out.ext (g_))
        have KA_6 := Lib.hid ((g_).blk KA_5.out)
        have HT_6 := Lib.hid (HT_5.out.ext (g_))
        have HC_6 := Lib.hid (HC_5.out.ext (g_))
        have KC_6 := Lib.hid ((g_).blk KC_5.out)
        have HP_6 := Lib.hid (HP_5.out.ext (g_))
        clear E_5 HA_5 KA_5 HT_5 HC_5 KC_5 HP_5 HBK_5 KB_5
        have HS_6 := Lib.hid (hv.at.ext gS)
        have KS_6 : Hid ((w13.alloc (.cells #[.slice p9 4 c9, .int .i64 0] 27)).heap[w13.heap.size]? = some (.cells #[.slice p9 4 c9, .int .i64 0] 27 (0, 0))) := Lib.hid (by exact blk_at rfl)
        clear hv hE g_ gS
        obtain ⟨sl0, sl1, -, -⟩ := blk2 KS_6.out
        obtain ⟨cl0, cl1, -, -⟩ := blk2 KC_6.out
        obtain ⟨al0, al1, -, -⟩ := blk2 KA_6.out
        obtain ⟨ea, hea⟩ : ∃ e, evalR xs k ps = e := ⟨_, rfl⟩
        have HEA := Lib.hid hea
        have HEC : Hid (evalR r1 r2 ps = m * ea) := Lib.hid (by rw [eval_scale HR.out ps, hea])
        have hbd := evalR_bd xs k ps
        rw [hea] at hbd
        have hmul : -100000000 ≤ m * ea ∧ m * ea ≤ 100000000 := mul_lim HMM.out hbd
        have hw : IntKind.i64.wrap (m * ea) = m * ea := by rw [IntKind.wrap_i64]; omega
        have HW := Lib.hid hw
        clear hw hea hbd
        go_wp2_with (fail)
        generalize (w13.alloc (.cells #[.slice p9 4 c9, .int .i64 0] 27)) = W14 at *
        go_region_held3 (fun W' => W'.cell? ⟨w13.heap.size, 0, none⟩ = some (.slice p9 4 c9) ∧ W'.cell? ⟨w13.heap.size, 1, none⟩ = some (.int .i64 0) ∧ W'.cell? ⟨w3.heap.size, 0, none⟩ = some (.slice p3 r1.length c3) ∧ W'.cell? ⟨w3.heap.size, 1, none⟩ = some (.int .i64 r2) ∧ W'.cell? ⟨w1.heap.size, 0, none⟩ = some (.slice pu xs.length cu) ∧ W'.cell? ⟨w1.heap.size, 1, none⟩ = some (.int .i64 k))
          (first | exact ⟨sl0, sl1, cl0, cl1, al0, al1⟩ | exact ⟨g1.keep sl0, g1.keep sl1, g1.keep cl0, g1.keep cl1, g1.keep al0, g1.keep al1⟩ | exact ⟨g2.keep sl0, g2.keep sl1, g2.keep cl0, g2.keep cl1, g2.keep al0, g2.keep al1⟩ | exact ⟨g3.keep sl0, g3.keep sl1, g3.keep cl0, g3.keep cl1, g3.keep al0, g3.keep al1⟩ | fail)
          (first
            | (go_at_call 10; (with_reducible refine (FormatAffine_any (.slice p9 4 c9) [0, 0, 0, 0] 0 _ (HS_6.out.ext (Ext.refl W14).drew) (HT_6.out.ext (Ext.refl W14).drew)).mono ?_); rw [fmt_zero]; rintro e v1 ⟨rfl, hx1⟩; have g1 : Ext W14 v1 := (Ext.refl W14).drew.trans hx1)
            | (go_at_call 20; (with_reducible refine (EvalAffine_any (.slice p3 r1.length c3) (.slice pp ps.length cp) r1 ps r2 _ (HC_6.out.ext g1) (HP_6.out.ext g1)).mono ?_); rw [HEC.out]; rintro e v2 ⟨rfl, hx2⟩; have g2 : Ext W14 v2 := g1.trans hx2)
            | (go_at_call 20; (with_reducible refine (EvalAffine_any (.slice pu xs.length cu) (.slice pp ps.length cp) xs ps k _ (HA_6.out.ext g2) (HP_6.out.ext g2)).mono ?_); rw [HEA.out]; rintro e v3 ⟨rfl, hx3⟩; have g3 : Ext W14 v3 := g2.trans hx3)
            | fail)
        have HEV := Lib.hid (E_6.out.trans g3)
        clear hx1 hx2 hx3 g1 g2 g3 sl0 sl1 cl0 cl1 al0 al1
        go_wp2
        go_ret
        exact ⟨ret_bool (by rw [HW.out]; simp), HEV.out⟩
    · have hd0 : decide ((1048576 : Int) < n0) = false := by simp; omega
      have hd1 : decide ((1048576 : Int) < n1) = true := by simp; omega
      go_enter Tryd.func5, Tryd.ntmps5
      go_wp2
      go_ret
      exact ⟨rfl, Ext.refl w⟩
  · have hd0 : decide ((1048576 : Int) < n0) = true := by simp; omega
    go_enter Tryd.func5, Tryd.ntmps5
    go_wp2
    go_ret
    exact ⟨rfl, Ext.refl w⟩
end Go.Proofs.YtcpbfefgjpimiaaDoor

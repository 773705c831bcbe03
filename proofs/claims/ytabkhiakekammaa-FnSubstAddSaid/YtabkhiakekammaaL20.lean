/- FnSubstAdd: substitutions in sums of drawn expressions, the walk. -/
import Derived.Test.YtabkhiakekammaaD10
import Derived.Test.YtabkhiakekammaaD8
import Derived.Test.YtabkhiakekammaaA19
import Derived.Test.YtabkhiakekammaaA18
import Derived.Test.YtabkhiakekammaaOpB
namespace Go.Proofs.Ytabkhiakekammaa
open Go.RowKit Go.ChangeShapes Go.WideShapes Go.ChangeAt Go.Joins

theorem affSame_self (xs : List Int) (c : Int) : affEqB xs c xs c = true := by simp [affEqB, eqB]
theorem substR_all {xs ys r1 : List Int} {k l x r2 : Int} (h : substR xs k x ys l = (r1, r2, true)) : affValidB xs k = true ∧ affValidB ys l = true ∧ (0 ≤ x ∧ x < 4) ∧ r1 = substL xs ys x.toNat ∧ r2 = k + l * xs.getD x.toNat 0 ∧ affValidB r1 r2 = true := by
  unfold substR at h
  split at h
  · rename_i hv
    unfold chk at h
    split at h
    · rename_i hc
      simp only [Prod.mk.injEq, and_true] at h
      obtain ⟨rfl, rfl⟩ := h
      exact ⟨hv.1, hv.2.1, hv.2.2, rfl, rfl, hc⟩
    · cases h
  · cases h
theorem substL_add (us bs ys : List Int) (j : Nat) (ha : us.length = 4) (hb : bs.length = 4) (hy : ys.length = 4) (hj : j < 4) : substL (List.zipWith (· + ·) us bs) ys j = List.zipWith (· + ·) (substL us ys j) (substL bs ys j) := by
  obtain ⟨a0, a1, a2, a3, rfl⟩ := four ha
  obtain ⟨b0, b1, b2, b3, rfl⟩ := four hb
  obtain ⟨y0, y1, y2, y3, rfl⟩ := four hy
  match j, hj with
  | 0, _ => simp [substL]; grind
  | 1, _ => simp [substL]; grind
  | 2, _ => simp [substL]; grind
  | 3, _ => simp [substL]; grind
theorem getD_add (us bs : List Int) (j : Nat) (ha : us.length = 4) (hb : bs.length = 4) (hj : j < 4) : (List.zipWith (· + ·) us bs).getD j 0 = us.getD j 0 + bs.getD j 0 := by
  obtain ⟨a0, a1, a2, a3, rfl⟩ := four ha
  obtain ⟨b0, b1, b2, b3, rfl⟩ := four hb
  match j, hj with
  | 0, _ => rfl
  | 1, _ => rfl
  | 2, _ => rfl
  | 3, _ => rfl
theorem valid_len {xs : List Int} {k : Int} (h : affValidB xs k = true) : xs.length = 4 := by
  obtain ⟨_, _, _, _, rfl, -⟩ := valid_four h
  rfl
theorem subst_add {us bs ys r1 t1 s1 z1 q1 : List Int} {ka kb l x r2 t2 s2 z2 q2 : Int} {r3 t3 s3 z3 q3 : Bool} (hr : substR us ka x ys l = (r1, r2, r3)) (ht : substR bs kb x ys l = (t1, t2, t3)) (hs : addR us ka bs kb = (s1, s2, s3)) (hz : substR s1 s2 x ys l = (z1, z2, z3)) (hq : addR r1 r2 t1 t2 = (q1, q2, q3)) (hr3 : r3 = true) :
    t3 = true → s3 = true → z3 = true → z1 = q1 ∧ z2 = q2 ∧ q3 = true := by
  rintro rfl rfl rfl
  subst hr3
  obtain ⟨va, vy, hx, rfl, rfl, vr⟩ := substR_all hr
  obtain ⟨vb, -, -, rfl, rfl, vt⟩ := substR_all ht
  obtain ⟨-, -, rfl, rfl, -⟩ := addR_true hs
  obtain ⟨-, -, -, rfl, rfl, vz⟩ := substR_all hz
  have hj : x.toNat < 4 := by omega
  have e1 := substL_add us bs ys x.toNat (valid_len va) (valid_len vb) (valid_len vy) hj
  have e2 : ka + kb + l * (List.zipWith (· + ·) us bs).getD x.toNat 0 = ka + l * us.getD x.toNat 0 + (kb + l * bs.getD x.toNat 0) := by rw [getD_add us bs _ (valid_len va) (valid_len vb) hj, Int.mul_add]; omega
  unfold addR at hq
  rw [if_pos ⟨vr, vt⟩, ← e1, ← e2] at hq
  unfold chk at hq
  rw [if_pos vz] at hq
  simp only [Prod.mk.injEq] at hq
  exact ⟨hq.1, hq.2.1, hq.2.2.symm⟩

set_option maxHeartbeats 1600000 in
set_option maxRecDepth 100000 in
theorem walkFnSubstAdd (v0 v1 : Value) (w : World) (h0 : RBytes w v0) (h1 : RBytes w v1) :
    Calls Try.prog 3 #[v0, v1] w fun e w' => e = .returned (.bool true) ∧ Below w.heap.size w w' := by
  obtain ⟨p0, n0, c0, rfl, hb0, hl0⟩ := h0
  obtain ⟨p1, n1, c1, rfl, hb1, hl1⟩ := h1
  have hm0 := hb0.2.1
  have hm1 := hb1.2.1
  have HB0 := Lib.hid hb0; have HL0 := Lib.hid hl0; have HB1 := Lib.hid hb1; have HL1 := Lib.hid hl1; clear hb0 hl0 hb1 hl1
  by_cases h0 : n0 ≤ 1048576
  · by_cases h1 : n1 ≤ 1048576
    · have hd0 : decide ((1048576 : Int) < n0) = false := by simp; omega
      have hd1 : decide ((1048576 : Int) < n1) = false := by simp; omega
      go_enter Try.func3, Try.ntmps3
      go_wp2_with (fail)
      refine (DrawSubstAffine_any p0 n0 c0 _ HB0.out HL0.out).mono ?_
      rintro e w1 ⟨⟨u, v, k, l, x, xs, ys, rfl, hx, hy⟩, E1⟩
      obtain ⟨pu, cu, rfl, -, -⟩ := id hx
      obtain ⟨pv, cv, rfl, -, -⟩ := id hy
      have E2 : Ext w1 ((w1.alloc (.cells #[.slice pu xs.length cu, .int .i64 k] 25)).alloc (.cells #[.slice pv ys.length cv, .int .i64 l] 25)) := ((Ext.refl w1).alloc _).alloc _
      have HX_0 := Lib.hid (hx.ext E2); have HY_0 := Lib.hid (hy.ext E2)
      have A_0 : Hid (((w1.alloc (.cells #[.slice pu xs.length cu, .int .i64 k] 25)).alloc (.cells #[.slice pv ys.length cv, .int .i64 l] 25)).heap[w1.heap.size]? = some (.cells #[.slice pu xs.length cu, .int .i64 k] 25 (0, 0))) := Lib.hid (blk_old (blk_at rfl))
      have B_0 : Hid (((w1.alloc (.cells #[.slice pu xs.length cu, .int .i64 k] 25)).alloc (.cells #[.slice pv ys.length cv, .int .i64 l] 25)).heap[w1.heap.size + 1]? = some (.cells #[.slice pv ys.length cv, .int .i64 l] 25 (0, 0))) := Lib.hid (blk_at (by simp))
      have HE1 := Lib.hid (E1.trans E2)
      clear E2 hx hy E1
      have HLX : Hid (∀ b off, 0 < n1 → p1 = some ⟨b, off, none⟩ → b < ((w1.alloc (.cells #[.slice pu xs.length cu, .int .i64 k] 25)).alloc (.cells #[.slice pv ys.length cv, .int .i64 l] 25)).heap.size) := Lib.hid (fun b off hn e => Nat.lt_of_lt_of_le (HL1.out b off hn e) HE1.out.size_le)
      go_wp2_with (fail)
      generalize ((w1.alloc (.cells #[.slice pu xs.length cu, .int .i64 k] 25)).alloc (.cells #[.slice pv ys.length cv, .int .i64 l] 25)) = W2 at *
      generalize w1.heap.size = ga at *
      refine (DrawAddAffine_any p1 n1 c1 _ (HB1.out.ext HE1.out) HLX.out).mono ?_
      rintro e w3 ⟨⟨ub, vb, m, m9, bs, bs9, rfl, hb, hb9⟩, hE⟩
      obtain ⟨pb, cb, rfl, -, -⟩ := id hb
      obtain ⟨pb9, cb9, rfl, -, -⟩ := id hb9
      clear hb9 HLX
      have g_ : Ext W2 ((w3.alloc (.cells #[.slice pb bs.length cb, .int .i64 m] 25)).alloc (.cells #[.slice pb9 bs9.length cb9, .int .i64 m9] 25)) := (hE.alloc _).alloc _
      have A_1 := Lib.hid ((g_).blk A_0.out)
      have B_1 := Lib.hid ((g_).blk B_0.out)
      have HX_1 := Lib.hid (HX_0.out.ext (g_))
      have HY_1 := Lib.hid (HY_0.out.ext (g_))
      have HE_1 := Lib.hid (HE1.out.trans (g_))
      clear A_0 B_0 HX_0 HY_0 HE1
      have HB_1 : Hid (IntsAt ((w3.alloc (.cells #[.slice pb bs.length cb, .int .i64 m] 25)).alloc (.cells #[.slice pb9 bs9.length cb9, .int .i64 m9] 25)) _ _) := Lib.hid (hb.ext (((Ext.refl w3).alloc _).alloc _))
      have C_1 : Hid (((w3.alloc (.cells #[.slice pb bs.length cb, .int .i64 m] 25)).alloc (.cells #[.slice pb9 bs9.length cb9, .int .i64 m9] 25)).heap[w3.heap.size]? = some (.cells #[.slice pb bs.length cb, .int .i64 m] 25 (0, 0))) := Lib.hid (blk_old (blk_at rfl))
      clear hb hE g_
      obtain ⟨r1, r2, r3, hr⟩ : ∃ r1 r2 r3, substR xs k x ys l = (r1, r2, r3) := ⟨_, _, _, rfl⟩
      obtain ⟨t1, t2, t3, ht⟩ : ∃ t1 t2 t3, substR bs m x ys l = (t1, t2, t3) := ⟨_, _, _, rfl⟩
      obtain ⟨s1, s2, s3, hs⟩ : ∃ s1 s2 s3, addR xs k bs m = (s1, s2, s3) := ⟨_, _, _, rfl⟩
      obtain ⟨z1, z2, z3, hz⟩ : ∃ z1 z2 z3, substR s1 s2 x ys l = (z1, z2, z3) := ⟨_, _, _, rfl⟩
      obtain ⟨q1, q2, q3, hq⟩ : ∃ q1 q2 q3, addR r1 r2 t1 t2 = (q1, q2, q3) := ⟨_, _, _, rfl⟩
      have HRr := Lib.hid hr; have HRt := Lib.hid ht; have HRs := Lib.hid hs; have HRz := Lib.hid hz; have HRq := Lib.hid hq; clear hr ht hs hz hq
      obtain ⟨A0, A1, -, -⟩ := blk2 A_1.out
      obtain ⟨B0, B1, -, -⟩ := blk2 B_1.out
      go_wp2_with (fail)
      generalize ((w3.alloc (.cells #[.slice pb bs.length cb, .int .i64 m] 25)).alloc (.cells #[.slice pb9 bs9.length cb9, .int .i64 m9] 25)) = W3 at *
      generalize w3.heap.size = g3 at *
      refine (SubstAffine_any (.slice pu xs.length cu) (.slice pv ys.length cv) xs ys k l x _ HX_1.out HY_1.out).mono ?_
      rw [HRr.out]
      rintro e w5 ⟨⟨q5, d5, rfl, hv⟩, hE⟩
      dsimp only at hv ⊢
      clear A0 A1 B0 B1
      have g_ : Ext W3 (w5.alloc (.cells #[.slice q5 r1.length d5, .int .i64 r2] 25)) := hE.alloc _
      have A_2 := Lib.hid ((g_).blk A_1.out)
      have B_2 := Lib.hid ((g_).blk B_1.out)
      have C_2 := Lib.hid ((g_).blk C_1.out)
      have HX_2 := Lib.hid (HX_1.out.ext (g_))
      have HY_2 := Lib.hid (HY_1.out.ext (g_))
      have HB_2 := Lib.hid (HB_1.out.ext (g_))
      have HE_2 := Lib.hid (HE_1.out.trans (g_))
      clear A_1 B_1 C_1 HX_1 HY_1 HB_1 HE_1
      have HD_2 := Lib.hid (hv.at.ext ((Ext.refl w5).alloc (.cells #[.slice q5 r1.length d5, .int .i64 r2] 25)))
      have D_2 : Hid ((w5.alloc (.cells #[.slice q5 r1.length d5, .int .i64 r2] 25)).heap[w5.heap.size]? = some (.cells #[.slice q5 r1.length d5, .int .i64 r2] 25 (0, 0))) := Lib.hid (blk_at rfl)
      clear hv hE g_
      obtain ⟨A0, A1, -, -⟩ := blk2 A_2.out
      obtain ⟨B0, B1, -, -⟩ := blk2 B_2.out
      go_wp2_with (fail)
      generalize w5.alloc (.cells #[.slice q5 r1.length d5, .int .i64 r2] 25) = W5 at *
      generalize w5.heap.size = g5 at *
      refine (specSubstAffine_any (.slice pu xs.length cu) (.slice pv ys.length cv) xs ys k l x _ HX_2.out HY_2.out).mono ?_
      rw [HRr.out]
      rintro e w6 ⟨⟨q6, d6, rfl, hv⟩, hE⟩
      dsimp only at hv ⊢
      clear A0 A1 B0 B1
      have g_ : Ext W5 (w6.alloc (.cells #[.slice q6 r1.length d6, .int .i64 r2] 25)) := hE.alloc _
      have A_3 := Lib.hid ((g_).blk A_2.out)
      have B_3 := Lib.hid ((g_).blk B_2.out)
      have C_3 := Lib.hid ((g_).blk C_2.out)
      have D_3 := Lib.hid ((g_).blk D_2.out)
      have HX_3 := Lib.hid (HX_2.out.ext (g_))
      have HY_3 := Lib.hid (HY_2.out.ext (g_))
      have HB_3 := Lib.hid (HB_2.out.ext (g_))
      have HD_3 := Lib.hid (HD_2.out.ext (g_))
      have HE_3 := Lib.hid (HE_2.out.trans (g_))
      clear A_2 B_2 C_2 D_2 HX_2 HY_2 HB_2 HD_2 HE_2
      have HF_3 := Lib.hid (hv.at.ext ((Ext.refl w6).alloc (.cells #[.slice q6 r1.length d6, .int .i64 r2] 25)))
      have F_3 : Hid ((w6.alloc (.cells #[.slice q6 r1.length d6, .int .i64 r2] 25)).heap[w6.heap.size]? = some (.cells #[.slice q6 r1.length d6, .int .i64 r2] 25 (0, 0))) := Lib.hid (blk_at rfl)
      clear hv hE g_
      obtain ⟨D0, D1, -, -⟩ := blk2 D_3.out
      obtain ⟨F0, F1, -, -⟩ := blk2 F_3.out
      go_wp2_with (fail)
      generalize w6.alloc (.cells #[.slice q6 r1.length d6, .int .i64 r2] 25) = W6 at *
      generalize w6.heap.size = g6 at *
      refine (AffineSame_any (.slice q5 r1.length d5) (.slice q6 r1.length d6) r1 r1 r2 r2 _ HD_3.out HF_3.out).mono ?_
      rw [affSame_self]
      rintro e w7 ⟨rfl, hE⟩
      clear D0 D1 F0 F1
      have A_4 := Lib.hid ((hE).blk A_3.out)
      have B_4 := Lib.hid ((hE).blk B_3.out)
      have C_4 := Lib.hid ((hE).blk C_3.out)
      have D_4 := Lib.hid ((hE).blk D_3.out)
      have F_4 := Lib.hid ((hE).blk F_3.out)
      have HX_4 := Lib.hid (HX_3.out.ext (hE))
      have HY_4 := Lib.hid (HY_3.out.ext (hE))
      have HB_4 := Lib.hid (HB_3.out.ext (hE))
      have HD_4 := Lib.hid (HD_3.out.ext (hE))
      have HF_4 := Lib.hid (HF_3.out.ext (hE))
      have HE_4 := Lib.hid (HE_3.out.trans (hE))
      clear A_3 B_3 C_3 D_3 F_3 HX_3 HY_3 HB_3 HD_3 HF_3 HE_3
      clear hE
      cases r3 with
      | false =>
        obtain ⟨D0, D1, -, -⟩ := blk2 D_4.out
        obtain ⟨F0, F1, -, -⟩ := blk2 F_4.out
        go_wp2_with (fail)
        refine (AffineSame_any (.slice q5 r1.length d5) (.slice q6 r1.length d6) r1 r1 r2 r2 _ HD_4.out HF_4.out).mono ?_
        rw [affSame_self]
        rintro e w8 ⟨rfl, hE⟩
        clear D0 D1 F0 F1
        have A_5 := Lib.hid ((hE).blk A_4.out)
        have B_5 := Lib.hid ((hE).blk B_4.out)
        have C_5 := Lib.hid ((hE).blk C_4.out)
        have D_5 := Lib.hid ((hE).blk D_4.out)
        have F_5 := Lib.hid ((hE).blk F_4.out)
        have HX_5 := Lib.hid (HX_4.out.ext (hE))
        have HY_5 := Lib.hid (HY_4.out.ext (hE))
        have HB_5 := Lib.hid (HB_4.out.ext (hE))
        have HD_5 := Lib.hid (HD_4.out.ext (hE))
        have HF_5 := Lib.hid (HF_4.out.ext (hE))
        have HE_5 := Lib.hid (HE_4.out.trans (hE))
        clear A_4 B_4 C_4 D_4 F_4 HX_4 HY_4 HB_4 HD_4 HF_4 HE_4
        clear hE
        go_wp2
        go_ret
        exact ⟨rfl, HE_5.out⟩
      | true =>
        have HLem := Lib.hid (subst_add HRr.out HRt.out HRs.out HRz.out HRq.out rfl)
        obtain ⟨C0, C1, -, -⟩ := blk2 C_4.out
        obtain ⟨B0, B1, -, -⟩ := blk2 B_4.out
        go_wp2_with (fail)
        refine (SubstAffine_any (.slice pb bs.length cb) (.slice pv ys.length cv) bs ys m l x _ HB_4.out HY_4.out).mono ?_
        rw [HRt.out]
        rintro e w10 ⟨⟨q10, d10, rfl, hv⟩, hE⟩
        dsimp only at hv ⊢
        clear C0 C1 B0 B1
        have g_ : Ext w7 (w10.alloc (.cells #[.slice q10 t1.length d10, .int .i64 t2] 25)) := hE.alloc _
        have A_5 := Lib.hid ((g_).blk A_4.out)
        have B_5 := Lib.hid ((g_).blk B_4.out)
        have C_5 := Lib.hid ((g_).blk C_4.out)
        have D_5 := Lib.hid ((g_).blk D_4.out)
        have F_5 := Lib.hid ((g_).blk F_4.out)
        have HX_5 := Lib.hid (HX_4.out.ext (g_))
        have HY_5 := Lib.hid (HY_4.out.ext (g_))
        have HB_5 := Lib.hid (HB_4.out.ext (g_))
        have HD_5 := Lib.hid (HD_4.out.ext (g_))
        have HF_5 := Lib.hid (HF_4.out.ext (g_))
        have HE_5 := Lib.hid (HE_4.out.trans (g_))
        clear A_4 B_4 C_4 D_4 F_4 HX_4 HY_4 HB_4 HD_4 HF_4 HE_4
        have HG_5 := Lib.hid (hv.at.ext ((Ext.refl w10).alloc (.cells #[.slice q10 t1.length d10, .int .i64 t2] 25)))
        have G_5 : Hid ((w10.alloc (.cells #[.slice q10 t1.length d10, .int .i64 t2] 25)).heap[w10.heap.size]? = some (.cells #[.slice q10 t1.length d10, .int .i64 t2] 25 (0, 0))) := Lib.hid (blk_at rfl)
        clear hv hE g_
        obtain ⟨A0, A1, -, -⟩ := blk2 A_5.out
        obtain ⟨C0, C1, -, -⟩ := blk2 C_5.out
        go_wp2_with (fail)
        generalize w10.alloc (.cells #[.slice q10 t1.length d10, .int .i64 t2] 25) = W10 at *
        generalize w10.heap.size = g10 at *
        refine (AddAffine_any (.slice pu xs.length cu) (.slice pb bs.length cb) xs bs k m _ HX_5.out HB_5.out).mono ?_
        rw [HRs.out]
        rintro e w11 ⟨⟨q11, d11, rfl, hv⟩, hE⟩
        dsimp only at hv ⊢
        clear A0 A1 C0 C1
        have g_ : Ext W10 (w11.alloc (.cells #[.slice q11 s1.length d11, .int .i64 s2] 25)) := hE.alloc _
        have A_6 := Lib.hid ((g_).blk A_5.out)
        have B_6 := Lib.hid ((g_).blk B_5.out)
        have C_6 := Lib.hid ((g_).blk C_5.out)
        have D_6 := Lib.hid ((g_).blk D_5.out)
        have F_6 := Lib.hid ((g_).blk F_5.out)
        have G_6 := Lib.hid ((g_).blk G_5.out)
        have HX_6 := Lib.hid (HX_5.out.ext (g_))
        have HY_6 := Lib.hid (HY_5.out.ext (g_))
        have HB_6 := Lib.hid (HB_5.out.ext (g_))
        have HD_6 := Lib.hid (HD_5.out.ext (g_))
        have HF_6 := Lib.hid (HF_5.out.ext (g_))
        have HG_6 := Lib.hid (HG_5.out.ext (g_))
        have HE_6 := Lib.hid (HE_5.out.trans (g_))
        clear A_5 B_5 C_5 D_5 F_5 G_5 HX_5 HY_5 HB_5 HD_5 HF_5 HG_5 HE_5
        have HH_6 := Lib.hid (hv.at.ext ((Ext.refl w11).alloc (.cells #[.slice q11 s1.length d11, .int .i64 s2] 25)))
        have H_6 : Hid ((w11.alloc (.cells #[.slice q11 s1.length d11, .int .i64 s2] 25)).heap[w11.heap.size]? = some (.cells #[.slice q11 s1.length d11, .int .i64 s2] 25 (0, 0))) := Lib.hid (blk_at rfl)
        clear hv hE g_
        obtain ⟨H0, H1, -, -⟩ := blk2 H_6.out
        obtain ⟨B0, B1, -, -⟩ := blk2 B_6.out
        go_wp2_with (fail)
        generalize w11.alloc (.cells #[.slice q11 s1.length d11, .int .i64 s2] 25) = W11 at *
        generalize w11.heap.size = g11 at *
        refine (SubstAffine_any (.slice q11 s1.length d11) (.slice pv ys.length cv) s1 ys s2 l x _ HH_6.out HY_6.out).mono ?_
        rw [HRz.out]
        rintro e w12 ⟨⟨q12, d12, rfl, hv⟩, hE⟩
        dsimp only at hv ⊢
        clear H0 H1 B0 B1
        have g_ : Ext W11 (w12.alloc (.cells #[.slice q12 z1.length d12, .int .i64 z2] 25)) := hE.alloc _
        have A_7 := Lib.hid ((g_).blk A_6.out)
        have B_7 := Lib.hid ((g_).blk B_6.out)
        have C_7 := Lib.hid ((g_).blk C_6.out)
        have D_7 := Lib.hid ((g_).blk D_6.out)
        have F_7 := Lib.hid ((g_).blk F_6.out)
        have G_7 := Lib.hid ((g_).blk G_6.out)
        have H_7 := Lib.hid ((g_).blk H_6.out)
        have HX_7 := Lib.hid (HX_6.out.ext (g_))
        have HY_7 := Lib.hid (HY_6.out.ext (g_))
        have HB_7 := Lib.hid (HB_6.out.ext (g_))
        have HD_7 := Lib.hid (HD_6.out.ext (g_))
        have HF_7 := Lib.hid (HF_6.out.ext (g_))
        have HG_7 := Lib.hid (HG_6.out.ext (g_))
        have HH_7 := Lib.hid (HH_6.out.ext (g_))
        have HE_7 := Lib.hid (HE_6.out.trans (g_))
        clear A_6 B_6 C_6 D_6 F_6 G_6 H_6 HX_6 HY_6 HB_6 HD_6 HF_6 HG_6 HH_6 HE_6
        have HI_7 := Lib.hid (hv.at.ext ((Ext.refl w12).alloc (.cells #[.slice q12 z1.length d12, .int .i64 z2] 25)))
        have I_7 : Hid ((w12.alloc (.cells #[.slice q12 z1.length d12, .int .i64 z2] 25)).heap[w12.heap.size]? = some (.cells #[.slice q12 z1.length d12, .int .i64 z2] 25 (0, 0))) := Lib.hid (blk_at rfl)
        clear hv hE g_
        obtain ⟨D0, D1, -, -⟩ := blk2 D_7.out
        obtain ⟨G0, G1, -, -⟩ := blk2 G_7.out
        go_wp2_with (fail)
        generalize w12.alloc (.cells #[.slice q12 z1.length d12, .int .i64 z2] 25) = W12 at *
        generalize w12.heap.size = g12 at *
        refine (AddAffine_any (.slice q5 r1.length d5) (.slice q10 t1.length d10) r1 t1 r2 t2 _ HD_7.out HG_7.out).mono ?_
        rw [HRq.out]
        rintro e w13 ⟨⟨q13, d13, rfl, hv⟩, hE⟩
        dsimp only at hv ⊢
        clear D0 D1 G0 G1
        have g_ : Ext W12 (w13.alloc (.cells #[.slice q13 q1.length d13, .int .i64 q2] 25)) := hE.alloc _
        have A_8 := Lib.hid ((g_).blk A_7.out)
        have B_8 := Lib.hid ((g_).blk B_7.out)
        have C_8 := Lib.hid ((g_).blk C_7.out)
        have D_8 := Lib.hid ((g_).blk D_7.out)
        have F_8 := Lib.hid ((g_).blk F_7.out)
        have G_8 := Lib.hid ((g_).blk G_7.out)
        have H_8 := Lib.hid ((g_).blk H_7.out)
        have I_8 := Lib.hid ((g_).blk I_7.out)
        have HX_8 := Lib.hid (HX_7.out.ext (g_))
        have HY_8 := Lib.hid (HY_7.out.ext (g_))
        have HB_8 := Lib.hid (HB_7.out.ext (g_))
        have HD_8 := Lib.hid (HD_7.out.ext (g_))
        have HF_8 := Lib.hid (HF_7.out.ext (g_))
        have HG_8 := Lib.hid (HG_7.out.ext (g_))
        have HH_8 := Lib.hid (HH_7.out.ext (g_))
        have HI_8 := Lib.hid (HI_7.out.ext (g_))
        have HE_8 := Lib.hid (HE_7.out.trans (g_))
        clear A_7 B_7 C_7 D_7 F_7 G_7 H_7 I_7 HX_7 HY_7 HB_7 HD_7 HF_7 HG_7 HH_7 HI_7 HE_7
        have HJ_8 := Lib.hid (hv.at.ext ((Ext.refl w13).alloc (.cells #[.slice q13 q1.length d13, .int .i64 q2] 25)))
        have J_8 : Hid ((w13.alloc (.cells #[.slice q13 q1.length d13, .int .i64 q2] 25)).heap[w13.heap.size]? = some (.cells #[.slice q13 q1.length d13, .int .i64 q2] 25 (0, 0))) := Lib.hid (blk_at rfl)
        clear hv hE g_
        obtain ⟨J0, J1, -, -⟩ := blk2 J_8.out
        obtain ⟨I0, I1, -, -⟩ := blk2 I_8.out
        cases t3 with
        | false =>
          go_wp2
          go_ret
          exact ⟨rfl, HE_8.out⟩
        | true =>
          cases s3 with
          | false =>
            go_wp2
            go_ret
            exact ⟨rfl, HE_8.out⟩
          | true =>
            cases z3 with
            | false =>
              go_wp2
              go_ret
              exact ⟨rfl, HE_8.out⟩
            | true =>
              obtain ⟨e1, e2, e3⟩ := HLem.out rfl rfl rfl
              subst e1 e2 e3
              clear HLem HRr HRt HRs HRz HRq
              go_wp2_with (fail)
              generalize w13.alloc (.cells #[.slice q13 z1.length d13, .int .i64 z2] 25) = W13 at *
              refine (AffineSame_any (.slice q13 z1.length d13) (.slice q12 z1.length d12) z1 z1 z2 z2 _ HJ_8.out HI_8.out).mono ?_
              rw [affSame_self]
              rintro e w14 ⟨rfl, hE⟩
              have HE14 := Lib.hid (HE_8.out.trans hE)
              go_wp2
              go_ret
              exact ⟨rfl, HE14.out⟩
    · have hd0 : decide ((1048576 : Int) < n0) = false := by simp; omega
      have hd1 : decide ((1048576 : Int) < n1) = true := by simp; omega
      go_enter Try.func3, Try.ntmps3
      go_wp2
      go_ret
      exact ⟨rfl, Ext.refl w⟩
  · have hd0 : decide ((1048576 : Int) < n0) = true := by simp; omega
    go_enter Try.func3, Try.ntmps3
    go_wp2
    go_ret
    exact ⟨rfl, Ext.refl w⟩
end Go.Proofs.Ytabkhiakekammaa

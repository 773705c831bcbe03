/- FnSubstAffine: substitutions in drawn expressions, the walk. -/
import Derived.Test.YtahdkkfmaanhkaaD10
import Derived.Test.YtahdkkfmaanhkaaD5
import Derived.Test.YtahdkkfmaanhkaaA19
import Derived.Test.YtahdkkfmaanhkaaA18
import Derived.Test.YtahdkkfmaanhkaaOpB
namespace Go.Proofs.Ytahdkkfmaanhkaa
open Go.RowKit Go.ChangeShapes Go.WideShapes Go.ChangeAt Go.Joins

theorem affSame_self (xs : List Int) (c : Int) : affEqB xs c xs c = true := by simp [affEqB, eqB]

theorem substR_true {xs ys r1 : List Int} {k l x r2 : Int} (h : substR xs k x ys l = (r1, r2, true)) : 0 ≤ x ∧ x < 4 := by
  unfold substR at h
  split at h
  · rename_i hv; exact hv.2.2
  · cases h
theorem eval_subst {xs ys r1 : List Int} {k l r2 pa pb : Int} {j : Nat} (h : substR xs k j ys l = (r1, r2, true)) (hj : j < 4) (hp : ptB [pa, pb, 3, 1] = true) (ha : 0 ≤ pa ∧ pa ≤ 6) (hb : 0 ≤ pb ∧ pb ≤ 4) :
    evalR r1 r2 [pa, pb, 3, 1] = evalR xs k (([pa, pb, 3, 1] : List Int).set j (evalR ys l [pa, pb, 3, 1])) := by
  unfold substR at h
  split at h
  · rename_i hv
    rw [Int.toNat_natCast] at h
    unfold chk at h
    split at h
    · rename_i hc
      simp only [Prod.mk.injEq, and_true] at h
      obtain ⟨rfl, rfl⟩ := h
      rw [evalR_yes hc hp, evalR_yes hv.2.1 hp]
      obtain ⟨a0, a1, a2, a3, rfl, -⟩ := valid_four hv.1
      obtain ⟨b0, b1, b2, b3, rfl, ⟨l0, u0⟩, ⟨l1, u1⟩, ⟨l2, u2⟩, ⟨l3, u3⟩, ⟨lk, uk⟩⟩ := valid_four hv.2.1
      have m0 : -54 ≤ b0 * pa ∧ b0 * pa ≤ 54 := by
        constructor
        · have := Int.mul_nonneg (a := b0 + 9) (b := pa) (by omega) (by omega); simp only [Int.add_mul] at this; omega
        · have := Int.mul_nonneg (a := 9 - b0) (b := pa) (by omega) (by omega); simp only [Int.sub_mul] at this; omega
      have m1 : -36 ≤ b1 * pb ∧ b1 * pb ≤ 36 := by
        constructor
        · have := Int.mul_nonneg (a := b1 + 9) (b := pb) (by omega) (by omega); simp only [Int.add_mul] at this; omega
        · have := Int.mul_nonneg (a := 9 - b1) (b := pb) (by omega) (by omega); simp only [Int.sub_mul] at this; omega
      have hE : evalK [b0, b1, b2, b3] [pa, pb, 3, 1] l [pa, pb, 3, 1].length = l + b0 * pa + b1 * pb + b2 * 3 + b3 * 1 := by simp [evalK]
      rw [hE]
      have hEb : -300 ≤ l + b0 * pa + b1 * pb + b2 * 3 + b3 * 1 ∧ l + b0 * pa + b1 * pb + b2 * 3 + b3 * 1 ≤ 300 := by omega
      have hq : ptB (([pa, pb, 3, 1] : List Int).set j (l + b0 * pa + b1 * pb + b2 * 3 + b3 * 1)) = true := by
        match j, hj with
        | 0, _ => simp [ptB, withinB]; omega
        | 1, _ => simp [ptB, withinB]; omega
        | 2, _ => simp [ptB, withinB]; omega
        | 3, _ => simp [ptB, withinB]; omega
      rw [evalR_yes hv.1 hq]
      match j, hj with
      | 0, _ => simp [evalK, substL]; grind
      | 1, _ => simp [evalK, substL]; grind
      | 2, _ => simp [evalK, substL]; grind
      | 3, _ => simp [evalK, substL]; grind
    · cases h
  · cases h

set_option maxHeartbeats 1600000 in
set_option maxRecDepth 100000 in
theorem walkFnSubstAffine (v0 v1 : Value) (w : World) (h0 : RBytes w v0) (h1 : RBytes w v1) :
    Calls Try.prog 4 #[v0, v1] w fun e w' => e = .returned (.bool true) ∧ Below w.heap.size w w' := by
  obtain ⟨p0, n0, c0, rfl, hb0, hl0⟩ := h0
  obtain ⟨p1, n1, c1, rfl, hb1, hl1⟩ := h1
  have hm0 := hb0.2.1
  have hm1 := hb1.2.1
  have HB0 := Lib.hid hb0; have HL0 := Lib.hid hl0; have HB1 := Lib.hid hb1; have HL1 := Lib.hid hl1; clear hb0 hl0 hb1 hl1
  by_cases h0 : n0 ≤ 1048576
  · by_cases h1 : n1 ≤ 1048576
    · have hd0 : decide ((1048576 : Int) < n0) = false := by simp; omega
      have hd1 : decide ((1048576 : Int) < n1) = false := by simp; omega
      go_enter Try.func4, Try.ntmps4
      go_wp2_with (fail)
      refine (DrawSubstAffine_any p0 n0 c0 _ HB0.out HL0.out).mono ?_
      rintro e w1 ⟨⟨u, v, k, l, x, xs, ys, rfl, hx, hy⟩, E1⟩
      obtain ⟨pu, cu, rfl, -, -⟩ := id hx
      obtain ⟨pv, cv, rfl, -, -⟩ := id hy
      obtain ⟨r1, r2, r3, hr⟩ : ∃ r1 r2 r3, substR xs k x ys l = (r1, r2, r3) := ⟨_, _, _, rfl⟩
      have HR := Lib.hid hr; clear hr
      have E2 : Ext w1 ((w1.alloc (.cells #[.slice pu xs.length cu, .int .i64 k] 25)).alloc (.cells #[.slice pv ys.length cv, .int .i64 l] 25)) := ((Ext.refl w1).alloc _).alloc _
      have HX_0 := Lib.hid (hx.ext E2); have HY_0 := Lib.hid (hy.ext E2)
      have A_0 : Hid (((w1.alloc (.cells #[.slice pu xs.length cu, .int .i64 k] 25)).alloc (.cells #[.slice pv ys.length cv, .int .i64 l] 25)).heap[w1.heap.size]? = some (.cells #[.slice pu xs.length cu, .int .i64 k] 25 (0, 0))) := Lib.hid (blk_old (blk_at rfl))
      have B_0 : Hid (((w1.alloc (.cells #[.slice pu xs.length cu, .int .i64 k] 25)).alloc (.cells #[.slice pv ys.length cv, .int .i64 l] 25)).heap[w1.heap.size + 1]? = some (.cells #[.slice pv ys.length cv, .int .i64 l] 25 (0, 0))) := Lib.hid (blk_at (by simp))
      have HE1 := Lib.hid (E1.trans E2)
      clear E2 hx hy E1
      go_wp2_with (fail)
      generalize ((w1.alloc (.cells #[.slice pu xs.length cu, .int .i64 k] 25)).alloc (.cells #[.slice pv ys.length cv, .int .i64 l] 25)) = W2 at *
      generalize w1.heap.size = ga at *
      refine (SubstAffine_any (.slice pu xs.length cu) (.slice pv ys.length cv) xs ys k l x _ HX_0.out HY_0.out).mono ?_
      rw [HR.out]
      rintro e w3 ⟨⟨p3, c3, rfl, hv⟩, hE⟩
      dsimp only at hv ⊢
      have g_ : Ext W2 (w3.alloc (.cells #[.slice p3 r1.length c3, .int .i64 r2] 25)) := hE.alloc _
      have A_1 := Lib.hid ((g_).blk A_0.out)
      have B_1 := Lib.hid ((g_).blk B_0.out)
      have HX_1 := Lib.hid (HX_0.out.ext (g_))
      have HY_1 := Lib.hid (HY_0.out.ext (g_))
      have HE_1 := Lib.hid (HE1.out.trans (g_))
      clear A_0 B_0 HX_0 HY_0 HE1
      have HC_1 := Lib.hid (hv.at.ext ((Ext.refl w3).alloc (.cells #[.slice p3 r1.length c3, .int .i64 r2] 25)))
      have C_1 : Hid ((w3.alloc (.cells #[.slice p3 r1.length c3, .int .i64 r2] 25)).heap[w3.heap.size]? = some (.cells #[.slice p3 r1.length c3, .int .i64 r2] 25 (0, 0))) := Lib.hid (blk_at rfl)
      clear hv hE g_
      obtain ⟨A0, A1, -, -⟩ := blk2 A_1.out
      obtain ⟨B0, B1, -, -⟩ := blk2 B_1.out
      go_wp2_with (fail)
      generalize w3.alloc (.cells #[.slice p3 r1.length c3, .int .i64 r2] 25) = W4 at *
      generalize w3.heap.size = gc at *
      refine (specSubstAffine_any (.slice pu xs.length cu) (.slice pv ys.length cv) xs ys k l x _ HX_1.out HY_1.out).mono ?_
      rw [HR.out]
      rintro e w5 ⟨⟨p5, c5, rfl, hv⟩, hE⟩
      dsimp only at hv ⊢
      clear A0 A1 B0 B1
      have g_ : Ext W4 (w5.alloc (.cells #[.slice p5 r1.length c5, .int .i64 r2] 25)) := hE.alloc _
      have A_2 := Lib.hid ((g_).blk A_1.out)
      have B_2 := Lib.hid ((g_).blk B_1.out)
      have C_2 := Lib.hid ((g_).blk C_1.out)
      have HX_2 := Lib.hid (HX_1.out.ext (g_))
      have HY_2 := Lib.hid (HY_1.out.ext (g_))
      have HC_2 := Lib.hid (HC_1.out.ext (g_))
      have HE_2 := Lib.hid (HE_1.out.trans (g_))
      clear A_1 B_1 C_1 HX_1 HY_1 HC_1 HE_1
      have HD_2 := Lib.hid (hv.at.ext ((Ext.refl w5).alloc (.cells #[.slice p5 r1.length c5, .int .i64 r2] 25)))
      have D_2 : Hid ((w5.alloc (.cells #[.slice p5 r1.length c5, .int .i64 r2] 25)).heap[w5.heap.size]? = some (.cells #[.slice p5 r1.length c5, .int .i64 r2] 25 (0, 0))) := Lib.hid (blk_at rfl)
      clear hv hE g_
      obtain ⟨C0, C1, -, -⟩ := blk2 C_2.out
      obtain ⟨D0, D1, -, -⟩ := blk2 D_2.out
      go_wp2_with (fail)
      generalize w5.alloc (.cells #[.slice p5 r1.length c5, .int .i64 r2] 25) = W6 at *
      generalize w5.heap.size = gd at *
      refine (AffineSame_any (.slice p3 r1.length c3) (.slice p5 r1.length c5) r1 r1 r2 r2 _ HC_2.out HD_2.out).mono ?_
      rw [affSame_self]
      rintro e w7 ⟨rfl, hE⟩
      clear C0 C1 D0 D1
      have A_3 := Lib.hid ((hE).blk A_2.out)
      have B_3 := Lib.hid ((hE).blk B_2.out)
      have C_3 := Lib.hid ((hE).blk C_2.out)
      have D_3 := Lib.hid ((hE).blk D_2.out)
      have HX_3 := Lib.hid (HX_2.out.ext (hE))
      have HY_3 := Lib.hid (HY_2.out.ext (hE))
      have HC_3 := Lib.hid (HC_2.out.ext (hE))
      have HD_3 := Lib.hid (HD_2.out.ext (hE))
      have HE_3 := Lib.hid (HE_2.out.trans (hE))
      clear A_2 B_2 C_2 D_2 HX_2 HY_2 HC_2 HD_2 HE_2
      clear hE
      cases r3 with
      | false =>
        obtain ⟨C0, C1, -, -⟩ := blk2 C_3.out
        obtain ⟨D0, D1, -, -⟩ := blk2 D_3.out
        go_wp2_with (fail)
        refine (AffineSame_any (.slice p3 r1.length c3) (.slice p5 r1.length c5) r1 r1 r2 r2 _ HC_3.out HD_3.out).mono ?_
        rw [affSame_self]
        rintro e w8 ⟨rfl, hE⟩
        clear C0 C1 D0 D1
        have A_4 := Lib.hid ((hE).blk A_3.out)
        have B_4 := Lib.hid ((hE).blk B_3.out)
        have C_4 := Lib.hid ((hE).blk C_3.out)
        have D_4 := Lib.hid ((hE).blk D_3.out)
        have HX_4 := Lib.hid (HX_3.out.ext (hE))
        have HY_4 := Lib.hid (HY_3.out.ext (hE))
        have HC_4 := Lib.hid (HC_3.out.ext (hE))
        have HD_4 := Lib.hid (HD_3.out.ext (hE))
        have HE_4 := Lib.hid (HE_3.out.trans (hE))
        clear A_3 B_3 C_3 D_3 HX_3 HY_3 HC_3 HD_3 HE_3
        clear hE
        go_wp2
        go_ret
        exact ⟨rfl, HE_4.out⟩
      | true =>
        obtain ⟨hx0, hx4⟩ := substR_true HR.out
        obtain ⟨j, rfl⟩ := Int.eq_ofNat_of_zero_le hx0
        have hj4 : j < 4 := by omega
        have hpa : 0 ≤ (n0 : Int) % 7 ∧ (n0 : Int) % 7 ≤ 6 := by omega
        have hpb : 0 ≤ (n1 : Int) % 5 ∧ (n1 : Int) % 5 ≤ 4 := by omega
        obtain ⟨i0, hi, hz0, hz1, hz2⟩ := info_parts infoInt
        have HP0 : Hid ((w7.alloc (.cells #[.int .i64 ((n0 : Int) % 7), .int .i64 ((n1 : Int) % 5), .int .i64 3, .int .i64 1] 3)).ownsRow w7.heap.size 3 1 (.slice (some ⟨w7.heap.size, 0, none⟩) 4 4) 4 (([(n0 : Int) % 7, (n1 : Int) % 5, 3, 1] : List Int).map (Value.int .i64))) := Lib.hid (World.ownsRow_lit w7 #[.int .i64 ((n0 : Int) % 7), .int .i64 ((n1 : Int) % 5), .int .i64 3, .int .i64 1] 4 (Nat.le_refl _) (by unfold maxLen; omega) rfl)
        have HQ0 : Hid (((w7.alloc (.cells #[.int .i64 ((n0 : Int) % 7), .int .i64 ((n1 : Int) % 5), .int .i64 3, .int .i64 1] 3)).alloc (.cells #[] 3)).ownsRow (w7.heap.size + 1) 3 1 (.slice (some ⟨w7.heap.size + 1, 0, none⟩) 0 0) 0 []) := by
          have h := World.ownsRow_made (base := w7.heap.size + 1) (size := 1) (e := 3) (w7.alloc (.cells #[.int .i64 ((n0 : Int) % 7), .int .i64 ((n1 : Int) % 5), .int .i64 3, .int .i64 1] 3)) #[] 0 (by simp) (Nat.zero_le _) rfl
          rw [World.size_alloc] at h
          exact Lib.hid h
        go_wp2_with (at_builtin; refine wpList_append_own _ rfl (.tmp 70) (.tmp 71) 23 rfl (w7.heap.size + 1) 3 i0 (.int .i64 0) 1 8 Try.underlying23 hi hz0 hz1 hz2 rfl (by decide) (.slice (some ⟨w7.heap.size + 1, 0, none⟩) 0 0) 0 [] rfl HQ0.out ⟨w7.heap.size, 0, none⟩ 4 4 (([(n0 : Int) % 7, (n1 : Int) % 5, 3, 1] : List Int).map (Value.int .i64)) rfl rfl ?c1 ?c2 ?c3 ?c4 ?c5 ?_)
        case c1 => exact (HP0.out.alloc _).cells rfl
        case c2 => intro u hu; simp at hu; rcases hu with rfl | rfl | rfl | rfl <;> rfl
        case c3 => unfold maxLen; omega
        case c4 => omega
        case c5 => simp
        intro v' w9 hown' hgrow hnil
        have hne : v' ≠ .slice none 0 0 := by intro e; have := hnil; simp [e] at this
        have hgb : ∀ b, (Value.slice (some ⟨w7.heap.size + 1, 0, none⟩) 0 0).ownBlock = some b → w7.heap.size + 1 = b := fun b hb => Option.some.inj hb
        have g9 : Ext w7 w9 := (((Ext.refl w7).alloc (.cells #[.int .i64 ((n0 : Int) % 7), .int .i64 ((n1 : Int) % 5), .int .i64 3, .int .i64 1] 3)).alloc (.cells #[] 3)).grown hgrow (fun b hb => by have := hgb b hb; omega)
        have hP9 := own_kept (HP0.out.alloc (.cells #[] 3)) HQ0.out (fun b hb => by have hb' : w7.heap.size = b := Option.some.inj hb; omega) hgrow
        have hQ9 : w9.ownsRow (w7.heap.size + 1) 3 1 v' 4 (([(n0 : Int) % 7, (n1 : Int) % 5, 3, 1] : List Int).map (Value.int .i64)) := hown'
        obtain ⟨gq, cq, rfl, hcq⟩ := own_form' hQ9 hne
        have hgq := hQ9.lt gq rfl
        have G9 := Lib.hid g9; have HP9 := Lib.hid hP9; have HQ9 := Lib.hid hQ9
        have hga := lt_of_block A_3.out; have hgc := lt_of_block C_3.out
        have B9 := g9.blk B_3.out; have HY9 := Lib.hid (HY_3.out.ext g9)
        clear hnil hne hown' hgrow hP9 hQ9 g9 hgb HP0 HQ0 D_3 HD_3
        obtain ⟨b0, b1, -, -⟩ := blk2 B9
        clear B9
        have hpt : ptB [(n0 : Int) % 7, (n1 : Int) % 5, 3, 1] = true := by
          simp [ptB, withinB]
          omega
        have HSE := Lib.hid (eval_subst HR.out hj4 hpt hpa hpb)
        obtain ⟨e1, e2⟩ := evalR_bd ys l [(n0 : Int) % 7, (n1 : Int) % 5, 3, 1]
        generalize (n0 : Int) % 7 = pa at *
        generalize (n1 : Int) % 5 = pb at *
        go_wp2_with (fail)
        refine (EvalAffine_any (.slice pv ys.length cv) (.slice (some ⟨w7.heap.size, 0, none⟩) 4 4) ys [pa, pb, 3, 1] l _ HY9.out (row_at HP9.out rfl)).mono ?_
        rintro e w10 ⟨rfl, hE⟩
        have HP10 := Lib.hid (ownsRow_ext HP9.out hE); have HQ10 := Lib.hid (ownsRow_ext HQ9.out hE); have G10 := Lib.hid (G9.out.trans hE)
        clear hE b0 b1 HP9 HQ9 HY9 G9
        generalize evalR ys l [pa, pb, 3, 1] = E at *
        have hf := HQ10.out.frozenAt j
        obtain ⟨u0, hu⟩ : ∃ u, w10.cell? ⟨gq, j, none⟩ = some u := by rw [HQ10.out.cellAt j (by omega)]; exact get_some (by simp; omega)
        have hst := (HQ10.out.stored j (.int .i64 E)).1
        rw [← List.map_set] at hst
        have hj0 : (0 : Int) ≤ (j : Int) := by omega
        have hji : (j : Int) < 4 := by omega
        have HS := Lib.hid hst
        have HP11 := Lib.hid (ownsRow_off (o := j) (b := gq) HP10.out (by omega) (.int .i64 E))
        have G11 := Lib.hid (G10.out.setAt (g := gq) (o := j) (by omega) (.int .i64 E))
        clear hst HP10 HQ10 G10
        go_wp2_with (fail)
        clear hf hu
        generalize w10.setCell ⟨gq, j, none⟩ (.int .i64 E) = W11 at *
        have HX11 := Lib.hid (HX_3.out.ext G11.out); have HC11 := Lib.hid (HC_3.out.ext G11.out); have HE11 := Lib.hid (HE_3.out.trans G11.out)
        have HPI := Lib.hid (row_at HP11.out rfl)
        have hql : (([pa, pb, 3, 1] : List Int).set j E).length = 4 := by simp
        have HQI := Lib.hid (row_at HS.out hql)
        have A11 := G11.out.blk A_3.out; have C11 := G11.out.blk C_3.out
        obtain ⟨a0, a1, -, -⟩ := blk2 A11
        obtain ⟨c0, c1', -, -⟩ := blk2 C11
        clear A11 C11 HP11 HS hql
        go_region_held3 (fun W' => W'.cell? ⟨ga, 0, none⟩ = some (.slice pu xs.length cu) ∧ W'.cell? ⟨ga, 1, none⟩ = some (.int .i64 k) ∧ W'.cell? ⟨gc, 0, none⟩ = some (.slice p3 r1.length c3) ∧ W'.cell? ⟨gc, 1, none⟩ = some (.int .i64 r2))
          (first
            | exact ⟨a0, a1, c0, c1'⟩
            | exact ⟨g1.keep a0, g1.keep a1, g1.keep c0, g1.keep c1'⟩
            | exact ⟨g2.keep a0, g2.keep a1, g2.keep c0, g2.keep c1'⟩
            | fail)
          (first
            | (go_at_call 20; (with_reducible refine (EvalAffine_any (.slice p3 r1.length c3) (.slice (some ⟨w7.heap.size, 0, none⟩) 4 4) r1 [pa, pb, 3, 1] r2 _ (HC11.out.ext (Ext.refl W11).drew) (HPI.out.ext (Ext.refl W11).drew)).mono ?_); rw [HSE.out]; rintro e y1 ⟨rfl, hy1⟩; have g1 : Ext W11 y1 := (Ext.refl W11).drew.trans hy1)
            | (go_at_call 20; (with_reducible refine (EvalAffine_any (.slice pu xs.length cu) (.slice (some ⟨gq, 0, none⟩) 4 cq) xs (([pa, pb, 3, 1] : List Int).set j E) k _ (HX11.out.ext g1) (HQI.out.ext g1)).mono ?_); rintro e y2 ⟨rfl, hy2⟩; have g2 : Ext W11 y2 := g1.trans hy2)
            | fail)
        have HE12 := Lib.hid (HE11.out.trans g2)
        clear g1 g2 hy1 hy2 a0 a1 c0 c1'
        go_wp2
        go_ret
        exact ⟨ret_bool (by simp), HE12.out⟩
    · have hd0 : decide ((1048576 : Int) < n0) = false := by simp; omega
      have hd1 : decide ((1048576 : Int) < n1) = true := by simp; omega
      go_enter Try.func4, Try.ntmps4
      go_wp2
      go_ret
      exact ⟨rfl, Ext.refl w⟩
  · have hd0 : decide ((1048576 : Int) < n0) = true := by simp; omega
    go_enter Try.func4, Try.ntmps4
    go_wp2
    go_ret
    exact ⟨rfl, Ext.refl w⟩
end Go.Proofs.Ytahdkkfmaanhkaa

/- FnAddAffine: sums of drawn expressions, the walk. -/
import Derived.Test.YtahdkkfmaanhkaaD9
import Derived.Test.YtahdkkfmaanhkaaA19
import Derived.Test.YtahdkkfmaanhkaaOpB
namespace Go.Proofs.Ytahdkkfmaanhkaa
open Go.RowKit Go.ChangeShapes Go.WideShapes Go.ChangeAt Go.Joins

theorem affSame_self (xs : List Int) (c : Int) : affEqB xs c xs c = true := by simp [affEqB, eqB]

set_option maxHeartbeats 8000000 in
set_option maxRecDepth 100000 in
theorem walkFnAddAffine (v0 v1 : Value) (w : World) (h0 : RBytes w v0) (h1 : RBytes w v1) :
    Calls Try.prog 3 #[v0, v1] w fun e w' => e = .returned (.bool true) ∧ Below w.heap.size w w' := by
  obtain ⟨p0, n0, c0, rfl, hb0, hl0⟩ := h0
  obtain ⟨p1, n1, c1, rfl, hb1, hl1⟩ := h1
  have hm0 := hb0.2.1
  have hm1 := hb1.2.1
  have HB0 := Lib.hid hb0; have HL0 := Lib.hid hl0; have HB1 := Lib.hid hb1; have HL1 := Lib.hid hl1; clear hb0 hl0 hb1 hl1
  by_cases h0 : n0 ≤ 1048576
  · by_cases h1 : n1 ≤ 1048576
    · have hd0 : decide ((1048576 : Int) < n0) = false := by simp; omega
      have hd1 : decide ((1048576 : Int) < n1) = false := by simp; omega
      go_enter Try.func3, Try.ntmps3
      go_wp2_with (fail)
      refine (DrawAddAffine_any p0 n0 c0 _ HB0.out HL0.out).mono ?_
      rintro e w1 ⟨⟨u, v, k, l, xs, ys, rfl, hx, hy⟩, E1⟩
      obtain ⟨pu, cu, rfl, -, -⟩ := id hx
      obtain ⟨pv, cv, rfl, -, -⟩ := id hy
      obtain ⟨r1, r2, r3, hr⟩ : ∃ r1 r2 r3, addR xs k ys l = (r1, r2, r3) := ⟨_, _, _, rfl⟩
      have HR := Lib.hid hr; have HR' := Lib.hid (show addR ys l xs k = (r1, r2, r3) by rw [addR_comm]; exact hr)
      clear hr
      have E2 : Ext w1 ((w1.alloc (.cells #[.slice pu xs.length cu, .int .i64 k] 25)).alloc (.cells #[.slice pv ys.length cv, .int .i64 l] 25)) := ((Ext.refl w1).alloc _).alloc _
      have HX := Lib.hid (hx.ext E2); have HY := Lib.hid (hy.ext E2)
      have A0 : Hid (((w1.alloc (.cells #[.slice pu xs.length cu, .int .i64 k] 25)).alloc (.cells #[.slice pv ys.length cv, .int .i64 l] 25)).heap[w1.heap.size]? = some (.cells #[.slice pu xs.length cu, .int .i64 k] 25 (0, 0))) := Lib.hid (blk_old (blk_at rfl))
      have B0 : Hid (((w1.alloc (.cells #[.slice pu xs.length cu, .int .i64 k] 25)).alloc (.cells #[.slice pv ys.length cv, .int .i64 l] 25)).heap[w1.heap.size + 1]? = some (.cells #[.slice pv ys.length cv, .int .i64 l] 25 (0, 0))) := Lib.hid (blk_at (by simp))
      have HE1 := Lib.hid (E1.trans E2)
      clear E2 hx hy E1
      go_wp2_with (fail)
      generalize (w1.alloc (.cells #[.slice pu xs.length cu, .int .i64 k] 25)).alloc (.cells #[.slice pv ys.length cv, .int .i64 l] 25) = W2 at *
      generalize w1.heap.size = ga at *
      refine (AddAffine_any (.slice pu xs.length cu) (.slice pv ys.length cv) xs ys k l _ HX.out HY.out).mono ?_
      rw [HR.out]
      rintro e w3 ⟨⟨p3, c3, rfl, hv3⟩, hE⟩
      dsimp only at hv3 ⊢
      have g3 : Ext W2 (w3.alloc (.cells #[.slice p3 r1.length c3, .int .i64 r2] 25)) := hE.alloc _
      have HX3 := Lib.hid (HX.out.ext g3); have HY3 := Lib.hid (HY.out.ext g3); have A3 := Lib.hid (g3.blk A0.out); have B3 := Lib.hid (g3.blk B0.out); have HE3 := Lib.hid (HE1.out.trans g3)
      have HC3 := Lib.hid (hv3.at.ext ((Ext.refl w3).alloc (.cells #[.slice p3 r1.length c3, .int .i64 r2] 25)))
      have C3 : Hid ((w3.alloc (.cells #[.slice p3 r1.length c3, .int .i64 r2] 25)).heap[w3.heap.size]? = some (.cells #[.slice p3 r1.length c3, .int .i64 r2] 25 (0, 0))) := Lib.hid (blk_at rfl)
      obtain ⟨a0, a1, -, -⟩ := blk2 A3.out
      obtain ⟨b0, b1, -, -⟩ := blk2 B3.out
      clear hv3 hE g3 HX HY A0 B0 HE1
      go_wp2_with (fail)
      generalize w3.alloc (.cells #[.slice p3 r1.length c3, .int .i64 r2] 25) = W4 at *
      generalize w3.heap.size = gc at *
      refine (specAddAffine_any (.slice pu xs.length cu) (.slice pv ys.length cv) xs ys k l _ HX3.out HY3.out).mono ?_
      rw [HR.out]
      rintro e w5 ⟨⟨p5, c5, rfl, hv5⟩, hE⟩
      dsimp only at hv5 ⊢
      have g5 : Ext W4 (w5.alloc (.cells #[.slice p5 r1.length c5, .int .i64 r2] 25)) := hE.alloc _
      have HX5 := Lib.hid (HX3.out.ext g5); have HY5 := Lib.hid (HY3.out.ext g5); have A5 := Lib.hid (g5.blk A3.out); have B5 := Lib.hid (g5.blk B3.out); have HE5 := Lib.hid (HE3.out.trans g5); have HC5 := Lib.hid (HC3.out.ext g5); have C5 := Lib.hid (g5.blk C3.out)
      have HD5 := Lib.hid (hv5.at.ext ((Ext.refl w5).alloc (.cells #[.slice p5 r1.length c5, .int .i64 r2] 25)))
      have D5 : Hid ((w5.alloc (.cells #[.slice p5 r1.length c5, .int .i64 r2] 25)).heap[w5.heap.size]? = some (.cells #[.slice p5 r1.length c5, .int .i64 r2] 25 (0, 0))) := Lib.hid (blk_at rfl)
      clear hv5 hE g5 HX3 HY3 A3 B3 HE3 HC3 C3 a0 a1 b0 b1
      obtain ⟨c50, c51, -, -⟩ := blk2 C5.out
      obtain ⟨d50, d51, -, -⟩ := blk2 D5.out
      go_wp2_with (fail)
      generalize w5.alloc (.cells #[.slice p5 r1.length c5, .int .i64 r2] 25) = W6 at *
      generalize w5.heap.size = gd at *
      refine (AffineSame_any (.slice p3 r1.length c3) (.slice p5 r1.length c5) r1 r1 r2 r2 _ HC5.out HD5.out).mono ?_
      rw [affSame_self]
      rintro e w7 ⟨rfl, hE⟩
      have HX7 := Lib.hid (HX5.out.ext hE); have HY7 := Lib.hid (HY5.out.ext hE); have A7 := Lib.hid (hE.blk A5.out); have B7 := Lib.hid (hE.blk B5.out); have HE7 := Lib.hid (HE5.out.trans hE); have HC7 := Lib.hid (HC5.out.ext hE); have C7 := Lib.hid (hE.blk C5.out); have HD7 := Lib.hid (HD5.out.ext hE); have D7 := Lib.hid (hE.blk D5.out)
      clear hE HX5 HY5 A5 B5 HE5 HC5 C5 HD5 D5 c50 c51 d50 d51
      cases r3 with
      | false =>
        obtain ⟨c70, c71, -, -⟩ := blk2 C7.out
        obtain ⟨d70, d71, -, -⟩ := blk2 D7.out
        go_wp2_with (fail)
        refine (AffineSame_any (.slice p3 r1.length c3) (.slice p5 r1.length c5) r1 r1 r2 r2 _ HC7.out HD7.out).mono ?_
        rw [affSame_self]
        rintro e w8 ⟨rfl, hE⟩
        have HE8 := Lib.hid (HE7.out.trans hE)
        clear hE c70 c71 d70 d71
        go_wp2
        go_ret
        exact ⟨rfl, HE8.out⟩
      | true =>
        have hlx : ∀ b off, 0 < n1 → p1 = some ⟨b, off, none⟩ → b < w7.heap.size := fun b off hn e => Nat.lt_of_lt_of_le (HL1.out b off hn e) HE7.out.size_le
        have HLX := Lib.hid hlx; clear hlx
        go_wp2_with (fail)
        refine (DrawEvalAffine_any p1 n1 c1 _ (HB1.out.ext HE7.out) HLX.out).mono ?_
        rintro e w8 ⟨⟨u8, v8, k8, us, ps, rfl, hu, hp⟩, hE⟩
        obtain ⟨p8, c8, rfl, -, -⟩ := id hp
        have g8 : Ext w7 (w8.alloc (.cells #[u8, .int .i64 k8] 25)) := hE.alloc _
        have HP8 := Lib.hid (hp.ext ((Ext.refl w8).alloc (.cells #[u8, .int .i64 k8] 25)))
        have HX8 := Lib.hid (HX7.out.ext g8); have HY8 := Lib.hid (HY7.out.ext g8); have A8 := Lib.hid (g8.blk A7.out); have B8 := Lib.hid (g8.blk B7.out); have HE8 := Lib.hid (HE7.out.trans g8); have HC8 := Lib.hid (HC7.out.ext g8); have C8 := Lib.hid (g8.blk C7.out)
        obtain ⟨pu8, cu8, rfl, -, -⟩ := id hu
        obtain ⟨a0, a1, -, -⟩ := blk2 A8.out
        obtain ⟨b0, b1, -, -⟩ := blk2 B8.out
        clear hE g8 hu hp HX7 HY7 A7 B7 HE7 HC7 C7 HD7 D7 HLX
        go_wp2_with (fail)
        generalize w8.alloc (.cells #[.slice pu8 us.length cu8, .int .i64 k8] 25) = W9 at *
        refine (AddAffine_any (.slice pv ys.length cv) (.slice pu xs.length cu) ys xs l k _ HY8.out HX8.out).mono ?_
        rw [HR'.out]
        rintro e w10 ⟨⟨p10, c10, rfl, hv10⟩, hE⟩
        dsimp only at hv10 ⊢
        have g10 : Ext W9 (w10.alloc (.cells #[.slice p10 r1.length c10, .int .i64 r2] 25)) := hE.alloc _
        have HX10 := Lib.hid (HX8.out.ext g10); have HY10 := Lib.hid (HY8.out.ext g10); have A10 := Lib.hid (g10.blk A8.out); have B10 := Lib.hid (g10.blk B8.out); have HE10 := Lib.hid (HE8.out.trans g10); have HC10 := Lib.hid (HC8.out.ext g10); have C10 := Lib.hid (g10.blk C8.out); have HP10 := Lib.hid (HP8.out.ext g10)
        have HF10 := Lib.hid (hv10.at.ext ((Ext.refl w10).alloc (.cells #[.slice p10 r1.length c10, .int .i64 r2] 25)))
        have F10 : Hid ((w10.alloc (.cells #[.slice p10 r1.length c10, .int .i64 r2] 25)).heap[w10.heap.size]? = some (.cells #[.slice p10 r1.length c10, .int .i64 r2] 25 (0, 0))) := Lib.hid (blk_at rfl)
        clear hv10 hE g10 HX8 HY8 A8 B8 HE8 HC8 C8 HP8 a0 a1 b0 b1
        go_wp2_with (fail)
        generalize w10.alloc (.cells #[.slice p10 r1.length c10, .int .i64 r2] 25) = W11 at *
        generalize w10.heap.size = gf at *
        have hadd := eval_add HR.out ps
        obtain ⟨e1, e2⟩ := evalR_bd xs k ps
        obtain ⟨e3, e4⟩ := evalR_bd ys l ps
        have HADD := Lib.hid hadd; clear hadd
        have HRA : Hid ((affEqB r1 r2 r1 r2) = true) := Lib.hid (affSame_self r1 r2)
        obtain ⟨a0, a1, -, -⟩ := blk2 A10.out
        obtain ⟨b0, b1, -, -⟩ := blk2 B10.out
        obtain ⟨c0, c1', -, -⟩ := blk2 C10.out
        obtain ⟨f0, f1, -, -⟩ := blk2 F10.out
        go_region_held3 (fun W' => W'.cell? ⟨ga, 0, none⟩ = some (.slice pu xs.length cu) ∧ W'.cell? ⟨ga, 1, none⟩ = some (.int .i64 k) ∧ W'.cell? ⟨ga + 1, 0, none⟩ = some (.slice pv ys.length cv) ∧ W'.cell? ⟨ga + 1, 1, none⟩ = some (.int .i64 l) ∧ W'.cell? ⟨gc, 0, none⟩ = some (.slice p3 r1.length c3) ∧ W'.cell? ⟨gc, 1, none⟩ = some (.int .i64 r2) ∧ W'.cell? ⟨gf, 0, none⟩ = some (.slice p10 r1.length c10) ∧ W'.cell? ⟨gf, 1, none⟩ = some (.int .i64 r2))
          (first
            | exact ⟨a0, a1, b0, b1, c0, c1', f0, f1⟩
            | exact ⟨g1.keep a0, g1.keep a1, g1.keep b0, g1.keep b1, g1.keep c0, g1.keep c1', g1.keep f0, g1.keep f1⟩
            | exact ⟨g2.keep a0, g2.keep a1, g2.keep b0, g2.keep b1, g2.keep c0, g2.keep c1', g2.keep f0, g2.keep f1⟩
            | exact ⟨g3.keep a0, g3.keep a1, g3.keep b0, g3.keep b1, g3.keep c0, g3.keep c1', g3.keep f0, g3.keep f1⟩
            | exact ⟨g4.keep a0, g4.keep a1, g4.keep b0, g4.keep b1, g4.keep c0, g4.keep c1', g4.keep f0, g4.keep f1⟩
            | fail)
          (first
            | (go_at_call 18; (with_reducible refine (AffineSame_any (.slice p3 r1.length c3) (.slice p10 r1.length c10) r1 r1 r2 r2 _ (HC10.out.ext (Ext.refl W11).drew) (HF10.out.ext (Ext.refl W11).drew)).mono ?_); rw [HRA.out]; rintro e x1 ⟨rfl, hx1⟩; have g1 : Ext W11 x1 := (Ext.refl W11).drew.trans hx1)
            | (go_at_call 20; (with_reducible refine (EvalAffine_any (.slice p3 r1.length c3) (.slice p8 ps.length c8) r1 ps r2 _ (HC10.out.ext g1) (HP10.out.ext g1)).mono ?_); rw [HADD.out]; rintro e x2 ⟨rfl, hx2⟩; have g2 : Ext W11 x2 := g1.trans hx2)
            | (go_at_call 20; (with_reducible refine (EvalAffine_any (.slice pu xs.length cu) (.slice p8 ps.length c8) xs ps k _ (HX10.out.ext g2) (HP10.out.ext g2)).mono ?_); rintro e x3 ⟨rfl, hx3⟩; have g3 : Ext W11 x3 := g2.trans hx3)
            | (go_at_call 20; (with_reducible refine (EvalAffine_any (.slice pv ys.length cv) (.slice p8 ps.length c8) ys ps l _ (HY10.out.ext g3) (HP10.out.ext g3)).mono ?_); rintro e x4 ⟨rfl, hx4⟩; have g4 : Ext W11 x4 := g3.trans hx4)
            | fail)
        have HE12 := Lib.hid (HE10.out.trans g4)
        clear g1 g2 g3 g4 hx1 hx2 hx3 hx4 a0 a1 b0 b1 c0 c1' f0 f1
        generalize evalR xs k ps = z1 at *
        generalize evalR ys l ps = z2 at *
        have hw : IntKind.i64.wrap (z1 + z2) = z1 + z2 := by simp [IntKind.wrap, IntKind.bits, IntKind.signed]; omega
        have HW := Lib.hid hw; clear hw
        go_wp2
        go_ret
        exact ⟨ret_bool (by rw [HW.out]; simp), HE12.out⟩
    · have hd0 : decide ((1048576 : Int) < n0) = false := by simp; omega
      have hd1 : decide ((1048576 : Int) < n1) = true := by simp; omega
      go_enter Try.func3, Try.ntmps3
      go_wp2
      go_ret
      exact ⟨rfl, Ext.refl w⟩
  · have hd0 : decide ((1048576 : Int) < n0) = true := by simp; omega
    go_enter Try.func3, Try.ntmps3
    go_wp2
    go_ret
    exact ⟨rfl, Ext.refl w⟩
end Go.Proofs.Ytahdkkfmaanhkaa

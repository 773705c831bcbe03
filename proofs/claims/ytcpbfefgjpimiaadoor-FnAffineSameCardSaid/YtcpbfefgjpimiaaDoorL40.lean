/- FnAffineSame: equality of drawn expressions and of their texts, the walk. -/
import Derived.Test.YtcpbfefgjpimiaaDoorD16
import Derived.Test.YtcpbfefgjpimiaaDoorT9
import Derived.Test.YtcpbfefgjpimiaaDoorOp
import Derived.Test.YtcpbfefgjpimiaaDoorA3
import Derived.Deep.RegionHeld3
import Derived.Deep.RegionWith
namespace Go.Proofs.YtcpbfefgjpimiaaDoor
open Go.RowKit Go.ChangeShapes Go.WideShapes Go.ChangeAt Go.Joins

theorem aff_self2 (xs : List Int) (c : Int) : affEqB xs c xs c = true := by simp [affEqB, eqB]
theorem affEq_comm (xs ys : List Int) (c d : Int) : affEqB ys d xs c = affEqB xs c ys d := by
  rw [Bool.eq_iff_iff]
  simp only [affEqB, eqB, Bool.and_eq_true, decide_eq_true_eq]
  exact ⟨fun h => ⟨h.1.symm, h.2.symm⟩, fun h => ⟨h.1.symm, h.2.symm⟩⟩
theorem same_text (xs ys : List Int) (k l : Int) : fmtA xs k = [] ∨ fmtA ys l = [] ∨ affEqB xs k ys l = decide (fmtA xs k = fmtA ys l) := by
  cases hx : affValidB xs k with
  | false => exact .inl (fmt_no hx)
  | true =>
    cases hy : affValidB ys l with
    | false => exact .inr (.inl (fmt_no hy))
    | true =>
      refine .inr (.inr ?_)
      rw [Bool.eq_iff_iff]
      simp only [affEqB, eqB, Bool.and_eq_true, decide_eq_true_eq, fmt_inj hx hy]

set_option maxHeartbeats 3000000 in
set_option maxRecDepth 100000 in
theorem walkFnAffineSame (v0 : Value) (w : World) (h0 : RBytes w v0) (ht : Tab w) :
    Calls Tryd.prog 4 #[v0] w fun e w' => e = .returned (.bool true) ∧ Below w.heap.size w w' := by
  obtain ⟨p0, n0, c0, rfl, hb0, hl0⟩ := h0
  have hm0 := hb0.2.1
  have HB0 := Lib.hid hb0; have HL0 := Lib.hid hl0; have HT0 := Lib.hid ht; clear hb0 hl0 ht
  by_cases h0 : n0 ≤ 1048576
  · have hd0 : decide ((1048576 : Int) < n0) = false := by simp; omega
    go_enter Tryd.func4, Tryd.ntmps4
    go_wp2_with (fail)
    refine (DrawAffineSame_any p0 n0 c0 _ HB0.out HL0.out).mono ?_
    rintro e w1 ⟨⟨u, v, k, l, xs, ys, rfl, hx, hy⟩, E1⟩
    obtain ⟨pu, cu, rfl, -, -⟩ := id hx
    obtain ⟨pv, cv, rfl, -, -⟩ := id hy
    obtain ⟨b, hb⟩ : ∃ b, affEqB xs k ys l = b := ⟨_, rfl⟩
    have HB := Lib.hid hb; have HB2 : Hid (affEqB ys l xs k = b) := Lib.hid (by rw [← hb]; exact affEq_comm _ _ _ _)
    obtain ⟨s, hs⟩ : ∃ s, fmtA xs k = s := ⟨_, rfl⟩
    obtain ⟨t, ht⟩ : ∃ t, fmtA ys l = t := ⟨_, rfl⟩
    have HS := Lib.hid hs; have HTT := Lib.hid ht
    have HC : Hid (s = [] ∨ t = [] ∨ b = decide (s = t)) := Lib.hid (by rw [← hs, ← ht, ← hb]; exact same_text xs ys k l)
    have E2 : Ext w1 ((w1.alloc (.cells #[.slice pu xs.length cu, .int .i64 k] 27)).alloc (.cells #[.slice pv ys.length cv, .int .i64 l] 27)) := ((Ext.refl w1).alloc _).alloc _
    have HX_0 := Lib.hid (hx.ext E2); have HY_0 := Lib.hid (hy.ext E2); have HT_0 := Lib.hid (HT0.out.ext (E1.trans E2))
    have A_0 : Hid (((w1.alloc (.cells #[.slice pu xs.length cu, .int .i64 k] 27)).alloc (.cells #[.slice pv ys.length cv, .int .i64 l] 27)).heap[w1.heap.size]? = some (.cells #[.slice pu xs.length cu, .int .i64 k] 27 (0, 0))) := Lib.hid (blk_old (blk_at rfl))
    have B_0 : Hid (((w1.alloc (.cells #[.slice pu xs.length cu, .int .i64 k] 27)).alloc (.cells #[.slice pv ys.length cv, .int .i64 l] 27)).heap[w1.heap.size + 1]? = some (.cells #[.slice pv ys.length cv, .int .i64 l] 27 (0, 0))) := Lib.hid (blk_at (by simp))
    have HE_0 := Lib.hid (E1.trans E2)
    clear E2 hx hy E1 hb hs ht
    go_wp2_with (fail)
    generalize ((w1.alloc (.cells #[.slice pu xs.length cu, .int .i64 k] 27)).alloc (.cells #[.slice pv ys.length cv, .int .i64 l] 27)) = W2 at *
    generalize w1.heap.size = ga at *
    refine (AffineSame_any (.slice pu xs.length cu) (.slice pv ys.length cv) xs ys k l _ HX_0.out HY_0.out).mono ?_
    rw [HB.out]
    rintro e w3 ⟨rfl, hE⟩
    have A_1 := Lib.hid ((hE).blk A_0.out)
    have B_1 := Lib.hid ((hE).blk B_0.out)
    have HX_1 := Lib.hid (HX_0.out.ext (hE))
    have HY_1 := Lib.hid (HY_0.out.ext (hE))
    have HT_1 := Lib.hid (HT_0.out.ext (hE))
    have HE_1 := Lib.hid (HE_0.out.trans (hE))
    clear A_0 B_0 HX_0 HY_0 HT_0 HE_0
    clear hE
    obtain ⟨A0, A1, -, -⟩ := blk2 A_1.out
    obtain ⟨B0, B1, -, -⟩ := blk2 B_1.out
    cases b
    all_goals
      go_wp2_with (fail)
      refine (specAffineSame_any (.slice pu xs.length cu) (.slice pv ys.length cv) xs ys k l _ HX_1.out HY_1.out).mono ?_
      rw [HB.out]
      rintro e v1 ⟨rfl, hE⟩
      clear A0 A1 B0 B1
      have A_2 := Lib.hid ((hE).blk A_1.out)
      have B_2 := Lib.hid ((hE).blk B_1.out)
      have HX_2 := Lib.hid (HX_1.out.ext (hE))
      have HY_2 := Lib.hid (HY_1.out.ext (hE))
      have HT_2 := Lib.hid (HT_1.out.ext (hE))
      have HE_2 := Lib.hid (HE_1.out.trans (hE))
      clear A_1 B_1 HX_1 HY_1 HT_1 HE_1
      clear hE
      obtain ⟨A0, A1, -, -⟩ := blk2 A_2.out
      obtain ⟨B0, B1, -, -⟩ := blk2 B_2.out
      go_wp2_with (fail)
      refine (AffineSame_any (.slice pv ys.length cv) (.slice pu xs.length cu) ys xs l k _ HY_2.out HX_2.out).mono ?_
      rw [HB2.out]
      rintro e v2 ⟨rfl, hE⟩
      clear A0 A1 B0 B1
      have A_3 := Lib.hid ((hE).blk A_2.out)
      have B_3 := Lib.hid ((hE).blk B_2.out)
      have HX_3 := Lib.hid (HX_2.out.ext (hE))
      have HY_3 := Lib.hid (HY_2.out.ext (hE))
      have HT_3 := Lib.hid (HT_2.out.ext (hE))
      have HE_3 := Lib.hid (HE_2.out.trans (hE))
      clear A_2 B_2 HX_2 HY_2 HT_2 HE_2
      clear hE
      obtain ⟨A0, A1, -, -⟩ := blk2 A_3.out
      obtain ⟨B0, B1, -, -⟩ := blk2 B_3.out
      go_wp2_with (fail)
      refine (AffineSame_any (.slice pu xs.length cu) (.slice pu xs.length cu) xs xs k k _ HX_3.out HX_3.out).mono ?_
      rw [aff_self2]
      rintro e v3 ⟨rfl, hE⟩
      clear A0 A1 B0 B1
      have A_4 := Lib.hid ((hE).blk A_3.out)
      have B_4 := Lib.hid ((hE).blk B_3.out)
      have HX_4 := Lib.hid (HX_3.out.ext (hE))
      have HY_4 := Lib.hid (HY_3.out.ext (hE))
      have HT_4 := Lib.hid (HT_3.out.ext (hE))
      have HE_4 := Lib.hid (HE_3.out.trans (hE))
      clear A_3 B_3 HX_3 HY_3 HT_3 HE_3
      clear hE
      obtain ⟨A0, A1, -, -⟩ := blk2 A_4.out
      obtain ⟨B0, B1, -, -⟩ := blk2 B_4.out
      go_wp2_with (fail)
      refine (FormatAffine_any (.slice pu xs.length cu) xs k _ HX_4.out HT_4.out).mono ?_
      rw [HS.out]
      rintro e w5 ⟨rfl, hE⟩
      clear A0 A1 B0 B1
      have A_5 := Lib.hid ((hE).blk A_4.out)
      have B_5 := Lib.hid ((hE).blk B_4.out)
      have HX_5 := Lib.hid (HX_4.out.ext (hE))
      have HY_5 := Lib.hid (HY_4.out.ext (hE))
      have HT_5 := Lib.hid (HT_4.out.ext (hE))
      have HE_5 := Lib.hid (HE_4.out.trans (hE))
      clear A_4 B_4 HX_4 HY_4 HT_4 HE_4
      clear hE
      obtain ⟨A0, A1, -, -⟩ := blk2 A_5.out
      obtain ⟨B0, B1, -, -⟩ := blk2 B_5.out
      go_wp2_with (fail)
      refine (FormatAffine_any (.slice pv ys.length cv) ys l _ HY_5.out HT_5.out).mono ?_
      rw [HTT.out]
      rintro e w6 ⟨rfl, hE⟩
      clear A0 A1 B0 B1
      have HE := Lib.hid (HE_5.out.trans hE)
      clear hE
      have HC2 := HC.out
      clear HC HS HTT HB HB2
      go_wp2
      all_goals go_ret
      all_goals first
        | exact ⟨rfl, HE.out⟩
        | (rcases HC2 with h | h | h
           · exact absurd h (by assumption)
           · exact absurd h (by assumption)
           · refine ⟨ret_bool ?_, HE.out⟩
             first
               | (have h' : ¬ s = t := of_decide_eq_false h.symm; simp [h'])
               | (have h' : s = t := of_decide_eq_true h.symm; simp [h']))
  · have hd0 : decide ((1048576 : Int) < n0) = true := by simp; omega
    go_enter Tryd.func4, Tryd.ntmps4
    go_wp2
    go_ret
    exact ⟨rfl, Ext.refl w⟩
end Go.Proofs.YtcpbfefgjpimiaaDoor

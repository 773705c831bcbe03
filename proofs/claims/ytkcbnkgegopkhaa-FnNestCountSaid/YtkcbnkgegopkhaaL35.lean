/- FnNestCount: the first coordinates of a nest's points are in the range of its outermost loop: the walk. -/
import Derived.Test.YtkcbnkgegopkhaaR14
import Derived.Test.YtkcbnkgegopkhaaR5
import Derived.Test.YtkcbnkgegopkhaaR12
import Derived.Test.YtkcbnkgegopkhaaOp
namespace Go.Proofs.Ytkcbnkgegopkhaa
open Go.RowKit Go.ChangeShapes Go.WideShapes Go.ChangeAt Go.Joins

set_option maxHeartbeats 4000000 in
set_option maxRecDepth 100000 in
theorem walkFnNestCount (v0 : Value) (w : World) (h0 : RBytes w v0) :
    Calls Try.prog 8 #[v0] w fun e w' => e = .returned (.bool true) ∧ Below w.heap.size w w' := by
  obtain ⟨p0, n0, c0, rfl, hb0, hl0⟩ := h0
  have hm0 := hb0.2.1
  have HB0 := Lib.hid hb0; have HL0 := Lib.hid hl0; clear hb0 hl0
  by_cases h0 : n0 ≤ 1048576
  · have hd0 : decide ((1048576 : Int) < n0) = false := by simp; omega
    go_enter Try.func8, Try.ntmps8
    go_wp2_with (fail)
    refine (DrawNestPointsN_any p0 n0 c0 _ HB0.out HL0.out).mono ?_
    rintro e w1 ⟨⟨q, m, d, ls, rfl, hl, hm9, hm3, hmd, hv⟩, E1⟩
    have HL := Lib.hid hl; have HM3 := Lib.hid hm3; have HV := Lib.hid hv; have HE1 := Lib.hid E1
    clear hl hm3 hv E1
    have HPL : Hid ((nptsL ls).length ≤ 120) := Lib.hid nptsL_len
    obtain ⟨xs, hxs⟩ : ∃ xs, nptsL ls = xs := ⟨_, rfl⟩
    obtain ⟨r, hr⟩ : ∃ r, nptsB ls = r := ⟨_, rfl⟩
    have HXS := Lib.hid hxs; have HR := Lib.hid hr
    clear hxs hr
    have hpl : xs.length ≤ 120 := by rw [← HXS.out]; exact HPL.out
    go_wp2_with (fail)
    refine (NestPoints_any (some ⟨q, 0, none⟩) m d ls w1 HL.out HV.out).mono ?_
    rintro e w2 ⟨⟨v2, own2, rfl, hp2, hob2⟩, hE⟩
    rw [HXS.out] at hp2
    rw [HR.out]
    have F2 := Lib.hid hE; have HD2 := Lib.hid hp2
    clear hE hp2 hob2
    go_wp2_with (fail)
    refine (specNestPoints_any (some ⟨q, 0, none⟩) m d ls w2 HL.out (HV.out.ext F2.out)).mono ?_
    rintro e w3 ⟨⟨v3, b3, rfl, hb3, hr3⟩, hE⟩
    rw [HR.out] at hb3; subst hb3
    rw [HXS.out] at hr3
    have F3 := Lib.hid (F2.out.trans hE); have HD3 := Lib.hid (HD2.out.lv hE.lv); have HW3 := Lib.hid (hr3.at (by omega))
    clear hE hr3 HD2 F2
    have hbr : (b3 != b3) = false := by simp
    have hbe : (b3 == b3) = true := by simp
    go_wp2_with (fail)
    refine (lnLists_any v2 v3 xs xs w3 (HD3.out.at (by omega)) HW3.out).mono ?_
    rw [lEqB_self]
    rintro e w4 ⟨rfl, hE⟩
    have F4 := Lib.hid (F3.out.trans hE); have HD4 := Lib.hid (HD3.out.lv hE.lv); have HW4 := Lib.hid (HW3.out.ext hE)
    clear hE HD3 HW3 F3
    cases b3 with
    | false =>
      go_wp2_with (fail)
      refine (lnLists_any v2 v3 xs xs w4 (HD4.out.at (by omega)) HW4.out).mono ?_
      rw [lEqB_self]
      rintro e w5 ⟨rfl, hE⟩
      have F5 := Lib.hid (HE1.out.trans (F4.out.trans hE))
      clear hE
      go_wp2
      go_ret
      exact ⟨rfl, F5.out⟩
    | true =>
      by_cases hm0 : m = 0
      · have hdm : ((m : Int) == 0) = true := by simp; omega
        go_wp2_with (fail)
        refine (lnLists_any v2 v3 xs xs w4 (HD4.out.at (by omega)) HW4.out).mono ?_
        rw [lEqB_self]
        rintro e w5 ⟨rfl, hE⟩
        have F5 := Lib.hid (HE1.out.trans (F4.out.trans hE))
        clear hE
        go_wp2
        go_ret
        exact ⟨rfl, F5.out⟩
      · have hdm : ((m : Int) == 0) = false := by simp; omega
        have hnb : nestB ls = true := nptsB_nest HR.out
        have hm3 := HM3.out hnb
        have HPT3 : Hid (∀ x ∈ xs, ptB x = true) := Lib.hid (fun x hx => by
          rw [← HXS.out] at hx
          have h1 := ((nptsL_iff HR.out x).1 hx).1
          exact (npts_PB hx).pt (by rw [h1, HL.out]; exact hm3))
        have HNB := Lib.hid hnb
        clear hnb
        obtain ⟨np, hnp⟩ : ∃ np, xs.length = np := ⟨_, rfl⟩
        obtain ⟨p2, c2, rfl⟩ := (HD4.out.at (by omega)).form
        rw [hnp] at hpl ⊢
        have HNP := Lib.hid hnp
        replace HD4 := Lib.hid (show PtsD own2 w1.heap.size w4 (.slice p2 np c2) xs by rw [← hnp]; exact HD4.out)
        clear hnp HW4
        have hd120 : decide ((np : Int) ≤ 120) = true := by simp; omega
        obtain ⟨x0, hx0⟩ := get_some (xs := ls) (k := 0) (by rw [HL.out]; omega)
        have HRG := Lib.hid (rangeR_yes HNB.out (ps := []) (by rfl) (x := x0) hx0)
        have HLH : Hid (hiV x0 [] ≤ loV x0 [] → np = 0) := Lib.hid (fun h => by
          rw [← HNP.out, ← HXS.out, nptsL_leaves HR.out]
          obtain ⟨m', hm'⟩ : ∃ m', ls.length = m' + 1 := ⟨m - 1, by rw [HL.out]; omega⟩
          rw [hm', leaves_none (by rw [lpAt_of (ps := []) hx0]; exact h)]; rfl)
        have HIN : Hid (∀ x ∈ xs, ∃ v, x[0]? = some v ∧ loV x0 [] ≤ v ∧ v < hiV x0 []) := Lib.hid (fun x hx => by
          rw [← HXS.out] at hx
          have h1 := (nptsL_iff HR.out x).1 hx
          obtain ⟨v, hv⟩ := get_some (xs := x) (k := 0) (by rw [h1.1, HL.out]; omega)
          have h2 := h1.2 0 (by rw [HL.out]; omega)
          rw [inB_eq hx0 hv] at h2
          exact ⟨v, hv, of_decide_eq_true h2⟩)
        clear hx0
        go_wp2_with (fail)
        refine (LoopRange_any (some ⟨q, 0, none⟩) m d ls _ [] _ HL.out (HV.out.ext (F4.out.alloc _)) ⟨some ⟨w4.heap.size, 0, none⟩, 0, rfl, by simp, fun i x hi => by simp at hi⟩).mono ?_
        rw [HRG.out]
        rintro e w5 ⟨rfl, hE⟩
        have F5 := Lib.hid ((F4.out.alloc (.cells #[] 3)).trans hE)
        have HD5 := Lib.hid (HD4.out.lv ((((Ext.refl w4).alloc (.cells #[] 3)).trans hE).lv))
        clear hE HD4 F4
        generalize loV x0 [] = lo at *
        generalize hiV x0 [] = hi at *
        go_wp2
        go_loopw [11] (fun i wr => ∃ k : Nat, k ≤ np ∧ i = .int .i64 k ∧ Ext w5 wr) (fun i _ => np - (intOf i).toNat)
        case atStart => exact ⟨0, by omega, rfl, Ext.refl _⟩
        case round =>
          obtain ⟨k, hk, rfl, hE⟩ := hrel
          have FW := Lib.hid (F5.out.trans hE)
          by_cases hlt : k < np
          · obtain ⟨x, hx⟩ := get_some (xs := xs) (k := k) (by rw [HNP.out]; exact hlt)
            obtain ⟨o, g, cg, rfl, cx, hix, hcx⟩ := (HD5.out.lv hE.lv).get hx
            obtain ⟨v, hv0, hv1, hv2⟩ := HIN.out x (List.mem_of_getElem? hx)
            have hxl := (List.getElem?_eq_some_iff.1 hv0).1
            obtain ⟨p3, d3, ev, _, hcc⟩ := hix.get
            simp only [Value.slice.injEq] at ev
            obtain ⟨rfl, -, rfl⟩ := ev
            obtain ⟨b2, off2, e2, cv, hb2⟩ := hcc 0 v hv0
            simp only [Option.some.injEq, Addr.mk.injEq, and_true] at e2
            obtain ⟨rfl, rfl⟩ := e2
            have hd1 : decide (v < lo) = false := by simp; omega
            have hd2 : decide (hi ≤ v) = false := by simp; omega
            have HE := Lib.hid hE
            simp only [Nat.add_zero] at cv
            clear hix hx hE hcc hv0
            go_wp2
            go_roundw
            case rel => exact ⟨k + 1, by omega, by go_num, HE.out⟩
            case measure => simp [intOf]; omega
          · obtain rfl : k = np := by omega
            have F6 := Lib.hid (HE1.out.trans FW.out)
            clear hE
            by_cases hlh : lo < hi
            · have hd1 : decide (lo < hi) = true := by simpa using hlh
              go_wp2
              go_ret
              exact ⟨rfl, F6.out⟩
            · have hd1 : decide (lo < hi) = false := by simpa using hlh
              have hn0 := HLH.out (by omega)
              have hd2 : ((k : Int) == 0) = true := by simp; omega
              go_wp2
              go_ret
              exact ⟨rfl, F6.out⟩
  · have hd0 : decide ((1048576 : Int) < n0) = true := by simp; omega
    go_enter Try.func8, Try.ntmps8
    go_wp2
    go_ret
    exact ⟨rfl, Ext.refl w⟩
end Go.Proofs.Ytkcbnkgegopkhaa

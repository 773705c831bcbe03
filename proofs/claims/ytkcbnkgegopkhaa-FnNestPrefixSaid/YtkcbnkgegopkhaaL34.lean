/- FnNestPrefix: beginnings of the points of a nest are points of its outer loops: the walk. -/
import Derived.Test.YtkcbnkgegopkhaaR14
import Derived.Test.YtkcbnkgegopkhaaR5
import Derived.Test.YtkcbnkgegopkhaaR12
import Derived.Test.YtkcbnkgegopkhaaOp
namespace Go.Proofs.Ytkcbnkgegopkhaa
open Go.RowKit Go.ChangeShapes Go.WideShapes Go.ChangeAt Go.Joins

theorem LoopsAt.front {w : World} {p : Option Addr} {n c : Nat} {ls : List Lp} (h : LoopsAt w (.slice p n c) ls) {k : Nat} (hk : k ≤ n) : LoopsAt w (.slice p k c) (ls.take k) := by
  obtain ⟨p', c', hv, hm, hc⟩ := h
  cases hv
  have hl : (ls.take k).length = k := by rw [List.length_take]; omega
  refine ⟨p, c, by rw [hl], by omega, fun i x hi => ?_⟩
  rw [List.getElem?_take] at hi
  split at hi
  · exact hc i x hi
  · cases hi

set_option maxHeartbeats 4000000 in
set_option maxRecDepth 100000 in
theorem walkFnNestPrefix (v0 v1 : Value) (w : World) (h0 : RBytes w v0) (h1 : RBytes w v1) :
    Calls Try.prog 7 #[v0, v1] w fun e w' => e = .returned (.bool true) ∧ Below w.heap.size w w' := by
  obtain ⟨p0, n0, c0, rfl, hb0, hl0⟩ := h0
  obtain ⟨p1, n1, c1, rfl, hb1, hl1⟩ := h1
  have hm0 := hb0.2.1
  have hm1 := hb1.2.1
  have HB0 := Lib.hid hb0; have HL0 := Lib.hid hl0; clear hb0 hl0 hb1 hl1
  by_cases h0 : n0 ≤ 1048576 ∧ n1 ≤ 1048576
  · obtain ⟨h0, h1⟩ := h0
    have hd0 : decide ((1048576 : Int) < n0) = false := by simp; omega
    have hd1 : decide ((1048576 : Int) < n1) = false := by simp; omega
    go_enter Try.func7, Try.ntmps7
    go_wp2_with (fail)
    refine (DrawNestPointsN_any p0 n0 c0 _ HB0.out HL0.out).mono ?_
    rintro e w1 ⟨⟨q, m, d, ls, rfl, hl, hm9, hm3, hmd, hv⟩, E1⟩
    have HL := Lib.hid hl; have HM3 := Lib.hid hm3; have HV := Lib.hid hv; have HE1 := Lib.hid E1
    clear hl hm3 hv E1
    have HPL : Hid ((nptsL ls).length ≤ 120) := Lib.hid nptsL_len
    obtain ⟨xs, hxs⟩ : ∃ xs, nptsL ls = xs := ⟨_, rfl⟩
    obtain ⟨r, hr⟩ : ∃ r, nptsB ls = r := ⟨_, rfl⟩
    have HXS := Lib.hid hxs; have HR := Lib.hid hr
    clear hxs hr
    have hpl : xs.length ≤ 120 := by rw [← HXS.out]; exact HPL.out
    go_wp2_with (fail)
    refine (NestPoints_any (some ⟨q, 0, none⟩) m d ls w1 HL.out HV.out).mono ?_
    rintro e w2 ⟨⟨v2, own2, rfl, hp2, hob2⟩, hE⟩
    rw [HXS.out] at hp2
    rw [HR.out]
    have F2 := Lib.hid hE; have HD2 := Lib.hid hp2
    clear hE hp2 hob2
    go_wp2_with (fail)
    refine (specNestPoints_any (some ⟨q, 0, none⟩) m d ls w2 HL.out (HV.out.ext F2.out)).mono ?_
    rintro e w3 ⟨⟨v3, b3, rfl, hb3, hr3⟩, hE⟩
    rw [HR.out] at hb3; subst hb3
    rw [HXS.out] at hr3
    have F3 := Lib.hid (F2.out.trans hE); have HD3 := Lib.hid (HD2.out.lv hE.lv); have HW3 := Lib.hid (hr3.at (by omega))
    clear hE hr3 HD2 F2
    have hbr : (b3 != b3) = false := by simp
    have hbe : (b3 == b3) = true := by simp
    go_wp2_with (fail)
    refine (lnLists_any v2 v3 xs xs w3 (HD3.out.at (by omega)) HW3.out).mono ?_
    rw [lEqB_self]
    rintro e w4 ⟨rfl, hE⟩
    have F4 := Lib.hid (F3.out.trans hE); have HD4 := Lib.hid (HD3.out.lv hE.lv); have HW4 := Lib.hid (HW3.out.ext hE)
    clear hE HD3 HW3 F3
    cases b3 with
    | false =>
      go_wp2_with (fail)
      refine (lnLists_any v2 v3 xs xs w4 (HD4.out.at (by omega)) HW4.out).mono ?_
      rw [lEqB_self]
      rintro e w5 ⟨rfl, hE⟩
      have F5 := Lib.hid (HE1.out.trans (F4.out.trans hE))
      clear hE
      go_wp2
      go_ret
      exact ⟨rfl, F5.out⟩
    | true =>
      by_cases hm0 : m = 0
      · have hdm : ((m : Int) == 0) = true := by simp; omega
        go_wp2_with (fail)
        refine (lnLists_any v2 v3 xs xs w4 (HD4.out.at (by omega)) HW4.out).mono ?_
        rw [lEqB_self]
        rintro e w5 ⟨rfl, hE⟩
        have F5 := Lib.hid (HE1.out.trans (F4.out.trans hE))
        clear hE
        go_wp2
        go_ret
        exact ⟨rfl, F5.out⟩
      · have hdm : ((m : Int) == 0) = false := by simp; omega
        have hnb : nestB ls = true := nptsB_nest HR.out
        have hm3 := HM3.out hnb
        have HPT3 : Hid (∀ x ∈ xs, ptB x = true) := Lib.hid (fun x hx => by
          rw [← HXS.out] at hx
          have h1 := ((nptsL_iff HR.out x).1 hx).1
          exact (npts_PB hx).pt (by rw [h1, HL.out]; exact hm3))
        have HNB := Lib.hid hnb
        clear hnb
        obtain ⟨np, hnp⟩ : ∃ np, xs.length = np := ⟨_, rfl⟩
        obtain ⟨p2, c2, rfl⟩ := (HD4.out.at (by omega)).form
        rw [hnp] at hpl ⊢
        have HNP := Lib.hid hnp
        replace HD4 := Lib.hid (show PtsD own2 w1.heap.size w4 (.slice p2 np c2) xs by rw [← hnp]; exact HD4.out)
        clear hnp HW4
        have hd120 : decide ((np : Int) ≤ 120) = true := by simp; omega
        obtain ⟨kk, hkk⟩ : ∃ k, n1 % m = k := ⟨_, rfl⟩
        have hkm : kk < m := by rw [← hkk]; exact Nat.mod_lt _ (by omega)
        have hmod : (n1 : Int) % (m : Int) = (kk : Int) := by rw [← hkk]; rfl
        clear hkk
        have hk0 : (0 : Int) ≤ (kk : Int) := by omega
        have hk1 : (kk : Int) ≤ (d : Int) := by omega
        have hk2 : (kk : Int) < (m : Int) := by omega
        have HLT : Hid ((ls.take kk).length = kk) := Lib.hid (by rw [List.length_take, HL.out]; omega)
        have HVT : Hid (LoopsAt w1 (.slice (some ⟨q, 0, none⟩) kk d) (ls.take kk)) := Lib.hid (HV.out.front (by omega))
        go_wp2
        rw [hmod]
        clear hmod
        go_loopw [11] (fun i wr => ∃ k : Nat, k ≤ np ∧ i = .int .i64 k ∧ Ext w4 wr) (fun i _ => np - (intOf i).toNat)
        case atStart => exact ⟨0, by omega, rfl, Ext.refl _⟩
        case round =>
          obtain ⟨k, hk, rfl, hE⟩ := hrel
          have FW := Lib.hid (F4.out.trans hE)
          by_cases hlt : k < np
          · obtain ⟨x, hx⟩ := get_some (xs := xs) (k := k) (by rw [HNP.out]; exact hlt)
            obtain ⟨o, g, cg, rfl, cx, hix, hcx⟩ := (HD4.out.lv hE.lv).get hx
            have hxp := HPT3.out x (List.mem_of_getElem? hx)
            have hxm := (nptsL_iff HR.out x).1 (by rw [HXS.out]; exact List.mem_of_getElem? hx)
            have hxl : x.length = m := hxm.1.trans HL.out
            have HPT : Hid (pointB (ls.take kk) (x.take kk) = true) := Lib.hid (point_take HNB.out hxm.1 (by rw [HL.out]; omega) (ptB_take hxp kk) hxm.2)
            have HI : Hid (IntsAt wr (.slice (some ⟨g, 0, none⟩) kk cg) (x.take kk)) := Lib.hid (hix.front (by omega))
            have hk3 : (kk : Int) ≤ (cg : Int) := by omega
            have HC : Hid (∀ q n' d, Value.slice (some ⟨g, 0, none⟩) kk cg = .slice q n' d → n' ≤ d) := Lib.hid (fun q n' d e => by cases e; omega)
            have HE := Lib.hid hE
            clear hix hx hxp hE hxm hxl
            go_wp2_with (fail)
            go_region_held3 (fun W => W.cell? ⟨o, k, none⟩ = some (.slice (some ⟨g, 0, none⟩) x.length cg))
              (first | exact cx | exact g3.keep cx | fail)
              (first
                | (go_at_call 23; (with_reducible refine (PointIn_any (some ⟨q, 0, none⟩) kk d (ls.take kk) _ (x.take kk) _ HLT.out (HVT.out.ext (FW.out.trans (Ext.refl wr).drew)) (HI.out.ext (Ext.refl wr).drew) HC.out).mono ?_); rw [HPT.out]; rintro e w3 ⟨rfl, hE3⟩; have g3 := (Ext.refl wr).drew.trans hE3)
                | fail)
            go_wp2
            go_roundw
            case rel => exact ⟨k + 1, by omega, by go_num, HE.out.trans g3⟩
            case measure => simp [intOf]; omega
          · obtain rfl : k = np := by omega
            have HNT : Hid (nestB (ls.take kk) = true) := Lib.hid (nestB_take HNB.out kk)
            clear hE
            go_wp2_with (fail)
            refine (NestValid_any (some ⟨q, 0, none⟩) kk d (ls.take kk) wr HLT.out (HVT.out.ext FW.out)).mono ?_
            rw [HNT.out]
            rintro e w5 ⟨rfl, hE5⟩
            have F5 := Lib.hid (HE1.out.trans (FW.out.trans hE5))
            go_wp2
            go_ret
            exact ⟨rfl, F5.out⟩
  · by_cases h0' : n0 ≤ 1048576
    · have hd0 : decide ((1048576 : Int) < n0) = false := by simp; omega
      have hd1 : decide ((1048576 : Int) < n1) = true := by simp; omega
      go_enter Try.func7, Try.ntmps7
      go_wp2
      go_ret
      exact ⟨rfl, Ext.refl w⟩
    · have hd0 : decide ((1048576 : Int) < n0) = true := by simp; omega
      go_enter Try.func7, Try.ntmps7
      go_wp2
      go_ret
      exact ⟨rfl, Ext.refl w⟩
end Go.Proofs.Ytkcbnkgegopkhaa

/- FnNestPoints: the points that NestPoints lists are in the nest, ascending, and at most MaxPoints: the walk. (Written by l31.py.) -/
import Derived.Test.YtkcbnkgegopkhaaR14
import Derived.Test.YtkcbnkgegopkhaaR5
import Derived.Test.YtkcbnkgegopkhaaR12
import Derived.Test.YtkcbnkgegopkhaaN10
import Derived.Test.YtkcbnkgegopkhaaOp
namespace Go.Proofs.Ytkcbnkgegopkhaa
open Go.RowKit Go.ChangeShapes Go.WideShapes Go.ChangeAt Go.Joins

set_option maxHeartbeats 4000000 in
set_option maxRecDepth 100000 in
theorem walkFnNestPoints (v0 : Value) (w : World) (h0 : RBytes w v0) :
    Calls Try.prog 4 #[v0] w fun e w' => e = .returned (.bool true) ∧ Below w.heap.size w w' := by
  obtain ⟨p0, n0, c0, rfl, hb0, hl0⟩ := h0
  have hm0 := hb0.2.1
  have HB0 := Lib.hid hb0; have HL0 := Lib.hid hl0; clear hb0 hl0
  by_cases h0 : n0 ≤ 1048576
  · have hd0 : decide ((1048576 : Int) < n0) = false := by simp; omega
    go_enter Try.func4, Try.ntmps4
    go_wp2_with (fail)
    refine (DrawNestPointsN_any p0 n0 c0 _ HB0.out HL0.out).mono ?_
    rintro e w1 ⟨⟨q, m, d, ls, rfl, hl, hm9, hm3, hmd, hv⟩, E1⟩
    have HL := Lib.hid hl; have HM3 := Lib.hid hm3; have HV := Lib.hid hv; have HE1 := Lib.hid E1
    clear hl hm3 hv E1
    have HPL : Hid ((nptsL ls).length ≤ 120) := Lib.hid nptsL_len
    obtain ⟨xs, hxs⟩ : ∃ xs, nptsL ls = xs := ⟨_, rfl⟩
    obtain ⟨r, hr⟩ : ∃ r, nptsB ls = r := ⟨_, rfl⟩
    have HXS := Lib.hid hxs; have HR := Lib.hid hr
    clear hxs hr
    have hpl : xs.length ≤ 120 := by rw [← HXS.out]; exact HPL.out
    go_wp2_with (fail)
    refine (NestPoints_any (some ⟨q, 0, none⟩) m d ls w1 HL.out HV.out).mono ?_
    rintro e w2 ⟨⟨v2, own2, rfl, hp2, hob2⟩, hE⟩
    rw [HXS.out] at hp2
    rw [HR.out]
    have F2 := Lib.hid hE; have HD2 := Lib.hid hp2
    clear hE hp2 hob2
    go_wp2_with (fail)
    refine (specNestPoints_any (some ⟨q, 0, none⟩) m d ls w2 HL.out (HV.out.ext F2.out)).mono ?_
    rintro e w3 ⟨⟨v3, b3, rfl, hb3, hr3⟩, hE⟩
    rw [HR.out] at hb3; subst hb3
    rw [HXS.out] at hr3
    have F3 := Lib.hid (F2.out.trans hE); have HD3 := Lib.hid (HD2.out.lv hE.lv); have HW3 := Lib.hid (hr3.at (by omega))
    clear hE hr3 HD2 F2
    have hbr : (b3 != b3) = false := by simp
    have hbe : (b3 == b3) = true := by simp
    go_wp2_with (fail)
    refine (lnLists_any v2 v3 xs xs w3 (HD3.out.at (by omega)) HW3.out).mono ?_
    rw [lEqB_self]
    rintro e w4 ⟨rfl, hE⟩
    have F4 := Lib.hid (F3.out.trans hE); have HD4 := Lib.hid (HD3.out.lv hE.lv); have HW4 := Lib.hid (HW3.out.ext hE)
    clear hE HD3 HW3 F3
    cases b3 with
    | false =>
      go_wp2_with (fail)
      refine (lnLists_any v2 v3 xs xs w4 (HD4.out.at (by omega)) HW4.out).mono ?_
      rw [lEqB_self]
      rintro e w5 ⟨rfl, hE⟩
      have F5 := Lib.hid (HE1.out.trans (F4.out.trans hE))
      clear hE
      go_wp2
      go_ret
      exact ⟨rfl, F5.out⟩
    | true =>
      have hnb : nestB ls = true := nptsB_nest HR.out
      have hm3 := HM3.out hnb
      have HPT3 : Hid (∀ x ∈ xs, ptB x = true) := Lib.hid (fun x hx => by
        rw [← HXS.out] at hx
        have h1 := ((nptsL_iff HR.out x).1 hx).1
        exact (npts_PB hx).pt (by rw [h1, HL.out]; exact hm3))
      have HNB := Lib.hid hnb
      clear hnb
      obtain ⟨np, hnp⟩ : ∃ np, xs.length = np := ⟨_, rfl⟩
      obtain ⟨p2, c2, rfl⟩ := (HD4.out.at (by omega)).form
      rw [hnp] at hpl ⊢
      have HNP := Lib.hid hnp
      replace HD4 := Lib.hid (show PtsD own2 w1.heap.size w4 (.slice p2 np c2) xs by rw [← hnp]; exact HD4.out)
      clear hnp HW4
      have hd120 : decide ((np : Int) ≤ 120) = true := by simp; omega
      go_wp2
      go_loopw [8] (fun i wr => ∃ k : Nat, k ≤ np ∧ i = .int .i64 k ∧ Ext w4 wr) (fun i _ => np - (intOf i).toNat)
      case atStart => exact ⟨0, by omega, rfl, Ext.refl _⟩
      case round =>
        obtain ⟨k, hk, rfl, hE⟩ := hrel
        have FW := Lib.hid (F4.out.trans hE)
        by_cases hlt : k < np
        · obtain ⟨x, hx⟩ := get_some (xs := xs) (k := k) (by rw [HNP.out]; exact hlt)
          obtain ⟨o, g, cg, rfl, cx, hix, hcx⟩ := (HD4.out.lv hE.lv).get hx
          have hxp := HPT3.out x (List.mem_of_getElem? hx)
          have HPT : Hid (pointB ls x = true) := Lib.hid ((nptsL_point HR.out hxp).2 (by rw [HXS.out]; exact List.mem_of_getElem? hx))
          have HI := Lib.hid hix
          have HC : Hid (∀ q n' d, Value.slice (some ⟨g, 0, none⟩) x.length cg = .slice q n' d → n' ≤ d) := Lib.hid (fun q n' d e => by cases e; exact hcx)
          have HX := Lib.hid hx; have HE := Lib.hid hE
          clear hix hx hxp hE
          by_cases hk0 : k = 0
          · subst hk0
            go_wp2_with (fail)
            refine wp_region_held_drew (S := (fun W => W.cell? ⟨o, 0, none⟩ = some (.slice (some ⟨g, 0, none⟩) x.length cg))) (by kernel_rfl) cx (fun hHeld => ?_)
            refine wpAnyH_takeD (some 51) (i := 0) (v := ?vk0) rfl (by kernel_rfl) (by kernel_rfl) (by kernel_rfl) (by kernel_rfl) (fun _ _ _ h => h) (Or.inl ⟨by rfl, ?hyk0⟩) (by assumption) ?rk0
            case hyk0 => intro w hSw; (try dsimp only at hSw); go_simp; first | done | with_reducible rfl
            case' rk0 => try simp only [Act.put, List.setIfInBounds_toArray, List.set_cons_zero, List.set_cons_succ]
            refine wpAnyH_takeD (some 52) (i := 1) (v := ?vk1) rfl (by kernel_rfl) (by kernel_rfl) (by kernel_rfl) (by kernel_rfl) (fun _ _ _ h => h) (Or.inl ⟨by rfl, ?hyk1⟩) (by assumption) ?rk1
            case hyk1 => intro w hSw; (try dsimp only at hSw); go_simp; first | done | with_reducible rfl
            case' rk1 => try simp only [Act.put, List.setIfInBounds_toArray, List.set_cons_zero, List.set_cons_succ]
            refine wpAnyH_takeD (some 53) (i := 2) (v := ?vk2) rfl (by kernel_rfl) (by kernel_rfl) (by kernel_rfl) (by kernel_rfl) (fun _ _ _ h => h) (Or.inl ⟨by rfl, ?hyk2⟩) (by assumption) ?rk2
            case hyk2 => intro w hSw; (try dsimp only at hSw); go_simp; first | done | with_reducible rfl
            case' rk2 => try simp only [Act.put, List.setIfInBounds_toArray, List.set_cons_zero, List.set_cons_succ]
            refine wpAnyH_takeD (some 54) (i := 3) (v := ?vk3) rfl (by kernel_rfl) (by kernel_rfl) (by kernel_rfl) (by kernel_rfl) (fun _ _ _ h => h) (Or.inl ⟨by rfl, ?hyk3⟩) (by assumption) ?rk3
            case hyk3 => intro w hSw; (try dsimp only at hSw); go_simp; first | done | with_reducible rfl
            case' rk3 => try simp only [Act.put, List.setIfInBounds_toArray, List.set_cons_zero, List.set_cons_succ]
            refine wpAnyH_takeD (some 55) (i := 4) (v := ?vk4) rfl (by kernel_rfl) (by kernel_rfl) (by kernel_rfl) (by kernel_rfl) (fun _ _ _ h => h) (Or.inl ⟨by rfl, ?hyk4⟩) (by assumption) ?rk4
            case hyk4 => intro w hSw; (try dsimp only at hSw); go_simp; first | done | with_reducible rfl
            case' rk4 => try simp only [Act.put, List.setIfInBounds_toArray, List.set_cons_zero, List.set_cons_succ]
            refine wpAnyH_ready (rs := [5]) (by kernel_rfl) (by simp) ?_
            refine AllReadyH.cons rfl (fun K9 hK => ?_) AllReadyH.nil
            go_simp
            refine (PointIn_any (some ⟨q, 0, none⟩) m d ls _ x _ HL.out (HV.out.ext (FW.out.trans (Ext.refl wr).drew)) (HI.out.ext (Ext.refl wr).drew) HC.out).mono ?_
            rw [HPT.out]
            rintro e w3 ⟨rfl, hE3⟩
            have g3 := (Ext.refl wr).drew.trans hE3
            refine hK.out _ _ (g3.keep cx) (fun hHk5 => ?_)
            clear hK K9
            try simp only [Act.put, List.setIfInBounds_toArray, List.set_cons_zero, List.set_cons_succ]
            refine wpAnyH_takeD (some 57) (i := 6) (v := ?vk6) rfl (by kernel_rfl) (by kernel_rfl) (by kernel_rfl) (by kernel_rfl) (fun _ _ _ h => h) (Or.inl ⟨by rfl, ?hyk6⟩) (by assumption) ?rk6
            case hyk6 => intro w hSw; (try dsimp only at hSw); go_simp; first | done | with_reducible rfl
            case' rk6 => try simp only [Act.put, List.setIfInBounds_toArray, List.set_cons_zero, List.set_cons_succ]
            refine wpAnyH_takeD (some 58) (i := 7) (v := ?vk7) rfl (by kernel_rfl) (by kernel_rfl) (by kernel_rfl) (by kernel_rfl) (fun _ _ _ h => h) (Or.inl ⟨by rfl, ?hyk7⟩) (by assumption) ?rk7
            case hyk7 => intro w hSw; (try dsimp only at hSw); go_simp; first | done | with_reducible rfl
            case' rk7 => try simp only [Act.put, List.setIfInBounds_toArray, List.set_cons_zero, List.set_cons_succ]
            refine wpAnyH_takeD (some 59) (i := 8) (v := ?vk8) rfl (by kernel_rfl) (by kernel_rfl) (by kernel_rfl) (by kernel_rfl) (fun _ _ _ h => h) (Or.inl ⟨by rfl, ?hyk8⟩) (by assumption) ?rk8
            case hyk8 => intro w hSw; (try dsimp only at hSw); go_simp; first | done | with_reducible rfl
            case' rk8 => try simp only [Act.put, List.setIfInBounds_toArray, List.set_cons_zero, List.set_cons_succ]
            refine wpAnyH_takeD (some 60) (i := 9) (v := ?vk9) rfl (by kernel_rfl) (by kernel_rfl) (by kernel_rfl) (by kernel_rfl) (fun _ _ _ h => h) (Or.inl ⟨by rfl, ?hyk9⟩) (by assumption) ?rk9
            case hyk9 => intro w hSw; (try dsimp only at hSw); go_simp; first | done | with_reducible rfl
            case' rk9 => try simp only [Act.put, List.setIfInBounds_toArray, List.set_cons_zero, List.set_cons_succ]
            refine wpAnyH_takeD (some 61) (i := 10) (v := ?vk10) rfl (by kernel_rfl) (by kernel_rfl) (by kernel_rfl) (by kernel_rfl) (fun _ _ _ h => h) (Or.inl ⟨by rfl, ?hyk10⟩) (by assumption) ?rk10
            case hyk10 => intro w hSw; (try dsimp only at hSw); go_simp; first | done | with_reducible rfl
            case' rk10 => try simp only [Act.put, List.setIfInBounds_toArray, List.set_cons_zero, List.set_cons_succ]
            refine wpAnyH_takeD (some 62) (i := 11) (v := undef) rfl (by kernel_rfl) (by kernel_rfl) (by kernel_rfl) (by kernel_rfl) (fun _ _ _ h => h) (Or.inr ⟨by kernel_rfl, rfl⟩) (by assumption) ?_
            try simp only [Act.put, List.setIfInBounds_toArray, List.set_cons_zero, List.set_cons_succ]
            refine wpAnyH_takeD (some 63) (i := 12) (v := undef) rfl (by kernel_rfl) (by kernel_rfl) (by kernel_rfl) (by kernel_rfl) (fun _ _ _ h => h) (Or.inr ⟨by kernel_rfl, rfl⟩) (by assumption) ?_
            try simp only [Act.put, List.setIfInBounds_toArray, List.set_cons_zero, List.set_cons_succ]
            refine wpAnyH_takeD (some 64) (i := 13) (v := undef) rfl (by kernel_rfl) (by kernel_rfl) (by kernel_rfl) (by kernel_rfl) (fun _ _ _ h => h) (Or.inr ⟨by kernel_rfl, rfl⟩) (by assumption) ?_
            try simp only [Act.put, List.setIfInBounds_toArray, List.set_cons_zero, List.set_cons_succ]
            refine wpAnyH_takeD (some 65) (i := 14) (v := undef) rfl (by kernel_rfl) (by kernel_rfl) (by kernel_rfl) (by kernel_rfl) (fun _ _ _ h => h) (Or.inr ⟨by kernel_rfl, rfl⟩) (by assumption) ?_
            try simp only [Act.put, List.setIfInBounds_toArray, List.set_cons_zero, List.set_cons_succ]
            refine wpAnyH_takeD (some 66) (i := 15) (v := undef) rfl (by kernel_rfl) (by kernel_rfl) (by kernel_rfl) (by kernel_rfl) (fun _ _ _ h => h) (Or.inr ⟨by kernel_rfl, rfl⟩) (by assumption) ?_
            try simp only [Act.put, List.setIfInBounds_toArray, List.set_cons_zero, List.set_cons_succ]
            refine wpAnyH_takeD (some 67) (i := 16) (v := undef) rfl (by kernel_rfl) (by kernel_rfl) (by kernel_rfl) (by kernel_rfl) (fun _ _ _ h => h) (Or.inr ⟨by kernel_rfl, rfl⟩) (by assumption) ?_
            try simp only [Act.put, List.setIfInBounds_toArray, List.set_cons_zero, List.set_cons_succ]
            refine wpAnyH_takeD (some 68) (i := 17) (v := undef) rfl (by kernel_rfl) (by kernel_rfl) (by kernel_rfl) (by kernel_rfl) (fun _ _ _ h => h) (Or.inr ⟨by kernel_rfl, rfl⟩) (by assumption) ?_
            try simp only [Act.put, List.setIfInBounds_toArray, List.set_cons_zero, List.set_cons_succ]
            refine wpAnyH_takeD (some 69) (i := 18) (v := undef) rfl (by kernel_rfl) (by kernel_rfl) (by kernel_rfl) (by kernel_rfl) (fun _ _ _ h => h) (Or.inr ⟨by kernel_rfl, rfl⟩) (by assumption) ?_
            try simp only [Act.put, List.setIfInBounds_toArray, List.set_cons_zero, List.set_cons_succ]
            refine wpAnyH_takeD (some 70) (i := 19) (v := undef) rfl (by kernel_rfl) (by kernel_rfl) (by kernel_rfl) (by kernel_rfl) (fun _ _ _ h => h) (Or.inr ⟨by kernel_rfl, rfl⟩) (by assumption) ?_
            try simp only [Act.put, List.setIfInBounds_toArray, List.set_cons_zero, List.set_cons_succ]
            refine wpAnyH_takeD (some 71) (i := 20) (v := undef) rfl (by kernel_rfl) (by kernel_rfl) (by kernel_rfl) (by kernel_rfl) (fun _ _ _ h => h) (Or.inr ⟨by kernel_rfl, rfl⟩) (by assumption) ?_
            try simp only [Act.put, List.setIfInBounds_toArray, List.set_cons_zero, List.set_cons_succ]
            refine wpAnyH_takeD (some 72) (i := 21) (v := undef) rfl (by kernel_rfl) (by kernel_rfl) (by kernel_rfl) (by kernel_rfl) (fun _ _ _ h => h) (Or.inr ⟨by kernel_rfl, rfl⟩) (by assumption) ?_
            try simp only [Act.put, List.setIfInBounds_toArray, List.set_cons_zero, List.set_cons_succ]
            refine wpAnyH_takeD (some 73) (i := 22) (v := ?vk22) rfl (by kernel_rfl) (by kernel_rfl) (by kernel_rfl) (by kernel_rfl) (fun _ _ _ h => h) (Or.inl ⟨by rfl, ?hyk22⟩) (by assumption) ?rk22
            case hyk22 => intro w hSw; (try dsimp only at hSw); go_simp; first | done | with_reducible rfl
            case' rk22 => try simp only [Act.put, List.setIfInBounds_toArray, List.set_cons_zero, List.set_cons_succ]
            refine wpAnyH_takeD (some 74) (i := 23) (v := ?vk23) rfl (by kernel_rfl) (by kernel_rfl) (by kernel_rfl) (by kernel_rfl) (fun _ _ _ h => h) (Or.inl ⟨by rfl, ?hyk23⟩) (by assumption) ?rk23
            case hyk23 => intro w hSw; (try dsimp only at hSw); go_simp; first | done | with_reducible rfl
            case' rk23 => try simp only [Act.put, List.setIfInBounds_toArray, List.set_cons_zero, List.set_cons_succ]
            refine wpAnyH_done (by kernel_rfl) ?_ _
            go_wp2
            go_roundw
            case rel => exact ⟨0 + 1, by omega, by go_num, HE.out.trans g3⟩
            case measure => simp [intOf]; omega
          · obtain ⟨j, hj⟩ : ∃ j, k = j + 1 := ⟨k - 1, by omega⟩
            obtain ⟨y, hy⟩ := get_some (xs := xs) (k := j) (by rw [HNP.out]; omega)
            obtain ⟨o', g', cg', e', cy, hiy, -⟩ := (HD4.out.lv HE.out.lv).get hy
            simp only [Option.some.injEq, Addr.mk.injEq, and_true] at e'
            subst e'
            have HLX : Hid (lexB y x = true) := Lib.hid (nptsL_sorted HR.out (i := j) (by rw [HXS.out]; exact hy) (by rw [HXS.out, ← hj]; exact HX.out))
            have HJ := Lib.hid hiy
            have hj1 : ((k : Int) - 1) = (j : Int) := by omega
            have hj2 : decide ((0 : Int) < (k : Int)) = true := by simp; omega
            have hj3 : decide (0 < k) = true := by simp; omega
            have hj4 : IntKind.i64.wrap (j : Int) = (j : Int) := by rw [IntKind.wrap_i64]; omega
            have hj5 : (0 : Int) ≤ (j : Int) := by omega
            have hj6 : (j : Int) < (np : Int) := by omega
            have hjn : j < np := by omega
            clear hiy hy hj
            go_wp2_with (fail)
            refine wp_region_held_drew (S := (fun W => W.cell? ⟨o, k, none⟩ = some (.slice (some ⟨g, 0, none⟩) x.length cg) ∧ W.cell? ⟨o, j, none⟩ = some (.slice (some ⟨g', 0, none⟩) y.length cg'))) (by kernel_rfl) ⟨cx, cy⟩ (fun hHeld => ?_)
            refine wpAnyH_takeD (some 51) (i := 0) (v := ?vu0) rfl (by kernel_rfl) (by kernel_rfl) (by kernel_rfl) (by kernel_rfl) (fun _ _ _ h => h) (Or.inl ⟨by rfl, ?hyu0⟩) (by assumption) ?ru0
            case hyu0 => intro w hSw; (try dsimp only at hSw); go_simp; first | done | with_reducible rfl
            case' ru0 => try simp only [Act.put, List.setIfInBounds_toArray, List.set_cons_zero, List.set_cons_succ]
            refine wpAnyH_takeD (some 52) (i := 1) (v := ?vu1) rfl (by kernel_rfl) (by kernel_rfl) (by kernel_rfl) (by kernel_rfl) (fun _ _ _ h => h) (Or.inl ⟨by rfl, ?hyu1⟩) (by assumption) ?ru1
            case hyu1 => intro w hSw; (try dsimp only at hSw); go_simp; first | done | with_reducible rfl
            case' ru1 => try simp only [Act.put, List.setIfInBounds_toArray, List.set_cons_zero, List.set_cons_succ]
            refine wpAnyH_takeD (some 53) (i := 2) (v := ?vu2) rfl (by kernel_rfl) (by kernel_rfl) (by kernel_rfl) (by kernel_rfl) (fun _ _ _ h => h) (Or.inl ⟨by rfl, ?hyu2⟩) (by assumption) ?ru2
            case hyu2 => intro w hSw; (try dsimp only at hSw); go_simp; first | done | with_reducible rfl
            case' ru2 => try simp only [Act.put, List.setIfInBounds_toArray, List.set_cons_zero, List.set_cons_succ]
            refine wpAnyH_takeD (some 54) (i := 3) (v := ?vu3) rfl (by kernel_rfl) (by kernel_rfl) (by kernel_rfl) (by kernel_rfl) (fun _ _ _ h => h) (Or.inl ⟨by rfl, ?hyu3⟩) (by assumption) ?ru3
            case hyu3 => intro w hSw; (try dsimp only at hSw); go_simp; first | done | with_reducible rfl
            case' ru3 => try simp only [Act.put, List.setIfInBounds_toArray, List.set_cons_zero, List.set_cons_succ]
            refine wpAnyH_takeD (some 55) (i := 4) (v := ?vu4) rfl (by kernel_rfl) (by kernel_rfl) (by kernel_rfl) (by kernel_rfl) (fun _ _ _ h => h) (Or.inl ⟨by rfl, ?hyu4⟩) (by assumption) ?ru4
            case hyu4 => intro w hSw; (try dsimp only at hSw); go_simp; first | done | with_reducible rfl
            case' ru4 => try simp only [Act.put, List.setIfInBounds_toArray, List.set_cons_zero, List.set_cons_succ]
            refine wpAnyH_ready (rs := [5]) (by kernel_rfl) (by simp) ?_
            refine AllReadyH.cons rfl (fun K9 hK => ?_) AllReadyH.nil
            go_simp
            refine (PointIn_any (some ⟨q, 0, none⟩) m d ls _ x _ HL.out (HV.out.ext (FW.out.trans (Ext.refl wr).drew)) (HI.out.ext (Ext.refl wr).drew) HC.out).mono ?_
            rw [HPT.out]
            rintro e w3 ⟨rfl, hE3⟩
            have g3 := (Ext.refl wr).drew.trans hE3
            refine hK.out _ _ ⟨g3.keep cx, g3.keep cy⟩ (fun hHu5 => ?_)
            clear hK K9
            try simp only [Act.put, List.setIfInBounds_toArray, List.set_cons_zero, List.set_cons_succ]
            refine wpAnyH_takeD (some 57) (i := 6) (v := ?vu6) rfl (by kernel_rfl) (by kernel_rfl) (by kernel_rfl) (by kernel_rfl) (fun _ _ _ h => h) (Or.inl ⟨by rfl, ?hyu6⟩) (by assumption) ?ru6
            case hyu6 => intro w hSw; (try dsimp only at hSw); go_simp; first | done | with_reducible rfl
            case' ru6 => try simp only [Act.put, List.setIfInBounds_toArray, List.set_cons_zero, List.set_cons_succ]
            refine wpAnyH_takeD (some 58) (i := 7) (v := ?vu7) rfl (by kernel_rfl) (by kernel_rfl) (by kernel_rfl) (by kernel_rfl) (fun _ _ _ h => h) (Or.inl ⟨by rfl, ?hyu7⟩) (by assumption) ?ru7
            case hyu7 => intro w hSw; (try dsimp only at hSw); go_simp; first | done | with_reducible rfl
            case' ru7 => try simp only [Act.put, List.setIfInBounds_toArray, List.set_cons_zero, List.set_cons_succ]
            refine wpAnyH_takeD (some 59) (i := 8) (v := ?vu8) rfl (by kernel_rfl) (by kernel_rfl) (by kernel_rfl) (by kernel_rfl) (fun _ _ _ h => h) (Or.inl ⟨by rfl, ?hyu8⟩) (by assumption) ?ru8
            case hyu8 => intro w hSw; (try dsimp only at hSw); go_simp; first | done | with_reducible rfl
            case' ru8 => try simp only [Act.put, List.setIfInBounds_toArray, List.set_cons_zero, List.set_cons_succ]
            refine wpAnyH_takeD (some 60) (i := 9) (v := ?vu9) rfl (by kernel_rfl) (by kernel_rfl) (by kernel_rfl) (by kernel_rfl) (fun _ _ _ h => h) (Or.inl ⟨by rfl, ?hyu9⟩) (by assumption) ?ru9
            case hyu9 => intro w hSw; (try dsimp only at hSw); go_simp; first | done | with_reducible rfl
            case' ru9 => try simp only [Act.put, List.setIfInBounds_toArray, List.set_cons_zero, List.set_cons_succ]
            refine wpAnyH_takeD (some 61) (i := 10) (v := ?vu10) rfl (by kernel_rfl) (by kernel_rfl) (by kernel_rfl) (by kernel_rfl) (fun _ _ _ h => h) (Or.inl ⟨by rfl, ?hyu10⟩) (by assumption) ?ru10
            case hyu10 => intro w hSw; (try dsimp only at hSw); go_simp; first | done | with_reducible rfl
            case' ru10 => try simp only [Act.put, List.setIfInBounds_toArray, List.set_cons_zero, List.set_cons_succ]
            refine wpAnyH_takeD (some 62) (i := 11) (v := ?vu11) rfl (by kernel_rfl) (by kernel_rfl) (by kernel_rfl) (by kernel_rfl) (fun _ _ _ h => h) (Or.inl ⟨by rfl, ?hyu11⟩) (by assumption) ?ru11
            case hyu11 => intro w hSw; (try dsimp only at hSw); go_simp; first | done | with_reducible rfl
            case' ru11 => try simp only [Act.put, List.setIfInBounds_toArray, List.set_cons_zero, List.set_cons_succ]
            refine wpAnyH_takeD (some 63) (i := 12) (v := ?vu12) rfl (by kernel_rfl) (by kernel_rfl) (by kernel_rfl) (by kernel_rfl) (fun _ _ _ h => h) (Or.inl ⟨by rfl, ?hyu12⟩) (by assumption) ?ru12
            case hyu12 => intro w hSw; (try dsimp only at hSw); go_simp; first | done | with_reducible rfl
            case' ru12 => try simp only [Act.put, List.setIfInBounds_toArray, List.set_cons_zero, List.set_cons_succ]
            refine wpAnyH_takeD (some 64) (i := 13) (v := ?vu13) rfl (by kernel_rfl) (by kernel_rfl) (by kernel_rfl) (by kernel_rfl) (fun _ _ _ h => h) (Or.inl ⟨by rfl, ?hyu13⟩) (by assumption) ?ru13
            case hyu13 => intro w hSw; (try dsimp only at hSw); go_simp; first | done | with_reducible rfl
            case' ru13 => try simp only [Act.put, List.setIfInBounds_toArray, List.set_cons_zero, List.set_cons_succ]
            refine wpAnyH_takeD (some 65) (i := 14) (v := ?vu14) rfl (by kernel_rfl) (by kernel_rfl) (by kernel_rfl) (by kernel_rfl) (fun _ _ _ h => h) (Or.inl ⟨by rfl, ?hyu14⟩) (by assumption) ?ru14
            case hyu14 => intro w hSw; (try dsimp only at hSw); go_simp; first | done | with_reducible rfl
            case' ru14 => try simp only [Act.put, List.setIfInBounds_toArray, List.set_cons_zero, List.set_cons_succ]
            refine wpAnyH_takeD (some 66) (i := 15) (v := ?vu15) rfl (by kernel_rfl) (by kernel_rfl) (by kernel_rfl) (by kernel_rfl) (fun _ _ _ h => h) (Or.inl ⟨by rfl, ?hyu15⟩) (by assumption) ?ru15
            case hyu15 => intro w hSw; (try dsimp only at hSw); go_simp; first | done | with_reducible rfl
            case' ru15 => try simp only [Act.put, List.setIfInBounds_toArray, List.set_cons_zero, List.set_cons_succ]
            refine wpAnyH_takeD (some 67) (i := 16) (v := ?vu16) rfl (by kernel_rfl) (by kernel_rfl) (by kernel_rfl) (by kernel_rfl) (fun _ _ _ h => h) (Or.inl ⟨by rfl, ?hyu16⟩) (by assumption) ?ru16
            case hyu16 => intro w hSw; (try dsimp only at hSw); go_simp; first | done | with_reducible rfl
            case' ru16 => try simp only [Act.put, List.setIfInBounds_toArray, List.set_cons_zero, List.set_cons_succ]
            refine wpAnyH_takeD (some 68) (i := 17) (v := ?vu17) rfl (by kernel_rfl) (by kernel_rfl) (by kernel_rfl) (by kernel_rfl) (fun _ _ _ h => h) (Or.inl ⟨by rfl, ?hyu17⟩) (by assumption) ?ru17
            case hyu17 => intro w hSw; (try dsimp only at hSw); go_simp; first | done | with_reducible rfl
            case' ru17 => try simp only [Act.put, List.setIfInBounds_toArray, List.set_cons_zero, List.set_cons_succ]
            refine wpAnyH_takeD (some 69) (i := 18) (v := ?vu18) rfl (by kernel_rfl) (by kernel_rfl) (by kernel_rfl) (by kernel_rfl) (fun _ _ _ h => h) (Or.inl ⟨by rfl, ?hyu18⟩) (by assumption) ?ru18
            case hyu18 => intro w hSw; (try dsimp only at hSw); go_simp; first | done | with_reducible rfl
            case' ru18 => try simp only [Act.put, List.setIfInBounds_toArray, List.set_cons_zero, List.set_cons_succ]
            refine wpAnyH_takeD (some 70) (i := 19) (v := ?vu19) rfl (by kernel_rfl) (by kernel_rfl) (by kernel_rfl) (by kernel_rfl) (fun _ _ _ h => h) (Or.inl ⟨by rfl, ?hyu19⟩) (by assumption) ?ru19
            case hyu19 => intro w hSw; (try dsimp only at hSw); go_simp; first | done | with_reducible rfl
            case' ru19 => try simp only [Act.put, List.setIfInBounds_toArray, List.set_cons_zero, List.set_cons_succ]
            refine wpAnyH_ready (rs := [20]) (by kernel_rfl) (by simp) ?_
            refine AllReadyH.cons rfl (fun K9 hK => ?_) AllReadyH.nil
            go_simp
            refine (LexLess_any _ _ y x _ (HJ.out.ext g3) (HI.out.ext g3)).mono ?_
            rw [HLX.out]
            rintro e w5 ⟨rfl, rfl⟩
            have g5 := g3
            refine hK.out _ _ ⟨g5.keep cx, g5.keep cy⟩ (fun hHu20 => ?_)
            clear hK K9
            try simp only [Act.put, List.setIfInBounds_toArray, List.set_cons_zero, List.set_cons_succ]
            refine wpAnyH_takeD (some 72) (i := 21) (v := ?vu21) rfl (by kernel_rfl) (by kernel_rfl) (by kernel_rfl) (by kernel_rfl) (fun _ _ _ h => h) (Or.inl ⟨by rfl, ?hyu21⟩) (by assumption) ?ru21
            case hyu21 => intro w hSw; (try dsimp only at hSw); go_simp; first | done | with_reducible rfl
            case' ru21 => try simp only [Act.put, List.setIfInBounds_toArray, List.set_cons_zero, List.set_cons_succ]
            refine wpAnyH_takeD (some 73) (i := 22) (v := ?vu22) rfl (by kernel_rfl) (by kernel_rfl) (by kernel_rfl) (by kernel_rfl) (fun _ _ _ h => h) (Or.inl ⟨by rfl, ?hyu22⟩) (by assumption) ?ru22
            case hyu22 => intro w hSw; (try dsimp only at hSw); go_simp; first | done | with_reducible rfl
            case' ru22 => try simp only [Act.put, List.setIfInBounds_toArray, List.set_cons_zero, List.set_cons_succ]
            refine wpAnyH_takeD (some 74) (i := 23) (v := ?vu23) rfl (by kernel_rfl) (by kernel_rfl) (by kernel_rfl) (by kernel_rfl) (fun _ _ _ h => h) (Or.inl ⟨by rfl, ?hyu23⟩) (by assumption) ?ru23
            case hyu23 => intro w hSw; (try dsimp only at hSw); go_simp; first | done | with_reducible rfl
            case' ru23 => try simp only [Act.put, List.setIfInBounds_toArray, List.set_cons_zero, List.set_cons_succ]
            refine wpAnyH_done (by kernel_rfl) ?_ _
            go_wp2
            go_roundw
            case rel => exact ⟨k + 1, by omega, by go_num, HE.out.trans g5⟩
            case measure => simp [intOf]; omega
        · obtain rfl : k = np := by omega
          have F5 := Lib.hid (HE1.out.trans FW.out)
          clear hE
          go_wp2
          go_ret
          exact ⟨rfl, F5.out⟩
  · have hd0 : decide ((1048576 : Int) < n0) = true := by simp; omega
    go_enter Try.func4, Try.ntmps4
    go_wp2
    go_ret
    exact ⟨rfl, Ext.refl w⟩
end Go.Proofs.Ytkcbnkgegopkhaa

/- FnPointIn: a point is in a nest exactly if it is one of the points that NestPoints lists: the walk. -/
import Derived.Test.YtkcbnkgegopkhaaR14
import Derived.Test.YtkcbnkgegopkhaaR5
import Derived.Test.YtkcbnkgegopkhaaR12
import Derived.Test.YtkcbnkgegopkhaaOp
namespace Go.Proofs.Ytkcbnkgegopkhaa
open Go.RowKit Go.ChangeShapes Go.WideShapes Go.ChangeAt Go.Joins

def someB (xs : List (List Int)) (ps : List Int) (k : Nat) : Bool := (xs.take k).any (fun x => eqB x ps)
theorem someB_next {xs : List (List Int)} {ps x : List Int} {k : Nat} (h : xs[k]? = some x) : someB xs ps (k + 1) = (someB xs ps k || eqB x ps) := by
  unfold someB; rw [take_next h, List.any_append]; simp

set_option maxHeartbeats 4000000 in
set_option maxRecDepth 100000 in
theorem walkFnPointIn (v0 : Value) (w : World) (h0 : RBytes w v0) :
    Calls Try.prog 5 #[v0] w fun e w' => e = .returned (.bool true) ∧ Below w.heap.size w w' := by
  obtain ⟨p0, n0, c0, rfl, hb0, hl0⟩ := h0
  have hm0 := hb0.2.1
  have HB0 := Lib.hid hb0; have HL0 := Lib.hid hl0; clear hb0 hl0
  by_cases h0 : n0 ≤ 1048576
  · have hd0 : decide ((1048576 : Int) < n0) = false := by simp; omega
    go_enter Try.func5, Try.ntmps5
    go_wp2_with (fail)
    refine (DrawPointIn_any p0 n0 c0 _ HB0.out HL0.out).mono ?_
    rintro e w1 ⟨⟨q, m, d, q', m', d', ls, ps, rfl, hl, hp, hpt, hc, hv, hu⟩, E1⟩
    have HL := Lib.hid hl; have HP := Lib.hid hp; have HPT := Lib.hid hpt; have HV := Lib.hid hv; have HU := Lib.hid hu; have HE1 := Lib.hid E1
    have HC : Hid (∀ q n' d, Value.slice q' m' d' = .slice q n' d → n' ≤ d) := Lib.hid (fun q n' d e => by cases e; exact hc)
    clear hl hp hpt hv hu E1
    have HPL : Hid ((nptsL ls).length ≤ 120) := Lib.hid nptsL_len
    obtain ⟨b, hb⟩ : ∃ b, pointB ls ps = b := ⟨_, rfl⟩
    obtain ⟨r, hr⟩ : ∃ r, nptsB ls = r := ⟨_, rfl⟩
    have HB := Lib.hid hb; have HR := Lib.hid hr; clear hb hr
    have hbb : (b != b) = false := by simp
    have hbe : (b == b) = true := by simp
    go_wp2_with (fail)
    refine (PointIn_any (some ⟨q, 0, none⟩) m d ls _ ps w1 HL.out HV.out HU.out HC.out).mono ?_
    rw [HB.out]
    rintro e w2 ⟨rfl, hE⟩
    have F2 := Lib.hid hE; clear hE
    go_wp2_with (fail)
    refine (NestPoints_any (some ⟨q, 0, none⟩) m d ls w2 HL.out (HV.out.ext F2.out)).mono ?_
    rintro e w3 ⟨⟨v3, own3, rfl, hp3, -⟩, hE⟩
    rw [HR.out]
    have F3 := Lib.hid (F2.out.trans hE); have HD3 := Lib.hid hp3
    clear hE hp3 F2
    go_wp2_with (fail)
    refine (specPointIn_any (some ⟨q, 0, none⟩) m d ls _ ps w3 HL.out (HV.out.ext F3.out) (HU.out.ext F3.out) HC.out).mono ?_
    rw [HB.out]
    rintro e w4 ⟨rfl, hE⟩
    have F4 := Lib.hid (F3.out.trans hE); have HD4 := Lib.hid (HD3.out.lv hE.lv)
    clear hE F3 HD3
    cases r with
    | false =>
      go_wp2_with (fail)
      refine (specPointIn_any (some ⟨q, 0, none⟩) m d ls _ ps w4 HL.out (HV.out.ext F4.out) (HU.out.ext F4.out) HC.out).mono ?_
      rw [HB.out]
      rintro e w5 ⟨rfl, hE⟩
      have F5 := Lib.hid (HE1.out.trans (F4.out.trans hE)); clear hE
      go_wp2
      go_ret
      exact ⟨rfl, F5.out⟩
    | true =>
      have HSB : Hid (b = someB (nptsL ls) ps (nptsL ls).length) := Lib.hid (by
        unfold someB
        rw [List.take_length]
        have hmem : (nptsL ls).any (fun x => eqB x ps) = true ↔ ps ∈ nptsL ls := by
          simp [List.any_eq_true, eqB]
        cases hq : b with
        | true =>
          have h1 := HB.out; rw [hq] at h1
          have h2 : ptB ps = true := by unfold pointB at h1; simp only [Bool.and_eq_true] at h1; exact h1.2.1
          exact (hmem.2 ((nptsL_point HR.out h2).1 h1)).symm
        | false =>
          have h1 := HB.out; rw [hq] at h1
          symm
          rw [Bool.eq_false_iff]
          intro h2
          have h3 := hmem.1 h2
          have h4 := ((nptsL_iff HR.out ps).1 h3).1
          have h5 := HPT.out (nptsB_nest HR.out) (by rw [← HP.out, ← HL.out]; exact h4)
          rw [(nptsL_point HR.out h5).2 h3] at h1
          cases h1)
      have hpl := HPL.out
      obtain ⟨xs, hxs⟩ : ∃ xs, nptsL ls = xs := ⟨_, rfl⟩
      replace HD4 := Lib.hid (show PtsD own3 w2.heap.size w4 v3 xs by rw [← hxs]; exact HD4.out)
      replace HSB := Lib.hid (show b = someB xs ps xs.length by rw [← hxs]; exact HSB.out)
      rw [hxs] at hpl
      obtain ⟨np, hnp⟩ : ∃ np, xs.length = np := ⟨_, rfl⟩
      obtain ⟨p2, c2, rfl⟩ := HD4.out.form
      rw [hnp] at hpl ⊢
      have HNP := Lib.hid hnp
      replace HD4 := Lib.hid (show PtsD own3 w2.heap.size w4 (.slice p2 np c2) xs by rw [← hnp]; exact HD4.out)
      replace HSB := Lib.hid (show b = someB xs ps np by rw [← hnp]; exact HSB.out)
      clear hnp hxs
      go_wp2
      go_loopw [8, 9] (fun a i wr => ∃ k : Nat, k ≤ np ∧ i = .int .i64 k ∧ a = .bool (someB xs ps k) ∧ Ext w4 wr) (fun _ i _ => np - (intOf i).toNat)
      case atStart => exact ⟨0, by omega, rfl, rfl, Ext.refl _⟩
      case round =>
        obtain ⟨k, hk, rfl, rfl, hE⟩ := hrel
        have FW := Lib.hid (F4.out.trans hE)
        obtain ⟨A, hA⟩ : ∃ A, someB xs ps k = A := ⟨_, rfl⟩
        rw [hA]
        have HA := Lib.hid hA; clear hA
        by_cases hlt : k < np
        · obtain ⟨x, hx⟩ := get_some (xs := xs) (k := k) (by rw [HNP.out]; exact hlt)
          obtain ⟨o, g, cg, rfl, cx, hix, hcx⟩ := (HD4.out.lv hE.lv).get hx
          have HI := Lib.hid hix
          have HS := Lib.hid (someB_next (ps := ps) hx)
          have HE := Lib.hid hE
          clear hix hx hE
          cases A with
          | true =>
            go_wp2
            go_roundw
            case rel => exact ⟨k + 1, by omega, by go_num, by rw [HS.out, HA.out]; rfl, HE.out⟩
            case measure => simp [intOf]; omega
          | false =>
            go_wp2_with (fail)
            refine (lnIntsE_any _ _ x ps wr HI.out (HU.out.ext FW.out)).mono ?_
            rintro e w5 ⟨rfl, hE5⟩
            obtain ⟨t, ht⟩ : ∃ t, eqB x ps = t := ⟨_, rfl⟩
            rw [ht]
            have HT := Lib.hid ht; clear ht
            go_wp2
            go_roundw
            case rel => exact ⟨k + 1, by omega, by go_num, by rw [HS.out, HA.out, HT.out]; rfl, HE.out.trans hE5⟩
            case measure => simp [intOf]; omega
        · obtain rfl : k = np := by omega
          have e : b = A := HSB.out.trans HA.out
          have F5 := Lib.hid (HE1.out.trans FW.out)
          clear hE HA HSB
          subst e
          go_wp2
          go_ret
          exact ⟨rfl, F5.out⟩
  · have hd0 : decide ((1048576 : Int) < n0) = true := by simp; omega
    go_enter Try.func5, Try.ntmps5
    go_wp2
    go_ret
    exact ⟨rfl, Ext.refl w⟩
end Go.Proofs.Ytkcbnkgegopkhaa

/- FnLoopRange: a point is in a nest exactly if its coordinates are in the ranges of their loops, the walk. -/
import Derived.Test.YtabkhiakekammaaR5
import Derived.Test.YtabkhiakekammaaN14
import Derived.Test.YtabkhiakekammaaN15
import Derived.Test.YtabkhiakekammaaOpB
namespace Go.Proofs.Ytabkhiakekammaa
open Go.RowKit Go.ChangeShapes Go.WideShapes Go.ChangeAt Go.Joins

def allB (ls : List Lp) (ps : List Int) (k : Nat) : Bool := (List.range k).all (inB ls ps)
theorem allB_succ (ls : List Lp) (ps : List Int) (k : Nat) : allB ls ps (k + 1) = (allB ls ps k && inB ls ps k) := by
  simp [allB, List.range_succ, List.all_append]
theorem pointB_all {ls : List Lp} {ps : List Int} {n : Nat} (h1 : nestB ls = true) (h2 : ptB ps = true) (hl : ls.length = n) (hp : ps.length = n) : pointB ls ps = allB ls ps n := by
  unfold pointB allB; rw [h1, h2, hl, hp]; simp

set_option maxHeartbeats 1600000 in
set_option maxRecDepth 100000 in
theorem walkFnLoopRange (v0 : Value) (w : World) (h0 : RBytes w v0) :
    Calls Try.prog 9 #[v0] w fun e w' => e = .returned (.bool true) ∧ Below w.heap.size w w' := by
  obtain ⟨p0, n0, c0, rfl, hb0, hl0⟩ := h0
  have hm0 := hb0.2.1
  have HB0 := Lib.hid hb0; have HL0 := Lib.hid hl0; clear hb0 hl0
  by_cases h0 : n0 ≤ 1048576
  · have hd0 : decide ((1048576 : Int) < n0) = false := by simp; omega
    go_enter Try.func9, Try.ntmps9
    go_wp2_with (fail)
    refine (DrawPointIn_any p0 n0 c0 _ HB0.out HL0.out).mono ?_
    rintro e w1 ⟨⟨q, m, d, q', m', d', ls, ps, rfl, hl, hp, hpt, hc, hv, hu⟩, E1⟩
    have HL := Lib.hid hl; have HP := Lib.hid hp; have HPT := Lib.hid hpt; have HV := Lib.hid hv; have HU := Lib.hid hu; have HE1 := Lib.hid E1
    have hm'63 : m' ≤ 9223372036854775807 := by obtain ⟨_, _, e, hm, _⟩ := hu; rw [← hp]; exact hm
    have hm63 : m ≤ 9223372036854775807 := by obtain ⟨_, _, _, hm, _⟩ := hv; rw [← hl]; exact hm
    have HC : Hid (∀ q n' d, Value.slice q' m' d' = .slice q n' d → n' ≤ d) := Lib.hid (fun q n' d e => by cases e; exact hc)
    clear hl hp hpt hv hu E1
    obtain ⟨b, hb⟩ : ∃ b, pointB ls ps = b := ⟨_, rfl⟩
    have HB := Lib.hid hb; clear hb
    go_wp2_with (fail)
    refine (PointIn_any (some ⟨q, 0, none⟩) m d ls _ ps w1 HL.out HV.out HU.out HC.out).mono ?_
    rw [HB.out]
    rintro e w2 ⟨rfl, hE⟩
    have F2 := Lib.hid hE; clear hE
    go_wp2_with (fail)
    refine (specPointIn_any (some ⟨q, 0, none⟩) m d ls _ ps w2 HL.out (HV.out.ext F2.out) (HU.out.ext F2.out) HC.out).mono ?_
    rw [HB.out]
    rintro e w3 ⟨rfl, hE⟩
    have F3 := Lib.hid (F2.out.trans hE); clear hE F2
    obtain ⟨nb, hnb⟩ : ∃ nb, nestB ls = nb := ⟨_, rfl⟩
    have HNB := Lib.hid hnb; clear hnb
    go_wp2_with (fail)
    refine (NestValid_any (some ⟨q, 0, none⟩) m d ls w3 HL.out (HV.out.ext F3.out)).mono ?_
    rw [HNB.out]
    rintro e w4 ⟨rfl, hE⟩
    have F4 := Lib.hid (F3.out.trans hE); clear hE F3
    cases nb with
    | false =>
      go_wp2_with (fail)
      refine (specPointIn_any (some ⟨q, 0, none⟩) m d ls _ ps w4 HL.out (HV.out.ext F4.out) (HU.out.ext F4.out) HC.out).mono ?_
      rw [HB.out]
      rintro e w5 ⟨rfl, hE⟩
      have F5 := Lib.hid (HE1.out.trans (F4.out.trans hE)); clear hE
      go_wp2
      go_ret
      exact ⟨rfl, F5.out⟩
    | true =>
      by_cases hmm : m' = m
      · subst hmm
        have hpt : ptB ps = true := HPT.out HNB.out rfl
        have HPB := Lib.hid hpt
        clear hpt
        have hb2 : b = allB ls ps m' := HB.out.symm.trans (pointB_all HNB.out HPB.out HL.out HP.out)
        have HBB := Lib.hid hb2; clear hb2
        go_wp2
        go_loopw [6, 7] (fun a i wr => ∃ k : Nat, k ≤ m' ∧ i = .int .i64 k ∧ a = .bool (allB ls ps k) ∧ Ext w1 wr) (fun _ i _ => m' - (intOf i).toNat)
        case atStart => exact ⟨0, by omega, rfl, rfl, F4.out⟩
        case round =>
          clear F4
          obtain ⟨k, hk, rfl, rfl, hE⟩ := hrel
          obtain ⟨A, hA⟩ : ∃ A, allB ls ps k = A := ⟨_, rfl⟩
          rw [hA]
          have HA := Lib.hid hA; clear hA
          by_cases hlt : k < m'
          · obtain ⟨x, hx⟩ := get_some (xs := ls) (k := k) (by rw [HL.out]; exact hlt)
            obtain ⟨v, hv⟩ := get_some (xs := ps) (k := k) (by rw [HP.out]; exact hlt)
            obtain ⟨p2, d2, ev, _, hcc⟩ := (HU.out.ext hE).get
            simp only [Value.slice.injEq] at ev
            obtain ⟨rfl, -, rfl⟩ := ev
            obtain ⟨b2, off2, rfl, cv, hb2⟩ := hcc k v hv
            have HF := Lib.hid ((HU.out.ext hE).front (k := k) hk)
            have HI := Lib.hid (inB_eq hx hv)
            have htk : (ps.take k).length = k := by rw [List.length_take, HP.out]; omega
            have HRG := Lib.hid (rangeR_yes HNB.out (ptB_take HPB.out k) (x := x) (by rw [htk]; exact hx))
            have HE := Lib.hid hE
            clear hcc hx hv htk hE
            have hk0 : (0 : Int) ≤ (k : Int) := by omega
            have hk1 : (k : Int) ≤ (d' : Int) := by omega
            have hk2 : (k : Int) < (m' : Int) := by omega
            go_wp2_with (fail)
            refine (LoopRange_any (some ⟨q, 0, none⟩) m' d ls _ _ wr HL.out (HV.out.ext HE.out) HF.out).mono ?_
            rw [HRG.out]
            rintro e w5 ⟨rfl, hE5⟩
            replace cv := hE5.keep cv
            have HE5 := Lib.hid (HE.out.trans hE5); clear hE5
            generalize loV x (ps.take k) = lo at *
            generalize hiV x (ps.take k) = hi at *
            have HS : Hid (allB ls ps (k + 1) = (A && decide (lo ≤ v ∧ v < hi))) := Lib.hid (by rw [allB_succ, HA.out, HI.out])
            cases A with
            | false =>
              go_wp2
              go_roundw
              case rel => exact ⟨k + 1, by omega, by go_num, by rw [HS.out]; rfl, HE5.out⟩
              case measure => simp [intOf]; omega
            | true =>
              by_cases h1 : lo ≤ v
              · have hd1 : decide (lo ≤ v) = true := by simpa using h1
                have H1 := Lib.hid h1; clear h1
                by_cases h2 : v < hi
                · have hd2 : decide (v < hi) = true := by simpa using h2
                  have H2 := Lib.hid h2; clear h2
                  go_wp2
                  go_roundw
                  case rel => exact ⟨k + 1, by omega, by go_num, by rw [HS.out]; simp [H1.out, H2.out], HE5.out⟩
                  case measure => simp [intOf]; omega
                · have hd2 : decide (v < hi) = false := by simpa using h2
                  have H2 := Lib.hid h2; clear h2
                  go_wp2
                  go_roundw
                  case rel => exact ⟨k + 1, by omega, by go_num, by rw [HS.out]; simp [H2.out], HE5.out⟩
                  case measure => simp [intOf]; omega
              · have hd1 : decide (lo ≤ v) = false := by simpa using h1
                have H1 := Lib.hid h1; clear h1
                go_wp2
                go_roundw
                case rel => exact ⟨k + 1, by omega, by go_num, by rw [HS.out]; have := H1.out; simp; omega, HE5.out⟩
                case measure => simp [intOf]; omega
          · obtain rfl : k = m' := by omega
            have e : b = A := HBB.out.trans HA.out
            have F5 := Lib.hid (HE1.out.trans hE)
            clear hE HA HBB
            subst e
            go_wp2
            go_ret
            exact ⟨rfl, F5.out⟩
      · have hb : ((m' : Int) != m) = true := by simp; omega
        have HMM := Lib.hid hmm; clear hmm
        go_wp2_with (fail)
        refine (specPointIn_any (some ⟨q, 0, none⟩) m d ls _ ps w4 HL.out (HV.out.ext F4.out) (HU.out.ext F4.out) HC.out).mono ?_
        rw [HB.out]
        rintro e w5 ⟨rfl, hE⟩
        have F5 := Lib.hid (HE1.out.trans (F4.out.trans hE)); clear hE
        go_wp2
        go_ret
        exact ⟨rfl, F5.out⟩
  · have hd0 : decide ((1048576 : Int) < n0) = true := by simp; omega
    go_enter Try.func9, Try.ntmps9
    go_wp2
    go_ret
    exact ⟨rfl, Ext.refl w⟩
end Go.Proofs.Ytabkhiakekammaa

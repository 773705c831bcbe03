/- FnSubscriptRange: the values of a drawn expression at the points of a drawn nest are within the range that SubscriptRange of the program returns, whose ends are reached: the walk. No condition. -/
import Derived.Test.YtccibfldadflkaaQT43
import Derived.Test.YtccibfldadflkaaQT39
import Derived.Test.YtccibfldadflkaaQT25
import Derived.Deep.RegionHeld3
namespace Go.Proofs.Ytccibfldadflkaa
open Go.RowKit Go.ChangeShapes Go.WideShapes Go.ChangeAt Go.Joins

theorem mem_take_or {L : List Int} {j : Nat} {v x : Int} (hv : L[j]? = some v) : decide (x ∈ L.take (j + 1)) = (decide (x ∈ L.take j) || (v == x)) := by
  rw [take_next hv]
  by_cases h : x ∈ L.take j
  · simp [h]
  · by_cases e : v = x
    · subst e; simp
    · have e2 : (v == x) = false := by simpa using e
      have e3 : ¬ x = v := fun h' => e h'.symm
      simp [h, e2, e3]

set_option linter.unusedVariables false in
set_option maxRecDepth 100000 in
set_option maxHeartbeats 4000000 in
theorem walkFnSubscriptRange (v0 : Value) (w : World) (h0 : RBytes w v0) :
    Calls Try.prog 5 #[v0] w fun e w' => e = .returned (.bool true) ∧ Below w.heap.size w w' := by
  obtain ⟨p0, n0, c0, rfl, hb0, hl0⟩ := h0
  have hm0 := hb0.2.1
  have HB0 := Lib.hid hb0; have HL0 := Lib.hid hl0; clear hb0 hl0
  by_cases h0 : n0 ≤ 1048576
  · have hd0 : decide ((1048576 : Int) < n0) = false := by simp; omega
    go_enter Try.func5, Try.ntmps5
    go_wp2_with (fail)
    refine (DrawSubscriptRange_any p0 n0 c0 _ HB0.out HL0.out).mono ?_
    rintro e w1 ⟨⟨q, m, d, pa, na, ca, k, ls, xs, rfl, hl, hm3, hxn, hv, ha⟩, E1⟩
    obtain ⟨AB, hAB⟩ : ∃ g, w1.heap.size = g := ⟨_, rfl⟩
    obtain ⟨W2, hW2⟩ : ∃ W, w1.alloc (.cells #[.slice pa na ca, .int .i64 k] 36) = W := ⟨_, rfl⟩
    have X12 : Ext w1 W2 := by rw [← hW2]; exact (Ext.refl w1).alloc _
    have B2 : Hid (W2.heap[AB]? = some (.cells #[.slice pa na ca, .int .i64 k] 36 (0, 0))) := Lib.hid (by rw [← hW2]; exact blk_at hAB.symm)
    have HL := Lib.hid hl; have HM3 := Lib.hid hm3; have HXN := Lib.hid hxn; have HV := Lib.hid (hv.ext X12); have HA := Lib.hid (ha.ext X12); have E2 := Lib.hid (E1.trans X12); have HW2 := Lib.hid hW2; have HAB := Lib.hid hAB
    obtain ⟨r0, r1, r2, hr⟩ : ∃ r0 r1 r2, srR ls (xs, k) = (r0, r1, r2) := ⟨_, _, _, rfl⟩
    have HR := Lib.hid hr
    clear hl hm3 hxn hv ha E1 X12 hW2 hAB hr
    go_wp2_with (fail)
    try rw [HAB.out]
    try rw [HW2.out]
    obtain ⟨a0, a1, -, -⟩ := blk2 B2.out
    go_wp2_with (fail)
    refine (SubscriptRange_any (some ⟨q, 0, none⟩) m d ls (.slice pa na ca) xs k W2 HL.out HV.out HA.out).mono ?_
    rw [HR.out]
    rintro e w3 ⟨rfl, hE⟩
    have E3 := Lib.hid (E2.out.trans hE); have B3 := Lib.hid (hE.blk B2.out); have HV3 := Lib.hid (HV.out.ext hE); have HA3 := Lib.hid (HA.out.ext hE)
    clear hE a0 a1
    obtain ⟨a0, a1, -, -⟩ := blk2 B3.out
    go_wp2_with (fail)
    refine (specSubscriptRange_any (some ⟨q, 0, none⟩) m d ls (.slice pa na ca) xs k w3 HL.out HV3.out HA3.out).mono ?_
    rw [HR.out]
    rintro e w4 ⟨rfl, hE⟩
    have E4 := Lib.hid (E3.out.trans hE); have B4 := Lib.hid (hE.blk B3.out); have HV4 := Lib.hid (HV3.out.ext hE); have HA4 := Lib.hid (HA3.out.ext hE)
    clear hE a0 a1
    have e0 : (r0 != r0) = false := by simp
    have e1 : (r1 != r1) = false := by simp
    have e2 : (r2 != r2) = false := by simp
    have q0 : (r0 == r0) = true := by simp
    have q1 : (r1 == r1) = true := by simp
    have q2 : (r2 == r2) = true := by simp
    cases r2 with
    | false =>
      go_wp2
      go_ret
      exact ⟨rfl, E4.out⟩
    | true =>
      obtain ⟨L, hL⟩ : ∃ L, srL (xs, k) ls = L := ⟨_, rfl⟩
      have hbb : boundB (m : Int) (xs, k) = true := by
        cases h : boundB (m : Int) (xs, k) with
        | true => rfl
        | false => have h2 := HR.out; unfold srR at h2; rw [HL.out, h] at h2; simp at h2
      have hex : extR L = (r0, r1, true) := by have h2 := HR.out; unfold srR at h2; rw [HL.out, hbb, if_pos rfl, hL] at h2; exact h2
      obtain ⟨hin, hlo, hhi⟩ := extR_ok hex
      have hav : affValidB xs k = true := by unfold boundB at hbb; simp only [Bool.and_eq_true] at hbb; exact hbb.1
      have hnb : nptsB ls = true := by
        cases h : nptsB ls with
        | true => rfl
        | false => rw [← hL] at hlo; simp [srL, nptsL, h] at hlo
      have HPT : Hid (∀ x ∈ nptsL ls, ptB x = true) := Lib.hid (fun x hx => (npts_PB hx).pt (by
        have h1 := ((nptsL_iff hnb x).1 hx).1
        have := HM3.out (nptsB_nest hnb)
        rw [h1, HL.out]; exact this))
      obtain ⟨np, hnp⟩ : ∃ n, (nptsL ls).length = n := ⟨_, rfl⟩
      have hnp9 : np ≤ 120 := by rw [← hnp]; exact nptsL_len
      have HLL : Hid (L.length = np) := Lib.hid (by rw [← hL, ← hnp]; simp [srL])
      have HGET : Hid (∀ (j : Nat) (x : List Int), (nptsL ls)[j]? = some x → L[j]? = some (evalK xs x k x.length)) := Lib.hid (fun j x hx => by rw [← hL]; unfold srL; rw [List.getElem?_map, hx]; rfl)
      have HIN := Lib.hid hin; have HLO := Lib.hid hlo; have HHI := Lib.hid hhi; have HAV := Lib.hid hav; have HNP := Lib.hid hnp
      clear hL hbb hex hin hlo hhi hav hnb hnp
      go_wp2_with (fail)
      refine (NestPoints_any (some ⟨q, 0, none⟩) m d ls w4 HL.out HV4.out).mono ?_
      rintro e w5 ⟨⟨v5, own5, rfl, hp5, -⟩, hE⟩
      have hpa := hp5.at (by rw [HNP.out]; omega)
      obtain ⟨p5, c5, rfl⟩ := hpa.form
      rw [HNP.out] at hpa ⊢
      obtain ⟨bb5, hbb5⟩ : ∃ b, nptsB ls = b := ⟨_, rfl⟩
      rw [hbb5]
      have E5 := Lib.hid (E4.out.trans hE); have B5 := Lib.hid (hE.blk B4.out); have HA5 := Lib.hid (HA4.out.ext hE); have HP5 := Lib.hid hpa
      clear hE hp5 hpa hbb5
      go_wp2
      go_loopw [13, 14, 15] (fun lv mv iv wr => ∃ j : Nat, j ≤ np ∧ iv = .int .i64 j ∧ lv = .bool (decide (r0 ∈ L.take j)) ∧ mv = .bool (decide (r1 ∈ L.take j)) ∧ Ext w5 wr) (fun _ _ iv _ => np - (intOf iv).toNat)
      case atStart => exact ⟨0, by omega, rfl, by simp, by simp, Ext.refl w5⟩
      case round =>
        obtain ⟨j, hj, rfl, rfl, rfl, hE⟩ := hrel
        have HE := Lib.hid hE
        clear hE
        by_cases hlt : j < np
        · obtain ⟨x, hx⟩ := get_some (xs := nptsL ls) (k := j) (by rw [HNP.out]; omega)
          obtain ⟨gp, u, rfl, cu, -, hu⟩ := (HP5.out.ext HE.out).elem hx
          obtain ⟨qu, cu2, rfl, -, -⟩ := id hu
          have HU := Lib.hid hu
          obtain ⟨nx, hnx⟩ : ∃ m, x.length = m := ⟨_, rfl⟩
          have HX := Lib.hid (HGET.out j x hx)
          have HEV : Hid (evalR xs k x = evalK xs x k x.length) := Lib.hid (by unfold evalR; rw [if_pos ⟨HAV.out, HPT.out x (List.mem_of_getElem? hx)⟩])
          rw [hnx] at cu HU HX HEV
          obtain ⟨vx, hvx⟩ : ∃ v, evalK xs x k nx = v := ⟨_, rfl⟩
          rw [hvx] at HX HEV
          have hrg := HIN.out vx (List.mem_of_getElem? HX.out)
          have HT0 := Lib.hid (mem_take_or (x := r0) HX.out); have HT1 := Lib.hid (mem_take_or (x := r1) HX.out)
          clear hx hu hnx hvx
          obtain ⟨bl, hbl⟩ : ∃ b, decide (r0 ∈ L.take j) = b := ⟨_, rfl⟩
          obtain ⟨bm, hbm⟩ : ∃ b, decide (r1 ∈ L.take j) = b := ⟨_, rfl⟩
          rw [hbl] at HT0 ⊢
          rw [hbm] at HT1 ⊢
          obtain ⟨el, hel⟩ : ∃ b, (vx == r0) = b := ⟨_, rfl⟩
          obtain ⟨em, hem⟩ : ∃ b, (vx == r1) = b := ⟨_, rfl⟩
          rw [hel] at HT0
          rw [hem] at HT1
          clear hbl hbm
          obtain ⟨a0, a1, -, -⟩ := blk2 (HE.out.blk B5.out)
          have HAX := Lib.hid (HA5.out.ext HE.out)
          have hjI : (j : Int) < (np : Int) := by omega
          have d1 : decide (vx < r0) = false := by simp; omega
          have d2 : decide (r1 < vx) = false := by simp; omega
          clear hrg
          go_wp2_with (fail)
          go_region_held3 (fun W => W.cell? ⟨AB, 0, none⟩ = some (.slice pa na ca) ∧ W.cell? ⟨AB, 1, none⟩ = some (.int .i64 k) ∧ W.cell? ⟨gp, j, none⟩ = some (.slice qu nx cu2))
            (first | exact ⟨a0, a1, cu⟩ | exact ⟨g7.keep a0, g7.keep a1, g7.keep cu⟩ | fail)
            (first | (go_at_call 21; (with_reducible refine (EvalAffine_any (.slice pa na ca) (.slice qu nx cu2) xs x k _ (HAX.out.ext (Ext.refl wr).drew) (HU.out.ext (Ext.refl wr).drew)).mono ?_); rw [HEV.out]; rintro e w7 ⟨rfl, hE7⟩; have g7 := (Ext.refl wr).drew.trans hE7) | fail)
          have E7 := Lib.hid (HE.out.trans g7)
          clear g7 hE7 a0 a1 cu
          cases bl <;> cases bm <;> cases el <;> cases em
          all_goals
            go_wp2
            go_roundw
            case rel => exact ⟨j + 1, by omega, by go_num, by rw [HT0.out]; rfl, by rw [HT1.out]; rfl, E7.out⟩
            case measure => simp [intOf]; omega
        · obtain rfl : j = np := by omega
          have t0 : decide (r0 ∈ L.take j) = true := by rw [List.take_of_length_le (by rw [HLL.out]; exact Nat.le_refl _)]; exact decide_eq_true HLO.out
          have t1 : decide (r1 ∈ L.take j) = true := by rw [List.take_of_length_le (by rw [HLL.out]; exact Nat.le_refl _)]; exact decide_eq_true HHI.out
          rw [t0, t1]
          have EF := Lib.hid (E5.out.trans HE.out)
          clear t0 t1
          go_wp2
          go_ret
          exact ⟨rfl, EF.out⟩
  · have hd0 : decide ((1048576 : Int) < n0) = true := by simp; omega
    go_enter Try.func5, Try.ntmps5
    go_wp2
    go_ret
    exact ⟨rfl, Ext.refl w⟩
end Go.Proofs.Ytccibfldadflkaa

/- FnDirection: directions are signs, and the level that carries a distance is the first that is not equal: the walk. -/
import Derived.Test.YtclgbnilfipobabD17
import Derived.Test.YtclgbnilfipobabC2
import Derived.Test.YtclgbnilfipobabOp
import Derived.BigQuiet
import Derived.Deep.QuietTactic
namespace Go.Proofs.Ytclgbnilfipobab
open Go.RowKit Go.ChangeShapes Go.WideShapes Go.ChangeAt Go.Joins

theorem carF_ge : ∀ (l : List Int) (k : Int), 0 ≤ k → carF k l = -1 ∨ k ≤ carF k l
  | [], _, _ => .inl rfl
  | x :: r, k, hk => by
    simp only [carF]
    split
    · rcases carF_ge r (k + 1) (by omega) with h | h
      · exact .inl h
      · exact .inr (by omega)
    · exact .inr (Int.le_refl k)
theorem carF_zero {y : Int} (r : List Int) (k : Int) (h : y = 0) : carF k (y :: r) = carF (k + 1) r := by simp [carF, h]
theorem carF_nz {y : Int} (r : List Int) (k : Int) (h : ¬ y = 0) : carF k (y :: r) = k := by simp [carF, h]
theorem carF_snoc : ∀ (l : List Int) (k x : Int), 0 ≤ k → carF k (l ++ [x]) = if carF k l < 0 then (if x = 0 then -1 else k + l.length) else carF k l
  | [], k, x, hk => by simp [carF]
  | y :: r, k, x, hk => by
    rw [List.cons_append]
    by_cases h : y = 0
    · have ih := carF_snoc r (k + 1) x (by omega)
      have e : k + 1 + (r.length : Int) = k + ((y :: r).length : Int) := by simp only [List.length_cons]; omega
      rw [e] at ih
      rw [carF_zero _ _ h, carF_zero _ _ h, ih]
    · rw [carF_nz _ _ h, carF_nz _ _ h, if_neg (by omega)]
theorem carF_next {xs : List Int} {j : Nat} {x : Int} (h : xs[j]? = some x) : carF 0 (xs.take (j + 1)) = if carF 0 (xs.take j) < 0 then (if x = 0 then -1 else (j : Int)) else carF 0 (xs.take j) := by
  have hl : (xs.take j).length = j := by have := (List.getElem?_eq_some_iff.1 h).1; rw [List.length_take]; omega
  rw [take_next h, carF_snoc _ _ _ (Int.le_refl 0), hl, Int.zero_add]
theorem idxDir {S : List UInt8} {ST : ByteArray} {j : Nat} {c : UInt8} {ci : Int} (hS : ST = ⟨S.toArray⟩) (hc : S[j]? = some c) (he : ci = c.toNat) (w : World) : (Instr.index 9 (.string ST) (.int .i64 (j : Int))).run Try.prog w = .ok (.int .u8 ci) w := by
  subst hS he
  obtain ⟨hl, he⟩ := List.getElem?_eq_some_iff.1 hc
  have hsz : (ByteArray.mk S.toArray).size = S.length := by simp [ByteArray.size]
  rw [run_index_string w 9 _ .i64 _ Try.underlying9, dif_pos ⟨by omega, by rw [hsz]; omega⟩]
  have h2 : (ByteArray.mk S.toArray)[((j : Int)).toNat]'(by rw [hsz]; omega) = c := by
    simp only [Int.toNat_natCast]
    rw [← he]
    simp [ByteArray.getElem_eq_getElem_data]
  rw [h2]

set_option linter.unusedSimpArgs false in
set_option maxHeartbeats 4000000 in
set_option maxRecDepth 100000 in
theorem walkFnDirection (v0 : Value) (w : World) (h0 : RBytes w v0) :
    Calls Try.prog 5 #[v0] w fun e w' => e = .returned (.bool true) ∧ Below w.heap.size w w' := by
  obtain ⟨p0, n0, c0, rfl, hb0, hl0⟩ := h0
  have hm0 := hb0.2.1
  have HB0 := Lib.hid hb0; have HL0 := Lib.hid hl0; clear hb0 hl0
  by_cases h0 : n0 ≤ 1048576
  · go_enter Try.func5, Try.ntmps5
    go_wp2_with (fail)
    refine (DrawDirection_any p0 n0 c0 _ HB0.out HL0.out).mono ?_
    rintro e w1 ⟨⟨v, xs, rfl, hl6, hx⟩, hE1⟩
    obtain ⟨p, c, rfl, hm, -⟩ := id hx
    obtain ⟨m, hmm⟩ : ∃ m, xs.length = m := ⟨_, rfl⟩
    rw [hmm] at hx hl6 hm ⊢
    have HX := Lib.hid hx; have HM := Lib.hid hmm; have E1 := Lib.hid hE1
    clear hx hmm hE1
    go_wp2_with (fail)
    refine (Direction_any p m c xs _ HM.out HX.out).mono ?_
    rintro e w2 ⟨rfl, hE2⟩
    obtain ⟨ST, hST⟩ : ∃ ST : ByteArray, ST = ⟨(dirL xs).toArray⟩ := ⟨_, rfl⟩
    rw [← hST]
    have HST := Lib.hid hST; have E2 := Lib.hid (E1.out.trans hE2); have X2 := Lib.hid (HX.out.ext hE2)
    clear hST hE2
    go_wp2_with (fail)
    refine (CarryLevel_any p m c xs _ HM.out X2.out).mono ?_
    rintro e w3 ⟨rfl, hE3⟩
    obtain ⟨k, hk⟩ : ∃ k, carF 0 xs = k := ⟨_, rfl⟩
    rw [hk]
    have HK := Lib.hid hk; have E3 := Lib.hid (E2.out.trans hE3); have X3 := Lib.hid (X2.out.ext hE3)
    clear hk hE3
    go_wp2_with (fail)
    refine (specDirection_any p m c xs _ HM.out X3.out).mono ?_
    rw [← HST.out]
    rintro e w4 ⟨rfl, hE4⟩
    have E4 := Lib.hid (E3.out.trans hE4); have X4 := Lib.hid (X3.out.ext hE4)
    clear hE4
    go_wp2_with (fail)
    refine (specCarryLevel_any p m c xs _ HM.out X4.out).mono ?_
    rw [HK.out]
    rintro e w5 ⟨rfl, hE5⟩
    have E5 := Lib.hid (E4.out.trans hE5); have X5 := Lib.hid (X4.out.ext hE5)
    clear hE5
    by_cases h4 : m ≤ 4
    · have hm4 : decide ((4 : Int) < (m : Int)) = false := by simp; omega
      have hSz : ST.size = m := by
        rw [HST.out]
        unfold dirL dirT
        rw [if_pos (by rw [HM.out]; exact h4)]
        simp [ByteArray.size, HM.out]
      have HSG : Hid (∀ j x, xs[j]? = some x → (dirL xs)[j]? = some (sgD x)) := Lib.hid (fun j x h => by
        unfold dirL dirT
        rw [if_pos (by rw [HM.out]; exact h4), List.getElem?_map, h]; rfl)
      go_wp2
      go_loopw [6, 7] (fun f i wr => ∃ (j : Nat) (fv : Int), j ≤ m ∧ i = .int .i64 j ∧ f = .int .i64 fv ∧ carF 0 (xs.take j) = fv ∧ Ext w wr ∧ IntsAt wr (.slice p m c) xs) (fun _ i _ => m - (intOf i).toNat)
      case atStart => exact ⟨0, -1, by omega, rfl, rfl, rfl, E5.out, X5.out⟩
      case round =>
        obtain ⟨j, fv, hj, rfl, rfl, hf, hE, hX⟩ := hrel
        have HF := Lib.hid hf; have HE := Lib.hid hE; have HXX := Lib.hid hX
        obtain ⟨-, hc⟩ := hX.cl
        have HC := Lib.hid hc
        clear hf hE hX hc
        by_cases hlt : j < m
        · obtain ⟨x, hx⟩ := get_some (xs := xs) (k := j) (by rw [HM.out]; exact hlt)
          obtain ⟨b, off, rfl, hcell⟩ := HC.out j x hx
          have hnx := carF_next hx
          rw [HF.out] at hnx
          have HNX := Lib.hid hnx
          have hsg := HSG.out j x hx
          clear hx hnx
          have HFM : Hid (fv < 0 → -1 = fv) := Lib.hid (fun h => by
            rcases carF_ge (xs.take j) 0 (Int.le_refl 0) with h1 | h1
            · rw [HF.out] at h1; exact h1.symm
            · rw [HF.out] at h1; omega)
          rcases Int.lt_trichotomy x 0 with h | h | h
          · have hix := idxDir (ci := 62) HST.out hsg (by unfold sgD; rw [if_pos h]; rfl)
            have g1 : decide (x < 0) = true := by simp; omega
            have g2 : decide (0 < x) = false := by simp; omega
            by_cases hf0 : fv < 0
            · have hf1 : decide (fv < 0) = true := by simpa using hf0
              have HN2 : Hid (carF 0 (xs.take (j + 1)) = (j : Int)) := Lib.hid (by rw [HNX.out, if_pos hf0, if_neg (by omega)])
              clear hsg h hf0
              go_wp2
              go_quiet (fail)
              go_wp2
              go_roundw
              case rel => exact ⟨j + 1, _, by omega, by go_num, rfl, HN2.out, HE.out.drewN _, HXX.out.ext ((Ext.refl _).drewN _)⟩
              case measure => simp [intOf]; omega
            · have hf1 : decide (fv < 0) = false := by simpa using hf0
              have HN2 : Hid (carF 0 (xs.take (j + 1)) = fv) := Lib.hid (by rw [HNX.out, if_neg hf0])
              clear hsg h hf0
              go_wp2
              go_quiet (fail)
              go_wp2
              go_roundw
              case rel => exact ⟨j + 1, _, by omega, by go_num, rfl, HN2.out, HE.out.drewN _, HXX.out.ext ((Ext.refl _).drewN _)⟩
              case measure => simp [intOf]; omega
          · have hix := idxDir (ci := 61) HST.out hsg (by unfold sgD; rw [if_neg (by omega), if_neg (by omega)]; rfl)
            have g1 : decide (x < 0) = false := by simp; omega
            have g2 : decide (0 < x) = false := by simp; omega
            by_cases hf0 : fv < 0
            · have hf1 : decide (fv < 0) = true := by simpa using hf0
              have HN2 : Hid (carF 0 (xs.take (j + 1)) = fv) := Lib.hid (by rw [HNX.out, if_pos hf0, if_pos h, HFM.out hf0])
              clear hsg h hf0
              go_wp2
              go_quiet (fail)
              go_wp2
              go_roundw
              case rel => exact ⟨j + 1, _, by omega, by go_num, rfl, HN2.out, HE.out.drewN _, HXX.out.ext ((Ext.refl _).drewN _)⟩
              case measure => simp [intOf]; omega
            · have hf1 : decide (fv < 0) = false := by simpa using hf0
              have HN2 : Hid (carF 0 (xs.take (j + 1)) = fv) := Lib.hid (by rw [HNX.out, if_neg hf0])
              clear hsg h hf0
              go_wp2
              go_quiet (fail)
              go_wp2
              go_roundw
              case rel => exact ⟨j + 1, _, by omega, by go_num, rfl, HN2.out, HE.out.drewN _, HXX.out.ext ((Ext.refl _).drewN _)⟩
              case measure => simp [intOf]; omega
          · have hix := idxDir (ci := 60) HST.out hsg (by unfold sgD; rw [if_neg (by omega), if_pos h]; rfl)
            have g1 : decide (x < 0) = false := by simp; omega
            have g2 : decide (0 < x) = true := by simp; omega
            by_cases hf0 : fv < 0
            · have hf1 : decide (fv < 0) = true := by simpa using hf0
              have HN2 : Hid (carF 0 (xs.take (j + 1)) = (j : Int)) := Lib.hid (by rw [HNX.out, if_pos hf0, if_neg (by omega)])
              clear hsg h hf0
              go_wp2
              go_quiet (fail)
              go_wp2
              go_roundw
              case rel => exact ⟨j + 1, _, by omega, by go_num, rfl, HN2.out, HE.out.drewN _, HXX.out.ext ((Ext.refl _).drewN _)⟩
              case measure => simp [intOf]; omega
            · have hf1 : decide (fv < 0) = false := by simpa using hf0
              have HN2 : Hid (carF 0 (xs.take (j + 1)) = fv) := Lib.hid (by rw [HNX.out, if_neg hf0])
              clear hsg h hf0
              go_wp2
              go_quiet (fail)
              go_wp2
              go_roundw
              case rel => exact ⟨j + 1, _, by omega, by go_num, rfl, HN2.out, HE.out.drewN _, HXX.out.ext ((Ext.refl _).drewN _)⟩
              case measure => simp [intOf]; omega
        · obtain rfl : j = m := by omega
          obtain rfl : fv = k := by rw [← HF.out, ← HK.out, List.take_of_length_le (by rw [HM.out]; omega)]
          have hee : (fv == fv) = true := by simp
          go_wp2
          go_ret
          exact ⟨rfl, HE.out⟩
    · have hm4 : decide ((4 : Int) < (m : Int)) = true := by simp; omega
      go_wp2_with (fail)
      refine (specDirection_any p m c xs _ HM.out X5.out).mono ?_
      rw [← HST.out]
      rintro e w6 ⟨rfl, hE6⟩
      have E6 := Lib.hid (E5.out.trans hE6); have X6 := Lib.hid (X5.out.ext hE6)
      clear hE6
      go_wp2_with (fail)
      refine (specCarryLevel_any p m c xs _ HM.out X6.out).mono ?_
      rw [HK.out]
      rintro e w7 ⟨rfl, hE7⟩
      have E7 := Lib.hid (E6.out.trans hE7)
      have hee : (k == k) = true := by simp
      clear hE7
      go_wp2
      go_ret
      exact ⟨rfl, E7.out⟩
  · go_enter Try.func5, Try.ntmps5
    go_wp2
    go_ret
    exact ⟨rfl, Ext.refl w⟩
end Go.Proofs.Ytclgbnilfipobab

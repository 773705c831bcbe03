/- The texts U8, joined. No statement is proved here. -/
import Derived.Test.YtggpjapmhakklaaK12
import Derived.Test.YtggpjapmhakklaaK20
/- Misses of a cache that drops the cell used least recently: model and program (by u8.py). No statement is proved here. -/
namespace Go.Proofs.Ytggpjapmhakklaa
open Go.RowKit Go.Maps
attribute [local go_sem] Oper.semAt_some

theorem fits_any (p : Option Addr) (n c : Nat) (z : Int) (w : World) (hm : n ≤ 9223372036854775807) :
    Calls Try.prog 32 #[.slice p n c, .int .i64 z] w fun e w' => e = .returned (.bool (decide (n ≤ 600 ∧ 0 ≤ z ∧ z ≤ 40))) ∧ w' = w := by
  by_cases h1 : n ≤ 600
  · have h1I : (n : Int) ≤ 600 := by omega
    by_cases h2 : (0 : Int) ≤ z
    · by_cases h3 : z ≤ 40
      · rw [decide_eq_true (show n ≤ 600 ∧ 0 ≤ z ∧ z ≤ 40 from ⟨h1, h2, h3⟩)]
        go_enter Try.func32, Try.ntmps32
        go_wp2
        go_ret
        exact ⟨rfl, rfl⟩
      · rw [decide_eq_false (show ¬ (n ≤ 600 ∧ 0 ≤ z ∧ z ≤ 40) from fun h => h3 h.2.2)]
        go_enter Try.func32, Try.ntmps32
        go_wp2
        go_ret
        exact ⟨rfl, rfl⟩
    · rw [decide_eq_false (show ¬ (n ≤ 600 ∧ 0 ≤ z ∧ z ≤ 40) from fun h => h2 h.2.1)]
      go_enter Try.func32, Try.ntmps32
      go_wp2
      go_ret
      exact ⟨rfl, rfl⟩
  · have h1I : ¬ (n : Int) ≤ 600 := by omega
    rw [decide_eq_false (show ¬ (n ≤ 600 ∧ 0 ≤ z ∧ z ≤ 40) from fun h => h1 h.1)]
    go_enter Try.func32, Try.ntmps32
    go_wp2
    go_ret
    exact ⟨rfl, rfl⟩
theorem lru_take {xs : List Int} {z : Int} {k : Nat} {d : Int} (h : (sdL xs)[k]? = some d) : lruN xs z (k + 1) = lruN xs z k + if (decide (d < 0) || decide (z ≤ d)) = true then 1 else 0 := by
  have hk : k < xs.length := by have := (List.getElem?_eq_some_iff.1 h).1; rwa [sdL_len] at this
  obtain ⟨x, hx⟩ := get_some (xs := xs) (k := k) hk
  have e : d = sdV x (stkF (xs.take k)) := by
    unfold sdL at h
    rw [List.getElem?_map, List.getElem?_range hk, Option.map_some, List.getD_eq_getElem?_getD, hx] at h
    exact (Option.some.inj h).symm
  unfold lruN
  rw [sdP_next hx, List.filter_append, List.length_append, ← e]
  by_cases hb : (decide (d < 0) || decide (z ≤ d)) = true
  · rw [if_pos hb, List.filter_cons_of_pos (p := fun d => decide (d < 0) || decide (z ≤ d)) hb]; simp
  · rw [if_neg hb, List.filter_cons_of_neg (p := fun d => decide (d < 0) || decide (z ≤ d)) hb]; simp

set_option linter.unusedVariables false in
set_option maxRecDepth 100000 in
set_option maxHeartbeats 2000000 in
theorem specLruMisses_any (p : Option Addr) (n c : Nat) (xs : List Int) (z : Int) (w : World) (hn : xs.length = n) (hs : IntsAt w (.slice p n c) xs) :
    Calls Try.prog 9 #[.slice p n c, .int .i64 z] w fun e w' => e = .returned (.int .i64 (lruB xs z)) ∧ Ext w w' := by
  obtain ⟨hm, -⟩ := hs.cl
  have HN := Lib.hid hn; have HS := Lib.hid hs
  clear hn hs
  obtain ⟨fb, hfb⟩ : ∃ b, decide (n ≤ 600 ∧ 0 ≤ z ∧ z ≤ 40) = b := ⟨_, rfl⟩
  have HFB := Lib.hid hfb
  have HFT := fits_any p n c z w hm
  rw [hfb] at HFT
  have HFT2 := Lib.hid HFT
  clear hfb HFT
  cases fb with
  | false =>
    have HR : Hid ((-1 : Int) = lruB xs z) := Lib.hid (by unfold lruB; rw [HN.out, if_neg (of_decide_eq_false HFB.out)])
    go_enter Try.func9, Try.ntmps9
    go_wp2_with (fail)
    refine HFT2.out.mono ?_
    rintro e w1 ⟨rfl, rfl⟩
    go_wp2
    go_ret
    exact ⟨ret_i HR.out, Ext.refl _⟩
  | true =>
    obtain ⟨h6, hz0, hz1⟩ := of_decide_eq_true HFB.out
    have HR : Hid (lruN xs z n = lruB xs z) := Lib.hid (by unfold lruB; rw [HN.out, if_pos ⟨h6, hz0, hz1⟩])
    have HSB : Hid (sdB xs = sdL xs) := Lib.hid (by unfold sdB; rw [HN.out, if_pos h6])
    go_enter Try.func9, Try.ntmps9
    go_wp2_with (fail)
    refine HFT2.out.mono ?_
    rintro e w1 ⟨rfl, rfl⟩
    go_wp2_with (fail)
    refine (specStackDistances_any p n c xs _ HN.out HS.out).mono ?_
    rintro e w2 ⟨⟨v2, rfl, hv2⟩, hE2⟩
    rw [HSB.out] at hv2
    obtain ⟨q, d, rfl⟩ : ∃ q d, v2 = .slice q n d := by
      rcases hv2.2 with ⟨rfl, h0⟩ | ⟨g, cap, cur, e, _⟩
      · rw [sdL_len, HN.out] at h0; subst h0; exact ⟨_, _, rfl⟩
      · rw [sdL_len, HN.out] at e; exact ⟨_, _, e⟩
    have HV2 := Lib.hid hv2.at; have HE2 := Lib.hid hE2
    clear hv2 hE2
    go_wp2
    go_loopw [5, 7] (fun nv iv wr => ∃ k : Nat, k ≤ n ∧ iv = .int .i64 k ∧ nv = .int .i64 (lruN xs z k) ∧ Ext w2 wr) (fun _ iv _ => n - (intOf iv).toNat)
    case atStart => exact ⟨0, by omega, rfl, rfl, Ext.refl w2⟩
    case round =>
      obtain ⟨k, hk, rfl, rfl, hE⟩ := hrel
      have HE := Lib.hid hE
      clear hE
      have hbd := lruN_bd xs z k
      by_cases hlt : k < n
      · obtain ⟨dv, hd⟩ := get_some (xs := sdL xs) (k := k) (by rw [sdL_len, HN.out]; exact hlt)
        obtain ⟨-, hc⟩ := (HV2.out.ext HE.out).cl
        obtain ⟨b, off, rfl, hcell⟩ := hc k dv hd
        have hkI : (k : Int) < (n : Int) := by omega
        have HNX := Lib.hid (lru_take (z := z) hd)
        clear hc hd
        by_cases h1 : dv < 0
        · have HN1 : Hid (lruN xs z (k + 1) = lruN xs z k + 1) := Lib.hid (by rw [HNX.out, if_pos (by simp [h1])])
          go_wp2
          go_roundw
          case rel => exact ⟨k + 1, by omega, by go_num, by rw [HN1.out], HE.out⟩
          case measure => simp [intOf]; omega
        · by_cases h2 : z ≤ dv
          · have HN1 : Hid (lruN xs z (k + 1) = lruN xs z k + 1) := Lib.hid (by rw [HNX.out, if_pos (by simp [h2])])
            go_wp2
            go_roundw
            case rel => exact ⟨k + 1, by omega, by go_num, by rw [HN1.out], HE.out⟩
            case measure => simp [intOf]; omega
          · have HN1 : Hid (lruN xs z (k + 1) = lruN xs z k) := Lib.hid (by rw [HNX.out, if_neg (by simp [h1, h2]; try omega)]; try omega)
            go_wp2
            go_roundw
            case rel => exact ⟨k + 1, by omega, by go_num, by rw [HN1.out], HE.out⟩
            case measure => simp [intOf]; omega
      · obtain rfl : k = n := by omega
        go_wp2
        go_ret
        exact ⟨ret_i HR.out, HE2.out.trans HE.out⟩

theorem fit_take {l : List Int} {k : Nat} {d : Int} (h : l[k]? = some d) : fitF (l.take (k + 1)) = max (fitF (l.take k)) (d + 1) := by rw [take_next h, fitF_snoc]
theorem fitF_bd : ∀ {l : List Int}, (∀ d ∈ l, d ≤ 100000) → ∀ k, 0 ≤ fitF (l.take k) ∧ fitF (l.take k) ≤ 100001
  | l, h, 0 => by simp [fitF]
  | l, h, k + 1 => by
    have h1 := fitF_bd h k
    cases e : l[k]? with
    | none => rw [List.take_of_length_le (by have := List.getElem?_eq_none_iff.1 e; omega)]; rw [List.take_of_length_le (List.getElem?_eq_none_iff.1 e)] at h1; exact h1
    | some d => rw [fit_take e]; have := h d (List.mem_of_getElem? e); omega
theorem sdL_bd {xs : List Int} (h : xs.length ≤ 600) : ∀ d ∈ sdL xs, -1 ≤ d ∧ d ≤ 100000 := by
  intro d hd
  unfold sdL at hd
  obtain ⟨j, hj, rfl⟩ := List.mem_map.1 hd
  have hj2 : j < xs.length := List.mem_range.1 hj
  have h1 := atT_ge (xs.getD j 0) (stkF (xs.take j)) (stkF (xs.take j)).length
  have h2 := stkF_len (xs.take j)
  rw [List.length_take] at h2
  unfold sdV
  omega
theorem sdB_bd (xs : List Int) : ∀ d ∈ sdB xs, -1 ≤ d ∧ d ≤ 100000 := by
  unfold sdB
  split
  · rename_i h; exact sdL_bd h
  · simp
def fitB (xs : List Int) : Int := fitF (sdB xs)

set_option linter.unusedVariables false in
set_option maxRecDepth 100000 in
set_option maxHeartbeats 2000000 in
theorem specFitSize_any (p : Option Addr) (n c : Nat) (xs : List Int) (w : World) (hn : xs.length = n) (hs : IntsAt w (.slice p n c) xs) :
    Calls Try.prog 21 #[.slice p n c] w fun e w' => e = .returned (.int .i64 (fitB xs)) ∧ Ext w w' := by
  have HN := Lib.hid hn; have HS := Lib.hid hs
  clear hn hs
  go_enter Try.func21, Try.ntmps21
  go_wp2_with (fail)
  refine (specStackDistances_any p n c xs _ HN.out HS.out).mono ?_
  rintro e w2 ⟨⟨v2, rfl, hv2⟩, hE2⟩
  obtain ⟨rs, hrs⟩ : ∃ rs, sdB xs = rs := ⟨_, rfl⟩
  have hbd : ∀ d ∈ rs, -1 ≤ d ∧ d ≤ 100000 := by rw [← hrs]; exact sdB_bd xs
  have hlen : rs.length ≤ 600 := by rw [← hrs]; exact sdB_len xs
  have HR : Hid (fitF rs = fitB xs) := Lib.hid (by rw [← hrs]; rfl)
  rw [hrs] at hv2
  obtain ⟨q, d, rfl⟩ : ∃ q d, v2 = .slice q rs.length d := by
    rcases hv2.2 with ⟨rfl, h0⟩ | ⟨g, cap, cur, e, _⟩
    · exact ⟨none, 0, by rw [h0]⟩
    · exact ⟨_, _, e⟩
  have HV2 := Lib.hid hv2.at; have HE2 := Lib.hid hE2; have HBD := Lib.hid hbd
  obtain ⟨m, hm⟩ : ∃ m, rs.length = m := ⟨_, rfl⟩
  rw [hm] at HV2 hlen ⊢
  have HM := Lib.hid hm
  clear hv2 hE2 hbd hrs hm
  go_wp2
  go_loopw [3, 5] (fun nv iv wr => ∃ k : Nat, k ≤ m ∧ iv = .int .i64 k ∧ nv = .int .i64 (fitF (rs.take k)) ∧ Ext w2 wr) (fun _ iv _ => m - (intOf iv).toNat)
  case atStart => exact ⟨0, by omega, rfl, rfl, Ext.refl w2⟩
  case round =>
    obtain ⟨k, hk, rfl, rfl, hE⟩ := hrel
    have HE := Lib.hid hE
    clear hE
    by_cases hlt : k < m
    · obtain ⟨dv, hd⟩ := get_some (xs := rs) (k := k) (by rw [HM.out]; exact hlt)
      obtain ⟨-, hc⟩ := (HV2.out.ext HE.out).cl
      obtain ⟨b, off, rfl, hcell⟩ := hc k dv hd
      have hkI : (k : Int) < (m : Int) := by omega
      have hdb := HBD.out dv (List.mem_of_getElem? hd)
      have hfb := fitF_bd (fun d hd => (HBD.out d hd).2) k
      have HNX := Lib.hid (fit_take hd)
      obtain ⟨F, hF⟩ : ∃ F, fitF (rs.take k) = F := ⟨_, rfl⟩
      rw [hF] at HNX hfb ⊢
      clear hc hd hF
      by_cases h1 : F < dv + 1
      · have HN1 : Hid (fitF (rs.take (k + 1)) = dv + 1) := Lib.hid (by rw [HNX.out]; omega)
        go_wp2
        go_roundw
        case rel => exact ⟨k + 1, by omega, by go_num, by rw [HN1.out], HE.out⟩
        case measure => simp [intOf]; omega
      · have HN1 : Hid (fitF (rs.take (k + 1)) = F) := Lib.hid (by rw [HNX.out]; omega)
        go_wp2
        go_roundw
        case rel => exact ⟨k + 1, by omega, by go_num, by rw [HN1.out], HE.out⟩
        case measure => simp [intOf]; omega
    · obtain rfl : k = m := by omega
      have HF : Hid (fitF (rs.take k) = fitB xs) := Lib.hid (by rw [List.take_of_length_le (by rw [HM.out]; exact Nat.le_refl _)]; exact HR.out)
      go_wp2
      go_ret
      exact ⟨ret_i HF.out, HE2.out.trans HE.out⟩

set_option linter.unusedVariables false in
set_option maxRecDepth 100000 in
set_option maxHeartbeats 2000000 in
theorem FitSize_any (p : Option Addr) (n c : Nat) (xs : List Int) (w : World) (hn : xs.length = n) (hx : ∀ x ∈ xs, i64 x) (hs : IntsAt w (.slice p n c) xs) :
    Calls Try.prog 22 #[.slice p n c] w fun e w' => e = .returned (.int .i64 (fitB xs)) ∧ Ext w w' := by
  have HN := Lib.hid hn; have HS := Lib.hid hs; have HX := Lib.hid hx
  clear hn hs hx
  go_enter Try.func22, Try.ntmps22
  go_wp2_with (fail)
  refine (StackDistances_any p n c xs _ HN.out HX.out HS.out).mono ?_
  rintro e w2 ⟨⟨v2, rfl, hv2⟩, hE2⟩
  obtain ⟨rs, hrs⟩ : ∃ rs, sdB xs = rs := ⟨_, rfl⟩
  have hbd : ∀ d ∈ rs, -1 ≤ d ∧ d ≤ 100000 := by rw [← hrs]; exact sdB_bd xs
  have hlen : rs.length ≤ 600 := by rw [← hrs]; exact sdB_len xs
  have HR : Hid (fitF rs = fitB xs) := Lib.hid (by rw [← hrs]; rfl)
  rw [hrs] at hv2
  obtain ⟨q, d, rfl⟩ : ∃ q d, v2 = .slice q rs.length d := by
    rcases hv2.2 with ⟨rfl, h0⟩ | ⟨g, cap, cur, e, _⟩
    · exact ⟨none, 0, by rw [h0]⟩
    · exact ⟨_, _, e⟩
  have HV2 := Lib.hid hv2.at; have HE2 := Lib.hid hE2; have HBD := Lib.hid hbd
  obtain ⟨m, hm⟩ : ∃ m, rs.length = m := ⟨_, rfl⟩
  rw [hm] at HV2 hlen ⊢
  have HM := Lib.hid hm
  clear hv2 hE2 hbd hrs hm
  go_wp2
  go_loopw [3, 9] (fun nv iv wr => ∃ k : Nat, k ≤ m ∧ iv = .int .i64 k ∧ nv = .int .i64 (fitF (rs.take k)) ∧ Ext w2 wr) (fun _ iv _ => m - (intOf iv).toNat)
  case atStart => exact ⟨0, by omega, rfl, rfl, Ext.refl w2⟩
  case round =>
    obtain ⟨k, hk, rfl, rfl, hE⟩ := hrel
    have HE := Lib.hid hE
    clear hE
    by_cases hlt : k < m
    · obtain ⟨dv, hd⟩ := get_some (xs := rs) (k := k) (by rw [HM.out]; exact hlt)
      obtain ⟨-, hc⟩ := (HV2.out.ext HE.out).cl
      obtain ⟨b, off, rfl, hcell⟩ := hc k dv hd
      have hkI : (k : Int) < (m : Int) := by omega
      have hdb := HBD.out dv (List.mem_of_getElem? hd)
      have hfb := fitF_bd (fun d hd => (HBD.out d hd).2) k
      have HNX := Lib.hid (fit_take hd)
      obtain ⟨F, hF⟩ : ∃ F, fitF (rs.take k) = F := ⟨_, rfl⟩
      rw [hF] at HNX hfb ⊢
      clear hc hd hF
      have hwr : IntKind.i64.wrap (dv + 1) = dv + 1 := by rw [IntKind.wrap_i64]; omega
      go_wp2
      go_roundw
      case rel => exact ⟨k + 1, by omega, by go_num, by rw [HNX.out], HE.out⟩
      case measure => simp [intOf]; omega
    · obtain rfl : k = m := by omega
      have HF : Hid (fitF (rs.take k) = fitB xs) := Lib.hid (by rw [List.take_of_length_le (by rw [HM.out]; exact Nat.le_refl _)]; exact HR.out)
      go_wp2
      go_ret
      exact ⟨ret_i HF.out, HE2.out.trans HE.out⟩

end Go.Proofs.Ytggpjapmhakklaa

/- The texts Qe11, joined. No statement is proved here. -/
import Derived.Test.YtccibfldadflkaaK42
import Derived.Test.YtccibfldadflkaaK49
import Derived.Test.YtccibfldadflkaaK38
/- The model's BestMisses (by qe11.py). No statement is proved here. -/
namespace Go.Proofs.Ytccibfldadflkaa
open Go.RowKit Go.Maps

theorem IntsAt.part {w : World} {b off n c : Nat} {xs : List Int} (h : IntsAt w (.slice (some ⟨b, off, none⟩) n c) xs) {i j m d : Nat} (hi : i ≤ j) (hj : j ≤ xs.length) (hm : m = j - i) : IntsAt w (.slice (some ⟨b, off + i, none⟩) m d) ((xs.take j).drop i) := by
  obtain ⟨hm0, hc⟩ := h.cl
  obtain ⟨p', c', e, hle, -⟩ := id h
  simp only [Value.slice.injEq] at e
  subst hm
  refine ⟨some ⟨b, off + i, none⟩, d, by rw [List.length_drop, List.length_take]; congr 1; omega, by rw [List.length_drop, List.length_take]; omega, fun k x hk => ?_⟩
  rw [List.getElem?_drop, List.getElem?_take] at hk
  split at hk
  · obtain ⟨b', off', e', hcell⟩ := hc (i + k) x hk
    cases e'
    exact ⟨b, off + i, rfl, by rw [Nat.add_assoc]; exact hcell⟩
  · cases hk

theorem row_ptr {B n size : Nat} {t : TypeId} {w : World} {v : Value} {vs : List Value} (h : w.ownsRow B t size v n vs) (hg : ∃ g, v.ownBlock = some g) : ∃ g c, v = .slice (some ⟨g, 0, none⟩) n c := by
  obtain ⟨g, hg⟩ := hg
  rcases h.2 with ⟨rfl, _⟩ | ⟨g', cap, cur, rfl, _⟩
  · cases hg
  · exact ⟨g', cap, rfl⟩

set_option linter.unusedVariables false in
set_option linter.unusedSimpArgs false in
set_option maxRecDepth 100000 in
set_option maxHeartbeats 4000000 in
theorem specBestMisses_any (p : Option Addr) (n c : Nat) (xs : List Int) (z : Int) (w : World) (hn : xs.length = n) (hs : IntsAt w (.slice p n c) xs) :
    Calls Try.prog 7 #[.slice p n c, .int .i64 z] w fun e w' => e = .returned (.int .i64 (bmB xs z)) ∧ Ext w w' := by
  obtain ⟨i0, hi, hz0, hz1, hz2⟩ := info_parts infoInt
  obtain ⟨hm, -⟩ := hs.cl
  have HN := Lib.hid hn; have HS := Lib.hid hs
  clear hn hs
  obtain ⟨fb, hfb⟩ : ∃ b, decide (n ≤ 600 ∧ 0 ≤ z ∧ z ≤ 40) = b := ⟨_, rfl⟩
  have HFB := Lib.hid hfb
  have HFT := fits_any p n c z w hm
  rw [hfb] at HFT
  have HFT2 := Lib.hid HFT
  clear hfb HFT
  cases fb with
  | false =>
    have HR : Hid ((-1 : Int) = bmB xs z) := Lib.hid (by unfold bmB; rw [HN.out, if_neg (of_decide_eq_false HFB.out)])
    go_enter Try.func7, Try.ntmps7
    go_wp2_with (fail)
    refine HFT2.out.mono ?_
    rintro e w1 ⟨rfl, rfl⟩
    go_wp2
    go_ret
    exact ⟨ret_i HR.out, Ext.refl _⟩
  | true =>
    obtain ⟨h6, hz0', hz1'⟩ := of_decide_eq_true HFB.out
    obtain ⟨Z, rfl⟩ : ∃ Z : Nat, z = Z := ⟨z.toNat, by omega⟩
    have HR : Hid (mN xs Z n = bmB xs Z) := Lib.hid (by unfold bmB; rw [HN.out, if_pos ⟨h6, hz0', hz1'⟩]; rfl)
    obtain ⟨B, hB⟩ : ∃ B, w.heap.size = B := ⟨_, rfl⟩
    obtain ⟨W0, hW0⟩ : ∃ W0, w.alloc (.cells #[] 3) = W0 := ⟨_, rfl⟩
    have E0 : Hid (Ext w W0) := Lib.hid (by rw [← hW0]; exact (Ext.refl w).alloc _)
    have O1 : Hid (IntsOwn B W0 (.slice (some ⟨B, 0, none⟩) 0 0) (mH xs Z 0)) := Lib.hid (by rw [← hW0, ← hB]; exact own_empty w)
    go_enter Try.func7, Try.ntmps7
    go_wp2_with (fail)
    refine HFT2.out.mono ?_
    rintro e w1 ⟨rfl, hw1⟩
    have hw2 : w = w1 := by first | exact hw1 | exact hw1.symm
    clear hw1
    subst hw2
    go_wp2
    try rw [hW0]
    try rw [hB]
    have HHB := Lib.hid hB
    clear hW0 hB
    go_loopw [5, 6, 7] (fun nv hv iv wr => ∃ (k m q : Nat) (ch : Nat), k ≤ n ∧ nv = .int .i64 (mN xs Z k) ∧ hv = .slice (some ⟨q, 0, none⟩) m ch ∧ iv = .int .i64 k ∧ (mH xs Z k).length = m ∧ m ≤ Z ∧ IntsOwn B wr (.slice (some ⟨q, 0, none⟩) m ch) (mH xs Z k) ∧ Ext w wr) (fun _ _ iv _ => n - (intOf iv).toNat)
    case atStart => exact ⟨0, 0, B, 0, by omega, rfl, rfl, rfl, rfl, by omega, O1.out, E0.out⟩
    case round =>
      obtain ⟨k, m, q, ch, hk, rfl, rfl, rfl, hml, hmZ, hO, hE⟩ := hrel
      have HO := Lib.hid hO; have HE := Lib.hid hE; have HML := Lib.hid hml
      clear hO hE hml O1 E0
      have hmb := mN_bd xs Z k
      by_cases hlt : k < n
      · obtain ⟨x, hx⟩ := get_some (xs := xs) (k := k) (by rw [HN.out]; exact hlt)
        obtain ⟨b, off, rfl, hcell⟩ := (HS.out.ext HE.out).cl.2 k x hx
        have HSX := Lib.hid (HS.out.ext HE.out)
        have HX := Lib.hid hx
        have hgx : xs.getD k 0 = x := getD_of hx
        have HGX := Lib.hid hgx
        obtain ⟨H, hH⟩ : ∃ H, mH xs Z k = H := ⟨_, rfl⟩
        rw [hH] at HO HML
        have HNX : Hid (mH xs Z (k + 1) = if x ∈ H then H else if H.length + 1 ≤ Z then H ++ [x] else (H ++ [x]).eraseIdx (wF xs (k + 1) (H ++ [x]) H.length)) := Lib.hid (by show mSt xs Z k (mH xs Z k) = _; unfold mSt; rw [hH, hgx])
        have HCN : Hid (mN xs Z (k + 1) = mN xs Z k + if x ∈ H then 0 else 1) := Lib.hid (by show mN xs Z k + _ = _; rw [hH, hgx])
        have hkI : (k : Int) < (n : Int) := by omega
        clear hx hH hgx
        obtain ⟨hb, hhb⟩ : ∃ hb, decide (x ∈ H) = hb := ⟨_, rfl⟩
        have HHB2 := Lib.hid hhb
        go_wp2_with (fail)
        refine (l6Has_ints _ m ch x H _ HML.out HO.out.at).mono ?_
        rw [hhb]
        rintro e w2 ⟨rfl, hE2⟩
        have HE2 := Lib.hid (HE.out.trans hE2); have HO2 := Lib.hid (HO.out.ext hE2)
        have HS2 := Lib.hid (HSX.out.ext hE2)
        have hc2 := hE2.keep hcell
        clear hE2 hhb hcell
        cases hb with
        | true =>
          have hin := of_decide_eq_true HHB2.out
          have HN1 : Hid (mH xs Z (k + 1) = H) := Lib.hid (by rw [HNX.out, if_pos hin])
          have HC1 : Hid (mN xs Z (k + 1) = mN xs Z k) := Lib.hid (by rw [HCN.out, if_pos hin, Int.add_zero])
          clear hin hc2
          go_wp2
          go_roundw
          case rel => exact ⟨k + 1, m, q, ch, by omega, by rw [HC1.out], rfl, by go_num, by rw [HN1.out]; exact HML.out, hmZ, by rw [HN1.out]; exact HO2.out, HE2.out⟩
          case measure => simp [intOf]; omega
        | false =>
          have hin := of_decide_eq_false HHB2.out
          have HC1 : Hid (mN xs Z (k + 1) = mN xs Z k + 1) := Lib.hid (by rw [HCN.out, if_neg hin])
          have HN1 : Hid (mH xs Z (k + 1) = if H.length + 1 ≤ Z then H ++ [x] else (H ++ [x]).eraseIdx (wF xs (k + 1) (H ++ [x]) H.length)) := Lib.hid (by rw [HNX.out, if_neg hin])
          have hbs := HE2.out.size_le
          have hrow2 := IntsOwn.row HO2.out HML.out
          have HRX := Lib.hid (ownsRow_ext hrow2 ((Ext.refl w2).alloc (.cells #[.int .i64 x] 3)))
          clear hin hrow2
          obtain ⟨fit, hfit⟩ : ∃ b, decide (m + 1 ≤ Z) = b := ⟨_, rfl⟩
          have HFIT := Lib.hid hfit
          have hBw : B ≤ w2.heap.size := by have := HHB.out; omega
          go_wp2_with (at_builtin; refine wpList_append_own_at _ rfl (.tmp 29) (.tmp 34) 22 rfl B 3 i0 (.int .i64 0) 1 8 Try.underlying22 hi hz0 hz1 hz2 rfl (by decide) (.slice (some ⟨q, 0, none⟩) m ch) m _ rfl HRX.out ⟨w2.heap.size, 0, none⟩ 1 1 [.int .i64 x] rfl rfl (one_cell rfl) (by intro u hu; simp at hu; subst hu; rfl) (by unfold maxLen; omega) (by omega) (by simp; omega) ?_)
          intro v' w3 hown3 hgr3 hnil3 hat3
          obtain ⟨q3, c3, rfl, -⟩ := row_someQ hown3 (by omega)
          have hE3 : Ext w w3 := (HE2.out.alloc _).grown hgr3 (fun b hb => (World.ownsRow.lt HRX.out b hb).1 |> fun h => by have := HHB.out; omega)
          have HO3 : Hid (IntsOwn B w3 (.slice (some ⟨q3, 0, none⟩) (m + 1) c3) (H ++ [x])) := Lib.hid (IntsOwn.mk (by rw [List.map_append]; exact hown3) (by rw [List.length_append, HML.out]; rfl))
          have HE3 := Lib.hid hE3
          have HS3 := Lib.hid (HS.out.ext hE3)
          have HML3 : Hid ((H ++ [x]).length = m + 1) := Lib.hid (by rw [List.length_append, HML.out]; rfl)
          clear hown3 hgr3 hnil3 hat3 hE3 hc2
          obtain ⟨m1, hm1⟩ : ∃ m1, m + 1 = m1 := ⟨_, rfl⟩
          rw [hm1] at HO3 HML3 hfit
          try rw [hm1]
          cases fit with
          | true =>
            have hle := of_decide_eq_true hfit
            have hleI : (m1 : Int) ≤ (Z : Int) := by omega
            have HN2 : Hid (mH xs Z (k + 1) = H ++ [x]) := Lib.hid (by rw [HN1.out, if_pos (by rw [HML.out]; omega)])
            clear hle hfit
            go_wp2
            go_roundw
            case rel => exact ⟨k + 1, m1, q3, c3, by omega, by rw [HC1.out], rfl, by go_num, by rw [HN2.out]; exact HML3.out, by omega, by rw [HN2.out]; exact HO3.out, HE3.out⟩
            case measure => simp [intOf]; omega
          | false =>
            have hgt := of_decide_eq_false hfit
            have hgtI : ¬ (m1 : Int) ≤ (Z : Int) := by omega
            clear hfit
            go_wp2
            obtain ⟨k1, hk1⟩ : ∃ k1, k + 1 = k1 := ⟨_, rfl⟩
            have hk1I : (k : Int) + 1 = (k1 : Int) := by omega
            obtain ⟨A, hA⟩ : ∃ A, H ++ [x] = A := ⟨_, rfl⟩
            rw [hA] at HO3 HML3
            have HN2 : Hid (mH xs Z k1 = A.eraseIdx (wF xs k1 A m)) := Lib.hid (by rw [← hk1, HN1.out, if_neg (by rw [HML.out]; omega), hA, HML.out])
            have HC2 : Hid (mN xs Z k1 = mN xs Z k + 1) := Lib.hid (by rw [← hk1]; exact HC1.out)
            have hm10 : 1 ≤ m1 := by omega
            have HM1 : Hid (m + 1 = m1 ∧ k1 ≤ n ∧ m ≤ Z) := Lib.hid ⟨hm1, by omega, hmZ⟩
            have HK1 := Lib.hid hk1
            clear hA hk1
            go_loopw [8, 9] (fun wv kv wr' => ∃ j : Nat, 1 ≤ j ∧ j ≤ m1 ∧ kv = .int .i64 j ∧ wv = .int .i64 (wF xs k1 A (j - 1) : Nat) ∧ Ext w3 wr') (fun _ kv _ => m1 - (intOf kv).toNat)
            case atStart => exact ⟨1, Nat.le_refl _, hm10, rfl, rfl, Ext.refl _⟩
            case round =>
              obtain ⟨j, hj1, hj, rfl, rfl, hEj⟩ := hrel
              obtain ⟨wj, hwj⟩ : ∃ v, wF xs k1 A (j - 1) = v := ⟨_, rfl⟩
              have hwl := wF_le xs k1 A (j - 1)
              rw [hwj] at hwl ⊢
              have HWJ := Lib.hid hwj; have HEJ := Lib.hid hEj
              have HOJ := Lib.hid (HO3.out.ext hEj); have HSJ := Lib.hid (HS3.out.ext hEj)
              clear hwj hEj
              by_cases hl2 : j < m1
              · obtain ⟨y, hy⟩ := get_some (xs := A) (k := j) (by rw [HML3.out]; exact hl2)
                obtain ⟨v, hv⟩ := get_some (xs := A) (k := wj) (by rw [HML3.out]; omega)
                obtain ⟨b1, off1, e1, cy⟩ := HOJ.out.at.cl.2 j y hy
                cases e1
                obtain ⟨b1, off1, e1, cv⟩ := HOJ.out.at.cl.2 wj v hv
                cases e1
                rw [Nat.zero_add] at cy cv
                have hjI : (j : Int) < (m1 : Int) := by omega
                have hwr : IntKind.i64.wrap (k1 : Int) = (k1 : Int) := by rw [IntKind.wrap_i64]; have := HM1.out.2.1; omega
                have hwI : (wj : Int) < (m1 : Int) := by omega
                obtain ⟨ya, hya⟩ : ∃ a, nxt xs k1 y = a := ⟨_, rfl⟩
                obtain ⟨va, hva⟩ : ∃ a, nxt xs k1 v = a := ⟨_, rfl⟩
                have HCY := Lib.hid (fun W (hW : IntsAt W (.slice (some ⟨b, off, none⟩) n c) xs) => hya ▸ l10Next_any (some ⟨b, off, none⟩) n c k1 y xs W HN.out HM1.out.2.1 h6 hW)
                have HCV := Lib.hid (fun W (hW : IntsAt W (.slice (some ⟨b, off, none⟩) n c) xs) => hva ▸ l10Next_any (some ⟨b, off, none⟩) n c k1 v xs W HN.out HM1.out.2.1 h6 hW)
                have HWF : Hid (wF xs k1 A j = if va < ya then j else wj) := Lib.hid (by
                  obtain ⟨j0, rfl⟩ : ∃ j0, j = j0 + 1 := ⟨j - 1, by omega⟩
                  have h1 := HWJ.out
                  rw [Nat.add_sub_cancel] at h1
                  show (if _ then _ else _) = _
                  rw [h1, getD_of hy, getD_of hv, hya, hva])
                clear hy hv hya hva
                go_wp2_with (fail)
                go_region_held3 (fun W => W.cell? ⟨q3, j, none⟩ = some (.int .i64 y) ∧ W.cell? ⟨q3, wj, none⟩ = some (.int .i64 v)) (first | exact ⟨cy, cv⟩ | fail)
                  (first | (go_at_call 29; (with_reducible refine (HCY.out _ (HSJ.out.ext (Ext.refl _).drew)).mono ?_); rintro e wq ⟨rfl, rfl⟩) | (go_at_call 29; (with_reducible refine (HCV.out _ (HSJ.out.ext (Ext.refl _).drew)).mono ?_); rintro e wq ⟨rfl, rfl⟩) | fail)
                by_cases hg : va < ya
                · have hd : decide ((va : Int) < (ya : Int)) = true := by simpa using hg
                  have HW2 : Hid (wF xs k1 A (j + 1 - 1) = j) := Lib.hid (by rw [Nat.add_sub_cancel, HWF.out, if_pos hg])
                  go_wp2
                  go_roundw
                  case rel => exact ⟨j + 1, by omega, by omega, by go_num, by rw [HW2.out], HEJ.out.trans (Ext.refl _).drew⟩
                  case measure => simp [intOf]; omega
                · have hd : decide ((va : Int) < (ya : Int)) = false := by simpa using hg
                  have HW2 : Hid (wF xs k1 A (j + 1 - 1) = wj) := Lib.hid (by rw [Nat.add_sub_cancel, HWF.out, if_neg hg])
                  go_wp2
                  go_roundw
                  case rel => exact ⟨j + 1, by omega, by omega, by go_num, by rw [HW2.out], HEJ.out.trans (Ext.refl _).drew⟩
                  case measure => simp [intOf]; omega
              · have e : j = m1 := by omega
                subst e
                obtain ⟨v1, hv1⟩ : ∃ a, wj + 1 = a := ⟨_, rfl⟩
                have hv1I : (wj : Int) + 1 = (v1 : Int) := by omega
                have hcap := row_capU (IntsOwn.row HO3.out HML3.out)
                have hwr2 : IntKind.i64.wrap (v1 : Int) = (v1 : Int) := by rw [IntKind.wrap_i64]; have := HM1.out; omega
                have hc1 : (wj : Int) ≤ (c3 : Int) := by omega
                have hc2 : (v1 : Int) ≤ (j : Int) := by omega
                have hc3 : (j : Int) ≤ (c3 : Int) := by omega
                have HV1 := Lib.hid hv1
                have HRES : Hid (mH xs Z k1 = A.take wj ++ A.drop v1) := Lib.hid (by
                  have h1 : wF xs k1 A m = wj := by rw [← HWJ.out]; congr 1; have := HM1.out.1; omega
                  rw [HN2.out, h1, List.eraseIdx_eq_take_drop_succ, hv1])
                clear hv1
                go_wp2_with (fail)
                refine wp_region_last (S := fun _ => True) (by kernel_rfl) trivial (fun hT => ?_)
                refine tkL (some 65) 1 ?vs1 rfl (by kernel_rfl) (by kernel_rfl) (fun _ _ _ h => h) (Or.inl ⟨by rfl, ?hys1⟩) (by assumption) ?rs1
                case hys1 => intro w hSw; (try dsimp only at hSw); go_simp; first | done | with_reducible rfl
                case' rs1 => try simp only [Act.put, List.setIfInBounds_toArray, List.set_cons_zero, List.set_cons_succ]
                refine tkL (some 66) 2 ?vs2 rfl (by kernel_rfl) (by kernel_rfl) (fun _ _ _ h => h) (Or.inl ⟨by rfl, ?hys2⟩) (by assumption) ?rs2
                case hys2 => intro w hSw; (try dsimp only at hSw); go_simp; first | done | with_reducible rfl
                case' rs2 => try simp only [Act.put, List.setIfInBounds_toArray, List.set_cons_zero, List.set_cons_succ]
                refine tkL (some 67) 3 ?vs3 rfl (by kernel_rfl) (by kernel_rfl) (fun _ _ _ h => h) (Or.inl ⟨by rfl, ?hys3⟩) (by assumption) ?rs3
                case hys3 => intro w hSw; (try dsimp only at hSw); go_simp; first | done | with_reducible rfl
                case' rs3 => try simp only [Act.put, List.setIfInBounds_toArray, List.set_cons_zero, List.set_cons_succ]
                refine tkL (some 69) 5 ?vs4 rfl (by kernel_rfl) (by kernel_rfl) (fun _ _ _ h => h) (Or.inl ⟨by rfl, ?hys4⟩) (by assumption) ?rs4
                case hys4 => intro w hSw; (try dsimp only at hSw); go_simp; first | done | with_reducible rfl
                case' rs4 => try simp only [Act.put, List.setIfInBounds_toArray, List.set_cons_zero, List.set_cons_succ]
                refine tkL (some 70) 6 ?vs5 rfl (by kernel_rfl) (by kernel_rfl) (fun _ _ _ h => h) (Or.inl ⟨by rfl, ?hys5⟩) (by assumption) ?rs5
                case hys5 => intro w hSw; (try dsimp only at hSw); go_simp; first | done | with_reducible rfl
                case' rs5 => try simp only [Act.put, List.setIfInBounds_toArray, List.set_cons_zero, List.set_cons_succ]
                refine tkL (some 71) 7 ?vs6 rfl (by kernel_rfl) (by kernel_rfl) (fun _ _ _ h => h) (Or.inl ⟨by rfl, ?hys6⟩) (by assumption) ?rs6
                case hys6 => intro w hSw; (try dsimp only at hSw); go_simp; first | done | with_reducible rfl
                case' rs6 => try simp only [Act.put, List.setIfInBounds_toArray, List.set_cons_zero, List.set_cons_succ]
                refine tkL (some 72) 8 ?vs7 rfl (by kernel_rfl) (by kernel_rfl) (fun _ _ _ h => h) (Or.inl ⟨by rfl, ?hys7⟩) (by assumption) ?rs7
                case hys7 => intro w hSw; (try dsimp only at hSw); go_simp; first | done | with_reducible rfl
                case' rs7 => try simp only [Act.put, List.setIfInBounds_toArray, List.set_cons_zero, List.set_cons_succ]
                refine oneL (i := 0) rfl (by kernel_rfl) (fun K9 hK => ?_)
                go_simp
                refine hK.out _ _ trivial (fun hT2 => ?_)
                clear hK K9
                try simp only [Act.put, List.setIfInBounds_toArray, List.set_cons_zero, List.set_cons_succ]
                refine oneL (i := 4) rfl (by kernel_rfl) (fun K9 hK => ?_)
                have hrA : IntsOwn wr.heap.size (wr.drew.alloc (.cells #[] 3)) (.slice (some ⟨wr.heap.size, 0, none⟩) 0 0) [] := own_empty wr.drew
                have hEA : Ext wr (wr.drew.alloc (.cells #[] 3)) := (Ext.refl wr).drew.alloc _
                have hsA : (wr.drew.alloc (.cells #[] 3)).heap.size = wr.heap.size + 1 := by rw [World.size_alloc]; rfl
                have hsrc := (HOJ.out.at.ext hEA)
                refine step_append_ints _ rfl (.tmp 64) (.tmp 67) rfl wr.heap.size (.slice (some ⟨wr.heap.size, 0, none⟩) 0 0) 0 [] rfl hrA (some ⟨q3, 0 + 0, none⟩) wj c3 ((A.take wj).drop 0) rfl (hsrc.part (Nat.zero_le _) (by rw [HML3.out]; omega) (by omega)) (by unfold maxLen; have := HM1.out; omega) (by have := HM1.out; omega) (((Ext.refl wr).alloc _).drew.size_le) ?_
                intro v7 w7 hown7 hgr7 hat7
                rw [Nat.zero_add] at hown7
                obtain ⟨q7, d7, rfl⟩ := row_ptr hown7 (by rcases hat7 with e | e; exact ⟨_, e⟩; exact ⟨_, e⟩)
                have hE7 : Ext wr w7 := hEA.grown hgr7 (fun b hb => by simp only [Value.ownBlock, Option.some.injEq] at hb; omega)
                have hsrc7 := HOJ.out.at.ext hE7
                have hs7 := hE7.size_le
                refine hK.out _ _ trivial (fun hT3 => ?_)
                clear hK K9
                try simp only [Act.put, List.setIfInBounds_toArray, List.set_cons_zero, List.set_cons_succ]
                have hpart : IntsAt w7 (.slice (if c3 = v1 then some ⟨q3, 0, none⟩ else some ⟨q3, v1, none⟩) (j - v1) (c3 - v1)) ((A.take j).drop v1) := by
                  by_cases hc : c3 = v1
                  · have h0 : (A.take j).drop v1 = [] := List.drop_eq_nil_of_le (by rw [List.length_take, HML3.out]; omega)
                    rw [if_pos hc, h0, show j - v1 = 0 by omega]
                    exact ⟨_, _, rfl, by simp, fun i x h => by simp at h⟩
                  · rw [if_neg hc]
                    have h := hsrc7.part (i := v1) (j := j) (m := j - v1) (d := c3 - v1) (by have := HV1.out; omega) (by rw [HML3.out]; exact Nat.le_refl _) rfl
                    rwa [Nat.zero_add] at h
                refine oneL (i := 9) rfl (by kernel_rfl) (fun K9 hK => ?_)
                refine step_append_ints _ rfl (.tmp 68) (.tmp 72) rfl wr.heap.size (.slice (some ⟨q7, 0, none⟩) wj d7) wj _ rfl hown7 _ _ _ ((A.take j).drop v1) rfl hpart (by unfold maxLen; have := HM1.out; omega) (by have := HM1.out; omega) (by omega) ?_
                intro v8 w8 hown8 hgr8 hat8
                obtain ⟨q8, d8, rfl⟩ := row_ptr hown8 (by rcases hat8 with e | e; exact ⟨_, e⟩; exact ⟨_, e⟩)
                have hE8 : Ext wr w8 := hE7.grown hgr8 (fun b hb => (World.ownsRow.lt hown7 b hb).1)
                have hlist : (A.take wj).drop 0 ++ (A.take j).drop v1 = mH xs Z k1 := by
                  have htj : A.take j = A := List.take_of_length_le (by rw [HML3.out]; exact Nat.le_refl _)
                  rw [HRES.out, List.drop_zero, htj]
                have hlen : wj + (j - v1) = m := by have := HM1.out; have := HV1.out; omega
                rw [hlen, List.nil_append, hlist] at hown8
                have hwb : B ≤ wr.heap.size := by have := HE3.out.size_le; have := HEJ.out.size_le; have := HHB.out; omega
                have HO8 : Hid (IntsOwn B w8 (.slice (some ⟨q8, 0, none⟩) m d8) (mH xs Z k1)) := Lib.hid ((IntsOwn.mk hown8 (by have h := hown8.1; simpa using h)).weak hwb)
                have HE8 := Lib.hid (HE3.out.trans (HEJ.out.trans hE8))
                have HL8 : Hid ((mH xs Z k1).length = m) := Lib.hid (by have h := hown8.1; simpa using h)
                refine hK.out _ _ trivial (fun hT4 => ?_)
                clear hK K9 hown8 hown7 hgr8 hgr7 hat7 hat8 hE8 hE7 hsrc hsrc7 hrA hEA hsA
                try simp only [Act.put, List.setIfInBounds_toArray, List.set_cons_zero, List.set_cons_succ]
                try rw [hlen]
                refine lastL (i := 10) rfl (by kernel_rfl) (by kernel_rfl) (fun K9 hK => ?_)
                go_simp
                refine hK.out _ _ ?_
                clear hK K9
                try simp only [Act.put, List.setIfInBounds_toArray, List.set_cons_zero, List.set_cons_succ]
                go_wp2
                go_roundw
                case rel => exact ⟨k1, m, q8, d8, by have := HM1.out; omega, by rw [HC2.out], rfl, by have := HK1.out; go_num, HL8.out, by have := HM1.out; omega, HO8.out, HE8.out⟩
                case measure => have := HK1.out; simp [intOf]; omega
      · have e : k = n := by omega
        subst e
        go_wp2
        go_ret
        exact ⟨ret_i HR.out, HE.out⟩
end Go.Proofs.Ytccibfldadflkaa

/- A point of about a nest; the arguments of PointIn. | Draws: the arguments of NestPoints with how many loops there are, and of BoxNest. No statement is proved here. -/
import Derived.Test.YtkcbnkgegopkhaaR1
import Derived.Test.YtkcbnkgegopkhaaD4
import Derived.Test.YtkcbnkgegopkhaaQ4
import Derived.Test.YtkcbnkgegopkhaaQ5c
namespace Go.Proofs.Ytkcbnkgegopkhaa
open Go.RowKit

def Near (xs : List Int) : Prop := ∀ x ∈ xs, withinB x 9999 = true
theorem Near.pt {xs : List Int} (h : Near xs) (hl : xs.length ≤ 3) : ptB xs = true := by
  simp only [ptB, Bool.and_eq_true, decide_eq_true_eq, List.all_eq_true]
  exact ⟨by omega, h⟩
theorem Near.push {xs : List Int} {y : Int} (h : Near xs) (hy : withinB y 9999 = true) : Near (xs ++ [y]) := fun x hx => by
  rcases List.mem_append.1 hx with h1 | h1
  · exact h x h1
  · simp at h1; rw [h1]; exact hy
theorem near_num {y : Int} (h : y ∈ ([0, 1, 2, 3, -1, 9999] : List Int)) : withinB y 9999 = true := by
  simp at h
  rcases h with rfl | rfl | rfl | rfl | rfl | rfl <;> rfl




set_option linter.unusedVariables false in
set_option maxHeartbeats 4000000 in
theorem l2Spot_any (W : World) (g K : Nat) (p : Option Addr) (n c : Nat) (ls : List Lp) (w : World) (hr : Rd W g K w) (hK : K ≤ 80000) (hn : ls.length = n) (hn9 : n ≤ 900) (hs : LoopsAt w (.slice p n c) ls) :
    Calls Try.prog 63 #[.pointer (some ⟨g, 0, none⟩), .slice p n c] w fun e w' => (∃ q m d, ∃ ps : List Int, e = .returned (.slice q m d) ∧ IntsOwn w.heap.size w' (.slice q m d) ps ∧ (ps.length ≤ 3 → ptB ps = true)) ∧ Rd W g (K + n + 10) w' ∧ Dr w g w' := by
  obtain ⟨i0, hi, hz0, hz1, hz2⟩ := info_parts infoInt
  have hlg := hr.lt
  have HR := Lib.hid hr; have HS := Lib.hid hs; have HN := Lib.hid hn; clear hr hs hn
  go_enter Try.func63, Try.ntmps63
  go_wp2_with (fail)
  refine (specNestPoints_any p n c ls w HN.out HS.out).mono ?_
  rintro e w1 ⟨⟨v', b, rfl, -, ho⟩, E1⟩
  obtain ⟨q, d, rfl⟩ := ho.slice
  obtain ⟨m, hm⟩ : ∃ m, (nptsL ls).length = m := ⟨_, rfl⟩
  have hm63 : m ≤ 9223372036854775807 := by
    rw [← hm]; unfold nptsL; split
    · have := pts_bd ls ls.length [] [] (by simp); omega
    · simp
  have hm6 : m ≤ 900000 := by
    rw [← hm]; unfold nptsL; split
    · have := pts_bd ls ls.length [] [] (by simp); omega
    · simp
  have HO := Lib.hid ho
  rw [hm] at HO ⊢
  have HM := Lib.hid hm; have HE1 := Lib.hid E1; have HR1 := Lib.hid (HR.out.ext E1)
  clear hm ho E1 HR
  cases b with
  | false =>
    have HR3 := HR1; have HD3 : Hid (Dr w g w1) := Lib.hid ((Dr.refl w g).ext HE1.out)
    have HO3 : Hid ((w1.alloc (.cells #[] 3)).ownsRow w.heap.size 3 1 (.slice (some ⟨w1.heap.size, 0, none⟩) 0 0) 0 (([] : List Int).map (Value.int .i64))) := Lib.hid (World.ownsRow_made w1 #[] 0 HE1.out.size_le (Nat.zero_le _) rfl)
    clear HR1 HO
    have hlg3 := HR3.out.lt
    go_wp2
    go_loopw [7, 8] (fun v i wr => ∃ (j gv cv : Nat) (xs : List Int), j ≤ n ∧ i = .int .i64 j ∧ v = .slice (some ⟨gv, 0, none⟩) j cv ∧ xs.length = j ∧ Near xs ∧ wr.ownsRow w.heap.size 3 1 (.slice (some ⟨gv, 0, none⟩) j cv) j (xs.map (Value.int .i64)) ∧ Rd W g (K + j) wr ∧ Dr w g wr) (fun _ i _ => n - (intOf i).toNat)
    case atStart => exact ⟨0, _, 0, [], by omega, rfl, rfl, rfl, fun _ h => by simp at h, HO3.out, (HR3.out.ext ((Ext.refl _).alloc _)).mono (by omega), HD3.out.alloc _⟩
    case round =>
      clear HO3 HR3 HD3
      obtain ⟨j, gv, cv, xs, hjn, rfl, rfl, hxl, hnr, hown, hR, hD⟩ := hrel
      have HXN := Lib.hid hxl; have HNR := Lib.hid hnr; have HO := Lib.hid hown; have HR := Lib.hid hR; have HD := Lib.hid hD; clear hxl hnr hown hR hD
      by_cases hlt : j < n
      · have hji : decide ((j : Int) < (n : Int)) = true := by simp; omega
        go_wp2_with (fail)
        refine (num_any W g (K + j) wr.heap.size 6 [0, 1, 2, 3, -1, 9999] _ (HR.out.ext ((Ext.refl wr).alloc _)) (by omega) rfl (by omega) (by omega) (blk_at rfl) (by have := HR.out.lt; omega)).mono ?_
        rintro e w5 ⟨⟨y, rfl, hy⟩, h2, h3⟩
        have HNY := Lib.hid (HNR.out.push (near_num hy))
        clear hy
        have hown3 := row_dr (HO.out.alloc _) h3 hlg
        have hD3 : Dr w g w5 := (HD.out.alloc _).trans h3
        have hbs : w.heap.size ≤ w5.heap.size := hD3.size
        have H2 := Lib.hid h2; have HD3 := Lib.hid hD3
        clear h2 h3 hD3
        go_wp2_with (at_builtin; refine wpList_append_own _ rfl (.tmp 39) (.tmp 43) 37 rfl w.heap.size 3 i0 (.int .i64 0) 1 8 Try.underlying37 hi hz0 hz1 hz2 rfl (by decide) _ j _ rfl (hown3.alloc _) ⟨w5.heap.size, 0, none⟩ 1 1 [.int .i64 y] rfl rfl ?c1 ?c2 ?c3 ?c4 ?c5 ?_)
        case c1 => exact one_cell rfl
        case c2 => intro u hu; simp at hu; subst hu; rfl
        case c3 => unfold maxLen; omega
        case c4 => omega
        case c5 => simp; omega
        intro v' w6 hown' hgrow hnil
        obtain ⟨gn, cn, rfl, hcn⟩ := own_form' hown' hnil
        have hD5 : Dr w g w6 := (HD3.out.alloc _).fresh hgrow (fun b hb => (hown3.lt b hb).1)
        have hR5 : Rd W g (K + (j + 1)) w6 := ((H2.out.ext ((Ext.refl w5).alloc _)).beside hgrow (fun b hb => by have := (hown3.lt b hb).1; omega)).mono (by omega)
        have HO5 : Hid (w6.ownsRow w.heap.size 3 1 (.slice (some ⟨gn, 0, none⟩) (j + 1) cn) (j + 1) ((xs ++ [y]).map (Value.int .i64))) := Lib.hid (row_next hown')
        have HD5 := Lib.hid hD5; have HR5 := Lib.hid hR5
        clear hown' hgrow hown3 hD5 hR5 hnil
        go_wp2
        go_roundw
        case rel => exact ⟨j + 1, gn, cn, xs ++ [y], by omega, by go_num, rfl, by rw [List.length_append, HXN.out]; rfl, HNY.out, HO5.out, HR5.out, HD5.out⟩
        case measure => simp [intOf]; omega
      · obtain rfl : j = n := by omega
        have hji : decide ((j : Int) < (j : Int)) = false := by simp
        go_wp2_with (fail)
        refine (pick_any W g (K + j) 12 _ HR.out (by omega) (by omega)).mono ?_
        rintro e w5 ⟨⟨r, rfl, -⟩, h2, h3⟩
        have hown3 := row_dr HO.out h3 hlg
        have hD3 : Dr w g w5 := HD.out.trans h3
        have hbs : w.heap.size ≤ w5.heap.size := hD3.size
        have H2 := Lib.hid h2; have HD3 := Lib.hid hD3; have HO3 := Lib.hid hown3
        clear h2 h3 hD3 hown3
        by_cases hr0 : r = 0
        · subst hr0
          have hown4 := HO3.out.alloc (.cells #[.int .i64 0] 3)
          go_wp2_with (at_builtin; refine wpList_append_own _ rfl (.tmp 48) (.tmp 49) 37 rfl w.heap.size 3 i0 (.int .i64 0) 1 8 Try.underlying37 hi hz0 hz1 hz2 rfl (by decide) _ j _ rfl hown4 ⟨w5.heap.size, 0, none⟩ 1 1 [.int .i64 0] rfl rfl ?c1 ?c2 ?c3 ?c4 ?c5 ?_)
          case c1 => exact one_cell rfl
          case c2 => intro u hu; simp at hu; subst hu; rfl
          case c3 => unfold maxLen; omega
          case c4 => omega
          case c5 => simp; omega
          intro v' w6 hown' hgrow hnil
          obtain ⟨gn, cn, rfl, hcn⟩ := own_form' hown' hnil
          have HD5 : Hid (Dr w g w6) := Lib.hid ((HD3.out.alloc _).fresh hgrow (fun b hb => (hown4.lt b hb).1))
          have HR5 : Hid (Rd W g (K + j + 10) w6) := Lib.hid (((H2.out.ext ((Ext.refl w5).alloc _)).beside hgrow (fun b hb => by have := (hown4.lt b hb).1; omega)).mono (by omega))
          have HO5 := Lib.hid (IntsOwn.mk (row_next hown') (by rw [List.length_append, HXN.out]; rfl))
          clear hown' hgrow hown4 hnil
          go_wp2
          go_ret
          exact ⟨⟨_, _, _, xs ++ [0], rfl, HO5.out, (HNR.out.push rfl).pt⟩, HR5.out, HD5.out⟩
        · have hd : ((r : Int) == 0) = false := by simp [hr0]
          clear hr0
          go_wp2
          go_ret
          exact ⟨⟨_, _, _, xs, rfl, IntsOwn.mk HO3.out HXN.out, HNR.out.pt⟩, H2.out.mono (by omega), HD3.out⟩
  | true =>
    by_cases h0 : 0 < m
    · have hb0 : decide ((0 : Int) < (m : Int)) = true := by simp; omega
      go_wp2_with (fail)
      refine (pick_any W g K 3 _ HR1.out (by omega) (by omega)).mono ?_
      rintro e w2 ⟨⟨r, rfl, -⟩, h2, h3⟩
      have HR2 := Lib.hid h2; have HD2 : Hid (Dr w g w2) := Lib.hid (((Dr.refl w g).ext HE1.out).trans h3)
      have HO2 := Lib.hid (HO.out.dr h3 hlg)
      clear h2 h3 HO HR1
      by_cases hr0 : 0 < r
      · have hb1 : decide ((0 : Int) < (r : Int)) = true := by simp; omega
        go_wp2_with (fail)
        refine (pick_any W g (K + 1) m _ HR2.out (by omega) (by omega)).mono ?_
        rintro e w3 ⟨⟨k, rfl, hk⟩, h4, h5⟩
        have hkm : k < m := by have := hk (by omega); omega
        obtain ⟨gq, xs, u, rfl, hc, hu, hmem⟩ := (HO2.out.dr h5 hlg).get HM.out hkm
        obtain ⟨pu, du, rfl, -⟩ := hu.at
        have HR4 := Lib.hid h4; have HD4 : Hid (Dr w g w3) := Lib.hid (HD2.out.trans h5)
        have HU := Lib.hid hu; have HPB := Lib.hid (npts_PB hmem)
        clear hmem h4 h5 hu HO2 HR2 hk
        go_wp2
        go_ret
        exact ⟨⟨_, _, _, xs, rfl, HU.out, HPB.out.pt⟩, HR4.out.mono (by omega), HD4.out⟩
      · obtain rfl : r = 0 := by omega
        have HR3 := HR2; have HD3 := HD2
        have HO3 : Hid ((w2.alloc (.cells #[] 3)).ownsRow w.heap.size 3 1 (.slice (some ⟨w2.heap.size, 0, none⟩) 0 0) 0 (([] : List Int).map (Value.int .i64))) := Lib.hid (World.ownsRow_made w2 #[] 0 HD2.out.size (Nat.zero_le _) rfl)
        clear HR2 HO2 hr0
        have hlg3 := HR3.out.lt
        go_wp2
        go_loopw [7, 8] (fun v i wr => ∃ (j gv cv : Nat) (xs : List Int), j ≤ n ∧ i = .int .i64 j ∧ v = .slice (some ⟨gv, 0, none⟩) j cv ∧ xs.length = j ∧ Near xs ∧ wr.ownsRow w.heap.size 3 1 (.slice (some ⟨gv, 0, none⟩) j cv) j (xs.map (Value.int .i64)) ∧ Rd W g (K + 1 + j) wr ∧ Dr w g wr) (fun _ i _ => n - (intOf i).toNat)
        case atStart => exact ⟨0, _, 0, [], by omega, rfl, rfl, rfl, fun _ h => by simp at h, HO3.out, (HR3.out.ext ((Ext.refl _).alloc _)).mono (by omega), HD3.out.alloc _⟩
        case round =>
          clear HO3 HR3 HD3
          obtain ⟨j, gv, cv, xs, hjn, rfl, rfl, hxl, hnr, hown, hR, hD⟩ := hrel
          have HXN := Lib.hid hxl; have HNR := Lib.hid hnr; have HO := Lib.hid hown; have HR := Lib.hid hR; have HD := Lib.hid hD; clear hxl hnr hown hR hD
          by_cases hlt : j < n
          · have hji : decide ((j : Int) < (n : Int)) = true := by simp; omega
            go_wp2_with (fail)
            refine (num_any W g (K + 1 + j) wr.heap.size 6 [0, 1, 2, 3, -1, 9999] _ (HR.out.ext ((Ext.refl wr).alloc _)) (by omega) rfl (by omega) (by omega) (blk_at rfl) (by have := HR.out.lt; omega)).mono ?_
            rintro e w5 ⟨⟨y, rfl, hy⟩, h2, h3⟩
            have HNY := Lib.hid (HNR.out.push (near_num hy))
            clear hy
            have hown3 := row_dr (HO.out.alloc _) h3 hlg
            have hD3 : Dr w g w5 := (HD.out.alloc _).trans h3
            have hbs : w.heap.size ≤ w5.heap.size := hD3.size
            have H2 := Lib.hid h2; have HD3 := Lib.hid hD3
            clear h2 h3 hD3
            go_wp2_with (at_builtin; refine wpList_append_own _ rfl (.tmp 39) (.tmp 43) 37 rfl w.heap.size 3 i0 (.int .i64 0) 1 8 Try.underlying37 hi hz0 hz1 hz2 rfl (by decide) _ j _ rfl (hown3.alloc _) ⟨w5.heap.size, 0, none⟩ 1 1 [.int .i64 y] rfl rfl ?c1 ?c2 ?c3 ?c4 ?c5 ?_)
            case c1 => exact one_cell rfl
            case c2 => intro u hu; simp at hu; subst hu; rfl
            case c3 => unfold maxLen; omega
            case c4 => omega
            case c5 => simp; omega
            intro v' w6 hown' hgrow hnil
            obtain ⟨gn, cn, rfl, hcn⟩ := own_form' hown' hnil
            have hD5 : Dr w g w6 := (HD3.out.alloc _).fresh hgrow (fun b hb => (hown3.lt b hb).1)
            have hR5 : Rd W g (K + 1 + (j + 1)) w6 := ((H2.out.ext ((Ext.refl w5).alloc _)).beside hgrow (fun b hb => by have := (hown3.lt b hb).1; omega)).mono (by omega)
            have HO5 : Hid (w6.ownsRow w.heap.size 3 1 (.slice (some ⟨gn, 0, none⟩) (j + 1) cn) (j + 1) ((xs ++ [y]).map (Value.int .i64))) := Lib.hid (row_next hown')
            have HD5 := Lib.hid hD5; have HR5 := Lib.hid hR5
            clear hown' hgrow hown3 hD5 hR5 hnil
            go_wp2
            go_roundw
            case rel => exact ⟨j + 1, gn, cn, xs ++ [y], by omega, by go_num, rfl, by rw [List.length_append, HXN.out]; rfl, HNY.out, HO5.out, HR5.out, HD5.out⟩
            case measure => simp [intOf]; omega
          · obtain rfl : j = n := by omega
            have hji : decide ((j : Int) < (j : Int)) = false := by simp
            go_wp2_with (fail)
            refine (pick_any W g (K + 1 + j) 12 _ HR.out (by omega) (by omega)).mono ?_
            rintro e w5 ⟨⟨r, rfl, -⟩, h2, h3⟩
            have hown3 := row_dr HO.out h3 hlg
            have hD3 : Dr w g w5 := HD.out.trans h3
            have hbs : w.heap.size ≤ w5.heap.size := hD3.size
            have H2 := Lib.hid h2; have HD3 := Lib.hid hD3; have HO3 := Lib.hid hown3
            clear h2 h3 hD3 hown3
            by_cases hr0 : r = 0
            · subst hr0
              have hown4 := HO3.out.alloc (.cells #[.int .i64 0] 3)
              go_wp2_with (at_builtin; refine wpList_append_own _ rfl (.tmp 48) (.tmp 49) 37 rfl w.heap.size 3 i0 (.int .i64 0) 1 8 Try.underlying37 hi hz0 hz1 hz2 rfl (by decide) _ j _ rfl hown4 ⟨w5.heap.size, 0, none⟩ 1 1 [.int .i64 0] rfl rfl ?c1 ?c2 ?c3 ?c4 ?c5 ?_)
              case c1 => exact one_cell rfl
              case c2 => intro u hu; simp at hu; subst hu; rfl
              case c3 => unfold maxLen; omega
              case c4 => omega
              case c5 => simp; omega
              intro v' w6 hown' hgrow hnil
              obtain ⟨gn, cn, rfl, hcn⟩ := own_form' hown' hnil
              have HD5 : Hid (Dr w g w6) := Lib.hid ((HD3.out.alloc _).fresh hgrow (fun b hb => (hown4.lt b hb).1))
              have HR5 : Hid (Rd W g (K + j + 10) w6) := Lib.hid (((H2.out.ext ((Ext.refl w5).alloc _)).beside hgrow (fun b hb => by have := (hown4.lt b hb).1; omega)).mono (by omega))
              have HO5 := Lib.hid (IntsOwn.mk (row_next hown') (by rw [List.length_append, HXN.out]; rfl))
              clear hown' hgrow hown4 hnil
              go_wp2
              go_ret
              exact ⟨⟨_, _, _, xs ++ [0], rfl, HO5.out, (HNR.out.push rfl).pt⟩, HR5.out, HD5.out⟩
            · have hd : ((r : Int) == 0) = false := by simp [hr0]
              clear hr0
              go_wp2
              go_ret
              exact ⟨⟨_, _, _, xs, rfl, IntsOwn.mk HO3.out HXN.out, HNR.out.pt⟩, H2.out.mono (by omega), HD3.out⟩
    · obtain rfl : m = 0 := by omega
      have HR3 := HR1; have HD3 : Hid (Dr w g w1) := Lib.hid ((Dr.refl w g).ext HE1.out)
      have HO3 : Hid ((w1.alloc (.cells #[] 3)).ownsRow w.heap.size 3 1 (.slice (some ⟨w1.heap.size, 0, none⟩) 0 0) 0 (([] : List Int).map (Value.int .i64))) := Lib.hid (World.ownsRow_made w1 #[] 0 HE1.out.size_le (Nat.zero_le _) rfl)
      clear HR1 HO h0
      have hlg3 := HR3.out.lt
      go_wp2
      go_loopw [7, 8] (fun v i wr => ∃ (j gv cv : Nat) (xs : List Int), j ≤ n ∧ i = .int .i64 j ∧ v = .slice (some ⟨gv, 0, none⟩) j cv ∧ xs.length = j ∧ Near xs ∧ wr.ownsRow w.heap.size 3 1 (.slice (some ⟨gv, 0, none⟩) j cv) j (xs.map (Value.int .i64)) ∧ Rd W g (K + j) wr ∧ Dr w g wr) (fun _ i _ => n - (intOf i).toNat)
      case atStart => exact ⟨0, _, 0, [], by omega, rfl, rfl, rfl, fun _ h => by simp at h, HO3.out, (HR3.out.ext ((Ext.refl _).alloc _)).mono (by omega), HD3.out.alloc _⟩
      case round =>
        clear HO3 HR3 HD3
        obtain ⟨j, gv, cv, xs, hjn, rfl, rfl, hxl, hnr, hown, hR, hD⟩ := hrel
        have HXN := Lib.hid hxl; have HNR := Lib.hid hnr; have HO := Lib.hid hown; have HR := Lib.hid hR; have HD := Lib.hid hD; clear hxl hnr hown hR hD
        by_cases hlt : j < n
        · have hji : decide ((j : Int) < (n : Int)) = true := by simp; omega
          go_wp2_with (fail)
          refine (num_any W g (K + j) wr.heap.size 6 [0, 1, 2, 3, -1, 9999] _ (HR.out.ext ((Ext.refl wr).alloc _)) (by omega) rfl (by omega) (by omega) (blk_at rfl) (by have := HR.out.lt; omega)).mono ?_
          rintro e w5 ⟨⟨y, rfl, hy⟩, h2, h3⟩
          have HNY := Lib.hid (HNR.out.push (near_num hy))
          clear hy
          have hown3 := row_dr (HO.out.alloc _) h3 hlg
          have hD3 : Dr w g w5 := (HD.out.alloc _).trans h3
          have hbs : w.heap.size ≤ w5.heap.size := hD3.size
          have H2 := Lib.hid h2; have HD3 := Lib.hid hD3
          clear h2 h3 hD3
          go_wp2_with (at_builtin; refine wpList_append_own _ rfl (.tmp 39) (.tmp 43) 37 rfl w.heap.size 3 i0 (.int .i64 0) 1 8 Try.underlying37 hi hz0 hz1 hz2 rfl (by decide) _ j _ rfl (hown3.alloc _) ⟨w5.heap.size, 0, none⟩ 1 1 [.int .i64 y] rfl rfl ?c1 ?c2 ?c3 ?c4 ?c5 ?_)
          case c1 => exact one_cell rfl
          case c2 => intro u hu; simp at hu; subst hu; rfl
          case c3 => unfold maxLen; omega
          case c4 => omega
          case c5 => simp; omega
          intro v' w6 hown' hgrow hnil
          obtain ⟨gn, cn, rfl, hcn⟩ := own_form' hown' hnil
          have hD5 : Dr w g w6 := (HD3.out.alloc _).fresh hgrow (fun b hb => (hown3.lt b hb).1)
          have hR5 : Rd W g (K + (j + 1)) w6 := ((H2.out.ext ((Ext.refl w5).alloc _)).beside hgrow (fun b hb => by have := (hown3.lt b hb).1; omega)).mono (by omega)
          have HO5 : Hid (w6.ownsRow w.heap.size 3 1 (.slice (some ⟨gn, 0, none⟩) (j + 1) cn) (j + 1) ((xs ++ [y]).map (Value.int .i64))) := Lib.hid (row_next hown')
          have HD5 := Lib.hid hD5; have HR5 := Lib.hid hR5
          clear hown' hgrow hown3 hD5 hR5 hnil
          go_wp2
          go_roundw
          case rel => exact ⟨j + 1, gn, cn, xs ++ [y], by omega, by go_num, rfl, by rw [List.length_append, HXN.out]; rfl, HNY.out, HO5.out, HR5.out, HD5.out⟩
          case measure => simp [intOf]; omega
        · obtain rfl : j = n := by omega
          have hji : decide ((j : Int) < (j : Int)) = false := by simp
          go_wp2_with (fail)
          refine (pick_any W g (K + j) 12 _ HR.out (by omega) (by omega)).mono ?_
          rintro e w5 ⟨⟨r, rfl, -⟩, h2, h3⟩
          have hown3 := row_dr HO.out h3 hlg
          have hD3 : Dr w g w5 := HD.out.trans h3
          have hbs : w.heap.size ≤ w5.heap.size := hD3.size
          have H2 := Lib.hid h2; have HD3 := Lib.hid hD3; have HO3 := Lib.hid hown3
          clear h2 h3 hD3 hown3
          by_cases hr0 : r = 0
          · subst hr0
            have hown4 := HO3.out.alloc (.cells #[.int .i64 0] 3)
            go_wp2_with (at_builtin; refine wpList_append_own _ rfl (.tmp 48) (.tmp 49) 37 rfl w.heap.size 3 i0 (.int .i64 0) 1 8 Try.underlying37 hi hz0 hz1 hz2 rfl (by decide) _ j _ rfl hown4 ⟨w5.heap.size, 0, none⟩ 1 1 [.int .i64 0] rfl rfl ?c1 ?c2 ?c3 ?c4 ?c5 ?_)
            case c1 => exact one_cell rfl
            case c2 => intro u hu; simp at hu; subst hu; rfl
            case c3 => unfold maxLen; omega
            case c4 => omega
            case c5 => simp; omega
            intro v' w6 hown' hgrow hnil
            obtain ⟨gn, cn, rfl, hcn⟩ := own_form' hown' hnil
            have HD5 : Hid (Dr w g w6) := Lib.hid ((HD3.out.alloc _).fresh hgrow (fun b hb => (hown4.lt b hb).1))
            have HR5 : Hid (Rd W g (K + j + 10) w6) := Lib.hid (((H2.out.ext ((Ext.refl w5).alloc _)).beside hgrow (fun b hb => by have := (hown4.lt b hb).1; omega)).mono (by omega))
            have HO5 := Lib.hid (IntsOwn.mk (row_next hown') (by rw [List.length_append, HXN.out]; rfl))
            clear hown' hgrow hown4 hnil
            go_wp2
            go_ret
            exact ⟨⟨_, _, _, xs ++ [0], rfl, HO5.out, (HNR.out.push rfl).pt⟩, HR5.out, HD5.out⟩
          · have hd : ((r : Int) == 0) = false := by simp [hr0]
            clear hr0
            go_wp2
            go_ret
            exact ⟨⟨_, _, _, xs, rfl, IntsOwn.mk HO3.out HXN.out, HNR.out.pt⟩, H2.out.mono (by omega), HD3.out⟩

set_option linter.unusedVariables false in
set_option maxHeartbeats 4000000 in
theorem DrawPointIn_any (p : Option Addr) (n c : Nat) (w : World) (hs : BytesAt w p n c) (hlt : ∀ b off, 0 < n → p = some ⟨b, off, none⟩ → b < w.heap.size) :
    Calls Try.prog 25 #[.slice p n c] w fun e w' => (∃ q m d q' m' d', ∃ (ls : List Lp) (ps : List Int), e = .returned (.tuple #[.slice (some ⟨q, 0, none⟩) m d, .slice q' m' d']) ∧ ls.length = m ∧ ps.length = m' ∧ (nestB ls = true → m' = m → ptB ps = true) ∧ m' ≤ d' ∧ LoopsAt w' (.slice (some ⟨q, 0, none⟩) m d) ls ∧ IntsAt w' (.slice q' m' d') ps) ∧ Ext w w' := by
  have HS := Lib.hid hs; have HL := Lib.hid hlt; clear hs hlt
  go_enter Try.func25, Try.ntmps25
  go_wp2_with (fail)
  refine (l16Open_any p n c w HS.out HL.out).mono ?_
  rintro e w1 ⟨g, rfl, hR, hE⟩
  have H1 := Lib.hid hR
  have hlg := hR.lt
  clear hR hE
  go_wp2_with (fail)
  refine (l2Nest_any w g 0 _ H1.out (by omega)).mono ?_
  rintro e w2 ⟨⟨q2, n2, c2, l2, rfl, hl2, hf2, hv2⟩, h4, h5⟩
  have H2 := Lib.hid h4; have HL2 := Lib.hid hl2; have HF2 := Lib.hid hf2; have HV2 := Lib.hid hv2.at
  have hs2 : w1.heap.size ≤ w2.heap.size := h5.size
  clear h4 h5 H1 hl2 hf2 hv2
  go_wp2_with (fail)
  refine (l2MutateN_any w g 30 3 _ n2 c2 l2 _ H2.out (by omega) HL2.out HV2.out HF2.out (by omega)).mono ?_
  rintro e w3 ⟨⟨q3, n3, c3, l3, rfl, hl3, hlen, hf3, hv3⟩, h4, h5⟩
  have H3 := Lib.hid h4; have HL3 := Lib.hid hl3; have hf9 := hf3.1; have HV3 := Lib.hid hv3
  rw [hl3] at hf9
  have hl23 := HF2.out.1
  rw [HL2.out] at hl23
  have HLEN : Hid (nestB l3 = true → n3 ≤ 3) := Lib.hid (fun h => by have := (nestB_iff.1 h).1; rw [hl3] at this hlen; omega)
  clear hlen hl23
  clear h4 h5 hl3 hf3 hv3 H2 HV2
  go_wp2_with (fail)
  refine (l2Spot_any w g 33 _ n3 c3 l3 _ H3.out (by omega) HL3.out (by omega) HV3.out.at).mono ?_
  rintro e w4 ⟨⟨q4, n4, c4, ps, rfl, hu, hpt⟩, h4, h5⟩
  have EV : Ext w w4 := by obtain ⟨_, _, _, _, _, _, _, _, h, _⟩ := h4; exact h
  have hc4 := hu.cap
  have hlp : ps.length = n4 := by obtain ⟨_, _, e, -⟩ := hu.at; simp only [Value.slice.injEq] at e; exact e.2.1.symm
  have HEV := Lib.hid EV; have HV4 := Lib.hid (LoopsOwn.dr HV3.out h5 (by omega)).at; have HU := Lib.hid hu.at
  have HLP := Lib.hid hlp
  have HPT : Hid (nestB l3 = true → n4 = n3 → ptB ps = true) := Lib.hid (fun h e => hpt (by have := HLEN.out h; omega))
  clear h4 h5 EV hu H3 HV3 hlp hpt HLEN
  go_wp2
  exact bodyPost_ret (v := .tuple #[.slice (some ⟨q3, 0, none⟩) n3 c3, .slice q4 n4 c4]) (by simp [results, Try.results25, go_sem]) rfl ⟨⟨_, _, _, _, _, _, l3, ps, rfl, HL3.out, HLP.out, HPT.out, hc4, HV4.out, HU.out⟩, HEV.out⟩
end Go.Proofs.Ytkcbnkgegopkhaa

namespace Go.Proofs.Ytkcbnkgegopkhaa
open Go.RowKit

set_option maxHeartbeats 4000000 in
theorem DrawNestValidN_any (p : Option Addr) (n c : Nat) (w : World) (hs : BytesAt w p n c) (hlt : ∀ b off, 0 < n → p = some ⟨b, off, none⟩ → b < w.heap.size) :
    Calls Try.prog 56 #[.slice p n c] w fun e w' => (∃ q m d, ∃ ls : List Lp, e = .returned (.slice (some ⟨q, 0, none⟩) m d) ∧ ls.length = m ∧ m ≤ 900 ∧ (nestB ls = true → m ≤ 3) ∧ m ≤ d ∧ LoopsAt w' (.slice (some ⟨q, 0, none⟩) m d) ls) ∧ Ext w w' := by
  have HS := Lib.hid hs; have HL := Lib.hid hlt; clear hs hlt
  go_enter Try.func56, Try.ntmps56
  go_wp2_with (fail)
  refine (l16Open_any p n c w HS.out HL.out).mono ?_
  rintro e w1 ⟨g, rfl, hR, hE⟩
  have H1 := Lib.hid hR
  clear hR hE
  go_wp2_with (fail)
  refine (l2Nest_any w g 0 _ H1.out (by omega)).mono ?_
  rintro e w2 ⟨⟨q2, n2, c2, l2, rfl, hl2, hf2, hv2⟩, h4, h5⟩
  have H2 := Lib.hid h4; have HL2 := Lib.hid hl2; have HF2 := Lib.hid hf2; have HV2 := Lib.hid hv2.at
  clear h4 h5 H1 hl2 hf2 hv2
  go_wp2_with (fail)
  refine (l2MutateN_any w g 30 3 _ n2 c2 l2 _ H2.out (by omega) HL2.out HV2.out HF2.out (by omega)).mono ?_
  rintro e w3 ⟨⟨q3, n3, c3, l3, rfl, hl3, hlen, hf3, hv3⟩, h4, h5⟩
  have EV : Ext w w3 := by obtain ⟨_, _, _, _, _, _, _, _, h, _⟩ := h4; exact h
  have hf9 := hf3.1
  rw [hl3] at hf9
  have hl23 := HF2.out.1
  rw [HL2.out] at hl23
  have HLEN : Hid (nestB l3 = true → n3 ≤ 3) := Lib.hid (fun h => by have := (nestB_iff.1 h).1; rw [hl3] at this hlen; omega)
  have hmd : n3 ≤ c3 := by
    obtain ⟨vs, ho, _⟩ := hv3
    rcases ho.2 with ⟨e, _⟩ | ⟨g', cap, cur, e, _, _, h1, _⟩
    · cases e
    · cases e; omega
  have HEV := Lib.hid EV; have HL3 := Lib.hid hl3; have HV3 := Lib.hid hv3.at
  clear h4 h5 EV hl3 hf3 hv3 H2 HV2 hlen hl23
  go_wp2
  go_ret
  exact ⟨⟨_, _, _, l3, rfl, HL3.out, by omega, HLEN.out, hmd, HV3.out⟩, HEV.out⟩

set_option maxHeartbeats 4000000 in
theorem DrawNestPointsN_any (p : Option Addr) (n c : Nat) (w : World) (hs : BytesAt w p n c) (hlt : ∀ b off, 0 < n → p = some ⟨b, off, none⟩ → b < w.heap.size) :
    Calls Try.prog 21 #[.slice p n c] w fun e w' => (∃ q m d, ∃ ls : List Lp, e = .returned (.slice (some ⟨q, 0, none⟩) m d) ∧ ls.length = m ∧ m ≤ 900 ∧ (nestB ls = true → m ≤ 3) ∧ m ≤ d ∧ LoopsAt w' (.slice (some ⟨q, 0, none⟩) m d) ls) ∧ Ext w w' := by
  have HS := Lib.hid hs; have HL := Lib.hid hlt; clear hs hlt
  go_enter Try.func21, Try.ntmps21
  go_wp2_with (fail)
  refine (DrawNestValidN_any p n c w HS.out HL.out).mono ?_
  rintro e w3 ⟨⟨q3, n3, c3, l3, rfl, hl3, h9, hf3, hmd, hv3⟩, hE⟩
  have HEV := Lib.hid hE; have HL3 := Lib.hid hl3; have HF3 := Lib.hid hf3; have HV3 := Lib.hid hv3
  clear hE hl3 hf3 hv3
  go_wp2
  go_ret
  exact ⟨⟨_, _, _, l3, rfl, HL3.out, h9, HF3.out, hmd, HV3.out⟩, HEV.out⟩

set_option linter.unusedVariables false in
set_option maxHeartbeats 4000000 in
theorem DrawBoxNest_any (p : Option Addr) (n c : Nat) (w : World) (hs : BytesAt w p n c) (hlt : ∀ b off, 0 < n → p = some ⟨b, off, none⟩ → b < w.heap.size) :
    Calls Try.prog 28 #[.slice p n c] w fun e w' => (∃ v, ∃ ns : List Int, e = .returned v ∧ IntsAt w' v ns ∧ ns.length ≤ 5) ∧ Ext w w' := by
  obtain ⟨i0, hi, hz0, hz1, hz2⟩ := info_parts infoInt
  have HS := Lib.hid hs; have HL := Lib.hid hlt; clear hs hlt
  go_enter Try.func28, Try.ntmps28
  go_wp2_with (fail)
  refine (l16Open_any p n c w HS.out HL.out).mono ?_
  rintro e w1 ⟨g, rfl, hR, hE⟩
  have H1 := Lib.hid hR
  have hlg := hR.lt
  have hE1 := hE.size_le
  have HE1 := Lib.hid hE
  clear hR hE
  go_wp2_with (fail)
  refine (num_any _ g 0 (w1.heap.size + 1) 6 [2, 1, 3, 0, 4, 5] _ (H1.out.ext (((Ext.refl w1).alloc _).alloc _)) (by omega) rfl (by omega) (by omega) (blk_at (by simp)) (by omega)).mono ?_
  rintro e w2 ⟨⟨y, rfl, hy⟩, h2, h3⟩
  obtain ⟨r0, rfl, hr0⟩ : ∃ r : Nat, y = (r : Int) ∧ r ≤ 5 := by
    simp at hy
    rcases hy with rfl | rfl | rfl | rfl | rfl | rfl
    · exact ⟨2, rfl, by omega⟩
    · exact ⟨1, rfl, by omega⟩
    · exact ⟨3, rfl, by omega⟩
    · exact ⟨0, rfl, by omega⟩
    · exact ⟨4, rfl, by omega⟩
    · exact ⟨5, rfl, by omega⟩
  have HO2 : Hid (w2.ownsRow w1.heap.size 3 1 (.slice (some ⟨w1.heap.size, 0, none⟩) 0 0) 0 (([] : List Int).map (Value.int .i64))) := Lib.hid (row_dr ((World.ownsRow_made w1 #[] 0 (Nat.le_refl _) (Nat.zero_le _) rfl).alloc _) h3 hlg)
  have H2 := Lib.hid h2
  have HD2 : Hid (Dr w1 g w2) := Lib.hid ((((Dr.refl w1 g).alloc _).alloc _).trans h3)
  clear h2 h3 hy H1
  go_wp2
  go_loopw [4, 5] (fun v i wr => ∃ (j gv cv r : Nat) (xs : List Int), j + r ≤ 5 ∧ i = .int .i64 r ∧ v = .slice (some ⟨gv, 0, none⟩) j cv ∧ xs.length = j ∧ wr.ownsRow w1.heap.size 3 1 (.slice (some ⟨gv, 0, none⟩) j cv) j (xs.map (Value.int .i64)) ∧ Rd w g (1 + j) wr ∧ Dr w1 g wr) (fun _ i _ => (intOf i).toNat)
  case atStart => exact ⟨0, _, 0, r0, [], by omega, rfl, rfl, rfl, HO2.out, H2.out.mono (by omega), HD2.out⟩
  case round =>
    clear HO2 H2 HD2
    obtain ⟨j, gv, cv, r, xs, hjr, rfl, rfl, hxl, hown, hR, hD⟩ := hrel
    have HXN := Lib.hid hxl; have HO := Lib.hid hown; have HR := Lib.hid hR; have HD := Lib.hid hD; clear hxl hown hR hD
    by_cases hlt : 0 < r
    · have hji : decide ((0 : Int) < (r : Int)) = true := by simp; omega
      go_wp2_with (fail)
      refine (num_any w g (1 + j) wr.heap.size 9 [2, 3, 1, 0, 4, 2, 99, 100, -1] _ (HR.out.ext ((Ext.refl wr).alloc _)) (by omega) rfl (by omega) (by omega) (blk_at rfl) (by have := HR.out.lt; omega)).mono ?_
      rintro e w5 ⟨⟨y, rfl, hy⟩, h2, h3⟩
      clear hy
      have hown3 := row_dr (HO.out.alloc _) h3 hlg
      have hD3 : Dr w1 g w5 := (HD.out.alloc _).trans h3
      have hbs : w1.heap.size ≤ w5.heap.size := hD3.size
      have H2 := Lib.hid h2; have HD3 := Lib.hid hD3
      clear h2 h3 hD3
      go_wp2_with (at_builtin; refine wpList_append_own _ rfl (.tmp 16) (.tmp 20) 37 rfl w1.heap.size 3 i0 (.int .i64 0) 1 8 Try.underlying37 hi hz0 hz1 hz2 rfl (by decide) _ j _ rfl (hown3.alloc _) ⟨w5.heap.size, 0, none⟩ 1 1 [.int .i64 y] rfl rfl ?c1 ?c2 ?c3 ?c4 ?c5 ?_)
      case c1 => exact one_cell rfl
      case c2 => intro u hu; simp at hu; subst hu; rfl
      case c3 => unfold maxLen; omega
      case c4 => omega
      case c5 => simp; omega
      intro v' w6 hown' hgrow hnil
      obtain ⟨gn, cn, rfl, hcn⟩ := own_form' hown' hnil
      have hD5 : Dr w1 g w6 := (HD3.out.alloc _).fresh hgrow (fun b hb => (hown3.lt b hb).1)
      have hR5 : Rd w g (1 + (j + 1)) w6 := ((H2.out.ext ((Ext.refl w5).alloc _)).beside hgrow (fun b hb => by have := (hown3.lt b hb).1; omega)).mono (by omega)
      have HO5 : Hid (w6.ownsRow w1.heap.size 3 1 (.slice (some ⟨gn, 0, none⟩) (j + 1) cn) (j + 1) ((xs ++ [y]).map (Value.int .i64))) := Lib.hid (row_next hown')
      have HD5 := Lib.hid hD5; have HR5 := Lib.hid hR5
      clear hown' hgrow hown3 hD5 hR5 hnil
      go_wp2
      go_roundw
      case rel => exact ⟨j + 1, gn, cn, r - 1, xs ++ [y], by omega, by go_num, rfl, by rw [List.length_append, HXN.out]; rfl, HO5.out, HR5.out, HD5.out⟩
      case measure => simp [intOf]; omega
    · obtain rfl : r = 0 := by omega
      have EV : Ext w wr := by obtain ⟨_, _, _, _, _, _, _, _, h, _⟩ := HR.out; exact h
      have HEV := Lib.hid EV
      have HAT := Lib.hid (row_at HO.out HXN.out)
      have hx5 : xs.length ≤ 5 := by rw [HXN.out]; omega
      clear EV
      go_wp2
      go_ret
      exact ⟨⟨_, xs, rfl, HAT.out, hx5⟩, HEV.out⟩
end Go.Proofs.Ytkcbnkgegopkhaa

/- Draws: a place. -/
import Derived.Test.YtcpbfefgjpimiaaDoorD3
namespace Go.Proofs.YtcpbfefgjpimiaaDoor
open Go.RowKit

/-- One element more in a row of the call's own. -/
theorem row_next {B n : Nat} {w : World} {v : Value} {xs : List Int} {y : Int} (h : w.ownsRow B 3 1 v (n + 1) (xs.map (Value.int .i64) ++ [Value.int .i64 y])) : w.ownsRow B 3 1 v (n + 1) ((xs ++ [y]).map (Value.int .i64)) := by
  rw [List.map_append]; exact h

set_option maxHeartbeats 4000000 in
theorem l1Place_any (W : World) (g K : Nat) (w : World) (hr : Rd W g K w) (hK : K ≤ 90000) :
    Calls Tryd.prog 47 #[.pointer (some ⟨g, 0, none⟩)] w fun e w' => (∃ b n c, ∃ xs : List Int, e = .returned (.slice (some ⟨b, 0, none⟩) n c) ∧ xs.length = n ∧ n ≤ 6 ∧ w'.ownsRow w.heap.size 3 1 (.slice (some ⟨b, 0, none⟩) n c) n (xs.map (Value.int .i64))) ∧ Rd W g (K + 8) w' ∧ Dr w g w' := by
  obtain ⟨i0, hi, hz0, hz1, hz2⟩ := info_parts infoInt
  have hlg := hr.lt
  have HR := Lib.hid hr; clear hr
  have HOut : Hid ((w.alloc (.cells #[] 3)).ownsRow w.heap.size 3 1 (.slice (some ⟨w.heap.size, 0, none⟩) 0 0) 0 (([] : List Int).map (Value.int .i64))) := Lib.hid (World.ownsRow_made w #[] 0 (Nat.le_refl _) (Nat.zero_le _) rfl)
  go_enter Tryd.func47, Tryd.ntmps47
  go_wp2_with (fail)
  refine (num_any W g K (w.heap.size + 1) 5 [2, 4, 3, 1, 0] _ (HR.out.ext (((Ext.refl w).alloc _).alloc _)) (by omega) rfl (by omega) (by omega) (blk_at (by simp)) (by omega)).mono ?_
  rintro e w1 ⟨⟨x, rfl, hx⟩, h2, h3⟩
  have hO1 := row_dr (HOut.out.alloc _) h3 hlg
  have hD1 : Dr w g w1 := (((Dr.refl w g).alloc _).alloc _).trans h3
  obtain ⟨j0, hj0, rfl⟩ : ∃ j : Nat, j ≤ 4 ∧ x = (j : Int) := by
    simp only [List.mem_cons, List.not_mem_nil, or_false] at hx
    rcases hx with rfl | rfl | rfl | rfl | rfl
    · exact ⟨2, by omega, rfl⟩
    · exact ⟨4, by omega, rfl⟩
    · exact ⟨3, by omega, rfl⟩
    · exact ⟨1, by omega, rfl⟩
    · exact ⟨0, by omega, rfl⟩
  have HO1 := Lib.hid hO1; have HD1 := Lib.hid hD1; have H2 := Lib.hid h2
  clear hO1 hD1 h2 h3 hx HR HOut
  go_wp2
  go_loopw [3, 4] (fun v i wr => ∃ j n : Nat, ∃ xs : List Int, i = .int .i64 j ∧ j ≤ 4 ∧ n + j ≤ 4 ∧ xs.length = n ∧ wr.ownsRow w.heap.size 3 1 v n (xs.map (Value.int .i64)) ∧ Rd W g (K + 5 - j) wr ∧ Dr w g wr ∧ v ≠ .slice none 0 0) (fun _ i _ => (intOf i).toNat)
  case atStart => exact ⟨j0, 0, [], rfl, hj0, by omega, rfl, HO1.out, H2.out.mono (by omega), HD1.out, by simp⟩
  case round =>
    clear HO1 HD1 H2
    obtain ⟨j, n, xs, rfl, hj, hnj, hxn, hown, hR, hD, hne⟩ := hrel
    have HNE := Lib.hid hne; clear hne
    have hlg' := hR.lt
    have hsz : w.heap.size ≤ wr.heap.size := hD.size
    have HO := Lib.hid hown; have HR := Lib.hid hR; have HD := Lib.hid hD; have HXN := Lib.hid hxn
    clear hown hR hD hxn
    by_cases hj0 : 0 < j
    · have hji : (0 : Int) < (j : Int) := by omega
      go_wp2_with (fail)
      refine (num_any W g (K + 5 - j) wr.heap.size 7 [0, 1, 2, -1, 3, 50, 9999] _ (HR.out.ext ((Ext.refl wr).alloc _)) (by omega) rfl (by omega) (by omega) (blk_at rfl) (by omega)).mono ?_
      rintro e w3 ⟨⟨y, rfl, -⟩, h2, h3⟩
      have hown3 := row_dr (HO.out.alloc _) h3 hlg
      have hD3 : Dr w g w3 := (HD.out.alloc _).trans h3
      have hbs : w.heap.size ≤ w3.heap.size := hD3.size
      have H2 := Lib.hid h2; have HD3 := Lib.hid hD3
      clear h2 h3 hD3
      go_wp2_with (at_builtin; refine wpList_append_own _ rfl (.tmp 13) (.tmp 17) 22 rfl w.heap.size 3 i0 (.int .i64 0) 1 8 Tryd.underlying22 hi hz0 hz1 hz2 rfl (by decide) _ n _ rfl (hown3.alloc _) ⟨w3.heap.size, 0, none⟩ 1 1 [.int .i64 y] rfl rfl ?c1 ?c2 ?c3 ?c4 ?c5 ?_)
      case c1 =>
        intro q u hq
        match q, hq with
        | 0, hq => simp at hq; subst hq; simp [Addr.add]
      case c2 => intro u hu; simp at hu; subst hu; rfl
      case c3 => unfold maxLen; omega
      case c4 => omega
      case c5 => simp; omega
      intro v' w5 hown' hgrow hnil
      have HN5 : Hid (v' ≠ .slice none 0 0) := Lib.hid hnil
      clear hnil
      have hD5 : Dr w g w5 := (HD3.out.alloc _).fresh hgrow (fun b hb => (hown3.lt b hb).1)
      have hR5 : Rd W g (K + 5 - (j - 1)) w5 := ((H2.out.ext ((Ext.refl w3).alloc _)).beside hgrow (fun b hb => by have := (hown3.lt b hb).1; omega)).mono (by omega)
      have HO5 : Hid (w5.ownsRow w.heap.size 3 1 v' (n + 1) ((xs ++ [y]).map (Value.int .i64))) := Lib.hid (row_next hown')
      have HD5 := Lib.hid hD5; have HR5 := Lib.hid hR5
      clear hown' hgrow hown3 hD5 hR5
      go_wp2
      go_roundw
      case rel => exact ⟨j - 1, n + 1, xs ++ [y], by go_num, by omega, by omega, by rw [List.length_append, HXN.out]; rfl, HO5.out, HR5.out, HD5.out, HN5.out⟩
      case measure => simp [intOf]; omega
    · have e : j = 0 := by omega
      subst e
      go_wp2_with (fail)
      refine (pick_any W g (K + 5 - 0) 30 _ HR.out (by omega) (by omega)).mono ?_
      rintro e w3 ⟨⟨r, rfl, hlt⟩, h2, h3⟩
      have hown3 := row_dr HO.out h3 hlg
      have hD3 : Dr w g w3 := HD.out.trans h3
      have H2 := Lib.hid h2; have HD3 := Lib.hid hD3; have HO3 := Lib.hid hown3
      have hlg3 := h2.lt
      have hbs3 : w.heap.size ≤ w3.heap.size := hD3.size
      clear h2 h3 hD3 hown3 hlt
      by_cases hr0 : r = 0
      · subst hr0
        go_wp2_with (fail)
        refine (num_any W g (K + 5 - 0 + 1) w3.heap.size 3 [10000, -10000, 9223372036854775807] _ (H2.out.ext ((Ext.refl w3).alloc _)) (by omega) rfl (by omega) (by omega) (blk_at rfl) (by omega)).mono ?_
        rintro e w4 ⟨⟨y, rfl, -⟩, h4, h5⟩
        have hown4 := row_dr (HO3.out.alloc _) h5 hlg
        have hD4 : Dr w g w4 := (HD3.out.alloc _).trans h5
        have hbs : w.heap.size ≤ w4.heap.size := hD4.size
        have H4 := Lib.hid h4; have HD4 := Lib.hid hD4
        clear h4 h5 hD4
        go_wp2_with (at_builtin; refine wpList_append_own _ rfl (.tmp 22) (.tmp 26) 22 rfl w.heap.size 3 i0 (.int .i64 0) 1 8 Tryd.underlying22 hi hz0 hz1 hz2 rfl (by decide) _ n _ rfl (hown4.alloc _) ⟨w4.heap.size, 0, none⟩ 2 2 [.int .i64 y, .int .i64 0] rfl rfl ?c1 ?c2 ?c3 ?c4 ?c5 ?_)
        case c1 =>
          intro q u hq
          match q, hq with
          | 0, hq => simp at hq; subst hq; simp [Addr.add]
          | 1, hq => simp at hq; subst hq; simp [Addr.add, go_sem]
        case c2 => intro u hu; simp at hu; rcases hu with rfl | rfl <;> rfl
        case c3 => unfold maxLen; omega
        case c4 => omega
        case c5 => simp; omega
        intro v' w5 hown' hgrow hnil
        have HN5 : Hid (v' ≠ .slice none 0 0) := Lib.hid hnil
        clear hnil
        have hD5 : Dr w g w5 := (HD4.out.alloc _).fresh hgrow (fun b hb => (hown4.lt b hb).1)
        have hR5 : Rd W g (K + 8) w5 := ((H4.out.ext ((Ext.refl w4).alloc _)).beside hgrow (fun b hb => by have := (hown4.lt b hb).1; omega)).mono (by omega)
        have HO5 : Hid (w5.ownsRow w.heap.size 3 1 v' (n + 2) ((xs ++ [y, 0]).map (Value.int .i64))) := by
          show w5.ownsRow _ _ _ _ _ _
          rw [List.map_append]; exact hown'
        have HD5 := Lib.hid hD5; have HR5 := Lib.hid hR5
        clear hown' hgrow hown4 hD5 hR5
        obtain ⟨bv, cv, rfl, hcv⟩ := own_form' HO5.out HN5.out
        go_wp2
        go_ret
        exact ⟨⟨bv, n + 2, cv, xs ++ [y, 0], rfl, by rw [List.length_append, HXN.out]; rfl, by omega, HO5.out⟩, HR5.out, HD5.out⟩
      · have hd : ((r : Int) == 0) = false := by simp [hr0]
        obtain ⟨bv, cv, rfl, hcv⟩ := own_form' HO3.out HNE.out
        go_wp2
        go_ret
        exact ⟨⟨bv, n, cv, xs, rfl, HXN.out, by omega, HO3.out⟩, H2.out.mono (by omega), HD3.out⟩
end Go.Proofs.YtcpbfefgjpimiaaDoor

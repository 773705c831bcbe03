/- The texts Q5c, joined. No statement is proved here. -/
import Derived.Test.YtccibfldadflkaaQT21
/- Draws: a nest, sometimes made invalid or large: how many loops it has then (l2Mutate again, as Q5, with its length). -/
namespace Go.Proofs.Ytccibfldadflkaa
open Go.RowKit

set_option linter.unusedSimpArgs false in
set_option linter.unusedVariables false in
set_option maxRecDepth 100000 in
set_option maxHeartbeats 8000000 in
theorem l2MutateN_any (W : World) (g K N : Nat) (p : Option Addr) (n c : Nat) (ls : List Lp) (w : World) (hr : Rd W g K w) (hK : K ≤ 80000) (hn : ls.length = n) (hs : LoopsAt w (.slice p n c) ls) (hf : FourL N ls) (hN : N ≤ 900) :
    Calls Try.prog 44 #[.pointer (some ⟨g, 0, none⟩), .slice p n c] w fun e w' => (∃ q m c', ∃ ls' : List Lp, e = .returned (.slice (some ⟨q, 0, none⟩) m c') ∧ ls'.length = m ∧ (ls'.length ≤ n ∨ 4 < ls'.length) ∧ FourL (N + 5) ls' ∧ LoopsOwn w.heap.size w' (.slice (some ⟨q, 0, none⟩) m c') ls') ∧ Rd W g (K + 3) w' ∧ Dr w g w' := by
  obtain ⟨i1, ha, hy0, hy1, hy2⟩ := info_parts infoAff
  obtain ⟨i2, hb, hx0, hx1, hx2⟩ := info_parts infoLoop
  have hlg := hr.lt
  have HR := Lib.hid hr; have HS := Lib.hid hs; have HN := Lib.hid hn; have HF := Lib.hid hf; clear hr hs hn hf
  go_enter Try.func44, Try.ntmps44
  go_wp2_with (fail)
  refine (l2CopySep_any p n c ls w HN.out HS.out (HF.out.mono (by omega))).mono ?_
  rintro e w1 ⟨⟨gq, d, rfl, hv⟩, hE⟩
  have HV1 := Lib.hid hv; have H1 := Lib.hid (HR.out.ext hE); have D1 := Lib.hid ((Dr.refl w g).ext hE)
  clear hv hE HR
  by_cases hn0 : n = 0
  · subst hn0
    go_wp2
    go_ret
    exact ⟨⟨_, _, _, ls, rfl, HN.out, .inl (Nat.le_of_eq HN.out), HF.out.mono (by omega), HV1.out.own⟩, H1.out.mono (by omega), D1.out⟩
  obtain ⟨M, rfl⟩ : ∃ M, n = M + 1 := ⟨n - 1, by omega⟩
  clear hn0
  have hM0 : (((M + 1 : Nat) : Int) == 0) = false := by simp; omega
  have hM0' : (((M : Int) + 1) == 0) = false := by simp; omega
  go_wp2_with (fail)
  refine (pick_any W g K 40 w1 H1.out (by omega) (by omega)).mono ?_
  rintro e w2 ⟨⟨r, rfl, -⟩, h4, h5⟩
  have HV2 := Lib.hid (LoopsSep.dr HV1.out h5 hlg); have H2 := Lib.hid h4; have D2 := Lib.hid (D1.out.trans h5)
  have hs2 := D2.out.size
  clear h4 h5 HV1 H1 D1 hM0 hM0'
  have hMN : M + 1 ≤ N := by have := HF.out.1; rw [HN.out] at this; exact this
  obtain ⟨vs, ho, he, hnd⟩ := HV2.out
  rw [HN.out] at ho
  have hvl := ho.1
  have HO := Lib.hid ho; have HHE := Lib.hid he; have HND := Lib.hid hnd; clear he hnd
  have hgq := ho.lt gq rfl
  have hTq := Lib.hid (show Tag w2 (some gq) 75 from own_tag ho)
  clear ho
  by_cases h0 : r = 0
  · subst h0
    obtain ⟨x, hx⟩ := get_some (xs := ls) (k := 0) (by rw [HN.out]; omega)
    obtain ⟨u0, u1, hu0, hu1, hxo⟩ := HHE.out 0 x hx
    obtain ⟨pu0, cu0, rfl⟩ := PairsOwn.slice hxo.1
    obtain ⟨pu1, cu1, rfl⟩ := PairsOwn.slice hxo.2
    have hfx := HF.out.2 x (List.mem_of_getElem? hx)
    have HU0 := Lib.hid hu0; have HU1 := Lib.hid hu1; have HXO := Lib.hid hxo; have HFX := Lib.hid hfx; have HX := Lib.hid hx
    clear hu0 hu1 hxo hfx hx
    have c0 : w2.cell? ⟨gq, 0, none⟩ = some (.slice pu0 x.1.length cu0) := (by rw [HO.out.cellAt (0) (by omega)]; exact HU0.out)
    have hlq := hgq.2
    go_wp2_with (fail)
    refine wp_region_held_drew (S := (fun _ => True)) (by kernel_rfl) trivial (fun hHeld => ?_)
    refine wpAnyH_takeDw (some 18) (i := 0) (v := ?vza1) rfl (by kernel_rfl) (by kernel_rfl) (by kernel_rfl) (by kernel_rfl) (fun _ _ _ h => h) (Or.inl ⟨by rfl, ?hyza1⟩) (by assumption) ?rza1
    case hyza1 => intro w hSw; (try dsimp only at hSw); go_simp; first | done | with_reducible rfl
    case' rza1 => try simp only [Act.put, List.setIfInBounds_toArray, List.set_cons_zero, List.set_cons_succ]
    refine wpAnyH_takeDw (some 19) (i := 1) (v := ?vza2) rfl (by kernel_rfl) (by kernel_rfl) (by kernel_rfl) (by kernel_rfl) (fun _ _ _ h => h) (Or.inl ⟨by rfl, ?hyza2⟩) (by assumption) ?rza2
    case hyza2 => intro w hSw; (try dsimp only at hSw); go_simp; first | done | with_reducible rfl
    case' rza2 => try simp only [Act.put, List.setIfInBounds_toArray, List.set_cons_zero, List.set_cons_succ]
    refine wpAnyH_takeDw (some 20) (i := 2) (v := ?vza3) rfl (by kernel_rfl) (by kernel_rfl) (by kernel_rfl) (by kernel_rfl) (fun _ _ _ h => h) (Or.inl ⟨by rfl, ?hyza3⟩) (by assumption) ?rza3
    case hyza3 => intro w hSw; (try dsimp only at hSw); go_simp; first | done | with_reducible rfl
    case' rza3 => try simp only [Act.put, List.setIfInBounds_toArray, List.set_cons_zero, List.set_cons_succ]
    refine wpAnyH_takeDw (some 21) (i := 3) (v := ?vza4) rfl (by kernel_rfl) (by kernel_rfl) (by kernel_rfl) (by kernel_rfl) (fun _ _ _ h => h) (Or.inl ⟨by rfl, ?hyza4⟩) (by assumption) ?rza4
    case hyza4 => intro w hSw; (try dsimp only at hSw); go_simp; first | done | with_reducible rfl
    case' rza4 => try simp only [Act.put, List.setIfInBounds_toArray, List.set_cons_zero, List.set_cons_succ]
    refine wpAnyH_takeDw (some 23) (i := 5) (v := ?vza5) rfl (by kernel_rfl) (by kernel_rfl) (by kernel_rfl) (by kernel_rfl) (fun _ _ _ h => h) (Or.inl ⟨by rfl, ?hyza5⟩) (by assumption) ?rza5
    case hyza5 => intro w hSw; (try dsimp only at hSw); go_simp; first | done | with_reducible rfl
    case' rza5 => try simp only [Act.put, List.setIfInBounds_toArray, List.set_cons_zero, List.set_cons_succ]
    refine wpAnyH_ready (rs := [4, 6]) (by kernel_rfl) (by simp) ?_
    refine AllReadyH.cons rfl (fun K9 hK => ?_) (AllReadyH.cons rfl (fun K9 hK => ?_) AllReadyH.nil)
    · skip
      go_simp
      refine hK.out _ _ trivial (fun hHza6 => ?_)
      clear hK K9
      try simp only [Act.put, List.setIfInBounds_toArray, List.set_cons_zero, List.set_cons_succ]
      refine wpAnyH_ready (rs := [6]) (by kernel_rfl) (by simp) ?_
      refine AllReadyH.cons rfl (fun K9 hK => ?_) AllReadyH.nil
      (go_simp; refine (pick_any W g (K + 1) 2 _ (H2.out.ext (Ext.refl w2).drew) (by omega) (by omega)).mono ?_; rintro e v3 ⟨⟨r3, rfl, hr3⟩, h8, h9⟩; have D3 : Dr w2 g v3 := ((Dr.refl w2 g).drew).trans h9; have hr3b : (r3 : Int) < 4 := (by have := hr3 (by omega); omega); have O3 := row_dr HO.out D3 hlg; have c3 : v3.cell? ⟨gq, 0, none⟩ = some (.slice pu0 x.1.length cu0) := (by rw [O3.cellAt (0) (by omega)]; exact HU0.out); have hl3 := (O3.lt gq rfl).2)
      refine hK.out _ _ trivial (fun hHza7 => ?_)
      clear hK K9
      try simp only [Act.put, List.setIfInBounds_toArray, List.set_cons_zero, List.set_cons_succ]
      refine wpAnyH_ready (rs := [7]) (by kernel_rfl) (by simp) ?_
      refine AllReadyH.cons rfl (fun K9 hK => ?_) AllReadyH.nil
      (go_simp; refine (l1Var_any r3 _ (by omega) hr3b).mono ?_; rintro e v4 ⟨pN, cN, rfl, hvN, hE9⟩; have D4 : Dr w2 g v4 := D3.ext hE9; have RD4 := h8.ext hE9; have hs9 := D4.size; have hs39 := D3.size; have O4 := row_dr HO.out D4 hlg; have c4 : v4.cell? ⟨gq, 0, none⟩ = some (.slice pu0 x.1.length cu0) := (by rw [O4.cellAt (0) (by omega)]; exact HU0.out); have hl4 := (O4.lt gq rfl).2)
      refine hK.out _ _ trivial (fun hHza8 => ?_)
      clear hK K9
      try simp only [Act.put, List.setIfInBounds_toArray, List.set_cons_zero, List.set_cons_succ]
      refine wpAnyH_ready (rs := [8]) (by kernel_rfl) (by simp) ?_
      refine AllReadyH.cons rfl (fun K9 hK => ?_) AllReadyH.nil
      go_simp
      refine hK.out _ _ trivial (fun hHza9 => ?_)
      clear hK K9
      try simp only [Act.put, List.setIfInBounds_toArray, List.set_cons_zero, List.set_cons_succ]
      refine wpAnyH_ready (rs := [9]) (by kernel_rfl) (by simp) ?_
      refine AllReadyH.cons rfl (fun K9 hK => ?_) AllReadyH.nil
      (have EN : Ext v4 (v4.alloc (.cells #[.slice pN 4 cN, .int .i64 0] 36)) := (Ext.refl v4).alloc _; obtain ⟨vs0, ho, he0⟩ := AffsOwn.ext (AffsOwn.dr HXO.out.1 D4 hlg) EN; have hvl0 := ho.1; have hxl := HFX.out.1.1; refine step_append_lies _ rfl (.tmp 22) (.tmp 26) 49 rfl w.heap.size 36 i1 (.agg #[.slice none 0 0, .int .i64 0]) 2 32 underSliceAff ha hy0 hy1 hy2 rfl (by decide) (.slice pu0 x.1.length cu0) x.1.length vs0 rfl ho ⟨v4.heap.size, 0, none⟩ 1 1 [.slice pN 4 cN, .int .i64 0] rfl rfl (pair_cells rfl) (by intro u hu; simp at hu; rcases hu with rfl | rfl <;> rfl) (by omega) (by unfold maxLen; omega) (by omega) (by simp <;> omega) _ rfl ?_; intro gn cn w7 hown' hgrow' hgeq' hltg; have htag := own_tag ho; have hres : AffsOwn w.heap.size w7 (.slice (some ⟨gn, 0, none⟩) (x.1.length + 1) cn) (x.1 ++ [(unitL r3, 0)]) := PairsOwn.push (R := AffO) (fun h a b => AffO.grow h a b) rfl he0 hvl0 hown' hgrow' htag ⟨(hvN.weak (by omega)).ext EN, rfl⟩; have O7 := row_tag (ownsRow_ext O4 EN) hgrow' htag (by decide); have hoth : ∀ j y, j ≠ 0 → ls[j]? = some y → ∃ t0 t1, vs[j * 2]? = some t0 ∧ vs[j * 2 + 1]? = some t1 ∧ LoopO w.heap.size w7 t0 t1 y := (fun j y hj hy => by obtain ⟨t0, t1, g0, g1, g2⟩ := HHE.out j y hy; exact ⟨t0, t1, g0, g1, AffsOwn.kept (AffsOwn.ext (AffsOwn.dr g2.1 D4 hlg) EN) hgrow' htag (blks_other HND.out (p := 0 * 2) (q := j * 2) (by omega) HU0.out g0), AffsOwn.kept (AffsOwn.ext (AffsOwn.dr g2.2 D4 hlg) EN) hgrow' htag (blks_other HND.out (p := 0 * 2) (q := j * 2 + 1) (by omega) HU0.out g1)⟩); have hsd := AffsOwn.kept (AffsOwn.ext (AffsOwn.dr HXO.out.2 D4 hlg) EN) hgrow' htag (blks_other HND.out (p := 0 * 2) (q := 0 * 2 + 1) (by omega) HU0.out HU1.out); have D7 := ((D2.out.trans D4).ext EN).fresh hgrow' (fun b hb => (ho.lt b hb).1); have H7 := (RD4.ext EN).beside hgrow' (fun j e => by have := (ho.lt j e).1; omega); have f7 := O7.frozenAt (0); have k7 : w7.cell? ⟨gq, 0, none⟩ = some (.slice pu0 x.1.length cu0) := (by rw [O7.cellAt (0) (by omega)]; exact HU0.out))
      refine hK.out _ _ trivial (fun hHza10 => ?_)
      clear hK K9
      try simp only [Act.put, List.setIfInBounds_toArray, List.set_cons_zero, List.set_cons_succ]
      refine wpAnyH_takeDw (some 28) (i := 10) (v := ?vza11) rfl (by kernel_rfl) (by kernel_rfl) (by kernel_rfl) (by kernel_rfl) (fun _ _ _ h => h) (Or.inl ⟨by rfl, ?hyza11⟩) (by assumption) ?rza11
      case hyza11 => intro w hSw; (try dsimp only at hSw); go_simp; first | done | with_reducible rfl
      case' rza11 => try simp only [Act.put, List.setIfInBounds_toArray, List.set_cons_zero, List.set_cons_succ]
      refine wpAnyH_takeDw (some 29) (i := 11) (v := ?vza12) rfl (by kernel_rfl) (by kernel_rfl) (by kernel_rfl) (by kernel_rfl) (fun _ _ _ h => h) (Or.inl ⟨by rfl, ?hyza12⟩) (by assumption) ?rza12
      case hyza12 => intro w hSw; (try dsimp only at hSw); go_simp; first | done | with_reducible rfl
      case' rza12 => try simp only [Act.put, List.setIfInBounds_toArray, List.set_cons_zero, List.set_cons_succ]
      refine wpAnyH_ready (rs := [12]) (by kernel_rfl) (by simp) ?_
      refine AllReadyH.cons rfl (fun K9 hK => ?_) AllReadyH.nil
      go_simp
      refine hK.out _ _ trivial (fun hHza13 => ?_)
      clear hK K9
      try simp only [Act.put, List.setIfInBounds_toArray, List.set_cons_zero, List.set_cons_succ]
      refine wpAnyH_done (by kernel_rfl) ?_ _
      have O8 := (O7.stored (0) (.slice (some ⟨gn, 0, none⟩) (x.1.length + 1) cn)).1
      have hres2 := Lib.hid (LoopsOwn.put (i := 0) (y := (x.1 ++ [(unitL r3, 0)], x.2)) O8 HN.out hoth (fun k h0 h1 => by rw [List.getElem?_set_ne (by omega)]) (by rw [List.getElem?_set_self (by omega)]) (by rw [List.getElem?_set_ne (by omega)]; exact HU1.out) ⟨hres, hsd⟩ (grown_set w7 gq (0) (.slice (some ⟨gn, 0, none⟩) (x.1.length + 1) cn)) (own_tag O7))
      have H8 := Lib.hid (H7.set (b := gq) (o := 0) (by omega) (.slice (some ⟨gn, 0, none⟩) (x.1.length + 1) cn)); have D8 := Lib.hid (D7.set (j := gq) (o := 0) (by omega) (.slice (some ⟨gn, 0, none⟩) (x.1.length + 1) cn))
      clear O8 hres hoth hsd H7 D7 O7 f7 k7
      go_wp2
      go_ret
      exact ⟨⟨_, _, _, ls.set 0 (x.1 ++ [(unitL r3, 0)], x.2), rfl, by rw [List.length_set]; exact HN.out, .inl (Nat.le_of_eq (by rw [List.length_set]; exact HN.out)), FourL.set (N := N + 5) (HF.out.mono (by omega)) (FourA.mono (FourA.push HFX.out.1 (unit4 _)) (by omega)) (HFX.out.2.mono (by omega)), hres2.out⟩, H8.out.mono (by omega), D8.out⟩
    · skip
      (go_simp; refine (pick_any W g (K + 1) 2 _ (H2.out.ext (Ext.refl w2).drew) (by omega) (by omega)).mono ?_; rintro e v3 ⟨⟨r3, rfl, hr3⟩, h8, h9⟩; have D3 : Dr w2 g v3 := ((Dr.refl w2 g).drew).trans h9; have hr3b : (r3 : Int) < 4 := (by have := hr3 (by omega); omega); have O3 := row_dr HO.out D3 hlg; have c3 : v3.cell? ⟨gq, 0, none⟩ = some (.slice pu0 x.1.length cu0) := (by rw [O3.cellAt (0) (by omega)]; exact HU0.out); have hl3 := (O3.lt gq rfl).2)
      refine hK.out _ _ trivial (fun hHza14 => ?_)
      clear hK K9
      try simp only [Act.put, List.setIfInBounds_toArray, List.set_cons_zero, List.set_cons_succ]
      refine wpAnyH_ready (rs := [4, 7]) (by kernel_rfl) (by simp) ?_
      refine AllReadyH.cons rfl (fun K9 hK => ?_) (AllReadyH.cons rfl (fun K9 hK => ?_) AllReadyH.nil)
      · skip
        go_simp
        refine hK.out _ _ trivial (fun hHza15 => ?_)
        clear hK K9
        try simp only [Act.put, List.setIfInBounds_toArray, List.set_cons_zero, List.set_cons_succ]
        refine wpAnyH_ready (rs := [7]) (by kernel_rfl) (by simp) ?_
        refine AllReadyH.cons rfl (fun K9 hK => ?_) AllReadyH.nil
        (go_simp; refine (l1Var_any r3 _ (by omega) hr3b).mono ?_; rintro e v4 ⟨pN, cN, rfl, hvN, hE9⟩; have D4 : Dr w2 g v4 := D3.ext hE9; have RD4 := h8.ext hE9; have hs9 := D4.size; have hs39 := D3.size; have O4 := row_dr HO.out D4 hlg; have c4 : v4.cell? ⟨gq, 0, none⟩ = some (.slice pu0 x.1.length cu0) := (by rw [O4.cellAt (0) (by omega)]; exact HU0.out); have hl4 := (O4.lt gq rfl).2)
        refine hK.out _ _ trivial (fun hHza16 => ?_)
        clear hK K9
        try simp only [Act.put, List.setIfInBounds_toArray, List.set_cons_zero, List.set_cons_succ]
        refine wpAnyH_ready (rs := [8]) (by kernel_rfl) (by simp) ?_
        refine AllReadyH.cons rfl (fun K9 hK => ?_) AllReadyH.nil
        go_simp
        refine hK.out _ _ trivial (fun hHza17 => ?_)
        clear hK K9
        try simp only [Act.put, List.setIfInBounds_toArray, List.set_cons_zero, List.set_cons_succ]
        refine wpAnyH_ready (rs := [9]) (by kernel_rfl) (by simp) ?_
        refine AllReadyH.cons rfl (fun K9 hK => ?_) AllReadyH.nil
        (have EN : Ext v4 (v4.alloc (.cells #[.slice pN 4 cN, .int .i64 0] 36)) := (Ext.refl v4).alloc _; obtain ⟨vs0, ho, he0⟩ := AffsOwn.ext (AffsOwn.dr HXO.out.1 D4 hlg) EN; have hvl0 := ho.1; have hxl := HFX.out.1.1; refine step_append_lies _ rfl (.tmp 22) (.tmp 26) 49 rfl w.heap.size 36 i1 (.agg #[.slice none 0 0, .int .i64 0]) 2 32 underSliceAff ha hy0 hy1 hy2 rfl (by decide) (.slice pu0 x.1.length cu0) x.1.length vs0 rfl ho ⟨v4.heap.size, 0, none⟩ 1 1 [.slice pN 4 cN, .int .i64 0] rfl rfl (pair_cells rfl) (by intro u hu; simp at hu; rcases hu with rfl | rfl <;> rfl) (by omega) (by unfold maxLen; omega) (by omega) (by simp <;> omega) _ rfl ?_; intro gn cn w7 hown' hgrow' hgeq' hltg; have htag := own_tag ho; have hres : AffsOwn w.heap.size w7 (.slice (some ⟨gn, 0, none⟩) (x.1.length + 1) cn) (x.1 ++ [(unitL r3, 0)]) := PairsOwn.push (R := AffO) (fun h a b => AffO.grow h a b) rfl he0 hvl0 hown' hgrow' htag ⟨(hvN.weak (by omega)).ext EN, rfl⟩; have O7 := row_tag (ownsRow_ext O4 EN) hgrow' htag (by decide); have hoth : ∀ j y, j ≠ 0 → ls[j]? = some y → ∃ t0 t1, vs[j * 2]? = some t0 ∧ vs[j * 2 + 1]? = some t1 ∧ LoopO w.heap.size w7 t0 t1 y := (fun j y hj hy => by obtain ⟨t0, t1, g0, g1, g2⟩ := HHE.out j y hy; exact ⟨t0, t1, g0, g1, AffsOwn.kept (AffsOwn.ext (AffsOwn.dr g2.1 D4 hlg) EN) hgrow' htag (blks_other HND.out (p := 0 * 2) (q := j * 2) (by omega) HU0.out g0), AffsOwn.kept (AffsOwn.ext (AffsOwn.dr g2.2 D4 hlg) EN) hgrow' htag (blks_other HND.out (p := 0 * 2) (q := j * 2 + 1) (by omega) HU0.out g1)⟩); have hsd := AffsOwn.kept (AffsOwn.ext (AffsOwn.dr HXO.out.2 D4 hlg) EN) hgrow' htag (blks_other HND.out (p := 0 * 2) (q := 0 * 2 + 1) (by omega) HU0.out HU1.out); have D7 := ((D2.out.trans D4).ext EN).fresh hgrow' (fun b hb => (ho.lt b hb).1); have H7 := (RD4.ext EN).beside hgrow' (fun j e => by have := (ho.lt j e).1; omega); have f7 := O7.frozenAt (0); have k7 : w7.cell? ⟨gq, 0, none⟩ = some (.slice pu0 x.1.length cu0) := (by rw [O7.cellAt (0) (by omega)]; exact HU0.out))
        refine hK.out _ _ trivial (fun hHza18 => ?_)
        clear hK K9
        try simp only [Act.put, List.setIfInBounds_toArray, List.set_cons_zero, List.set_cons_succ]
        refine wpAnyH_takeDw (some 28) (i := 10) (v := ?vza19) rfl (by kernel_rfl) (by kernel_rfl) (by kernel_rfl) (by kernel_rfl) (fun _ _ _ h => h) (Or.inl ⟨by rfl, ?hyza19⟩) (by assumption) ?rza19
        case hyza19 => intro w hSw; (try dsimp only at hSw); go_simp; first | done | with_reducible rfl
        case' rza19 => try simp only [Act.put, List.setIfInBounds_toArray, List.set_cons_zero, List.set_cons_succ]
        refine wpAnyH_takeDw (some 29) (i := 11) (v := ?vza20) rfl (by kernel_rfl) (by kernel_rfl) (by kernel_rfl) (by kernel_rfl) (fun _ _ _ h => h) (Or.inl ⟨by rfl, ?hyza20⟩) (by assumption) ?rza20
        case hyza20 => intro w hSw; (try dsimp only at hSw); go_simp; first | done | with_reducible rfl
        case' rza20 => try simp only [Act.put, List.setIfInBounds_toArray, List.set_cons_zero, List.set_cons_succ]
        refine wpAnyH_ready (rs := [12]) (by kernel_rfl) (by simp) ?_
        refine AllReadyH.cons rfl (fun K9 hK => ?_) AllReadyH.nil
        go_simp
        refine hK.out _ _ trivial (fun hHza21 => ?_)
        clear hK K9
        try simp only [Act.put, List.setIfInBounds_toArray, List.set_cons_zero, List.set_cons_succ]
        refine wpAnyH_done (by kernel_rfl) ?_ _
        have O8 := (O7.stored (0) (.slice (some ⟨gn, 0, none⟩) (x.1.length + 1) cn)).1
        have hres2 := Lib.hid (LoopsOwn.put (i := 0) (y := (x.1 ++ [(unitL r3, 0)], x.2)) O8 HN.out hoth (fun k h0 h1 => by rw [List.getElem?_set_ne (by omega)]) (by rw [List.getElem?_set_self (by omega)]) (by rw [List.getElem?_set_ne (by omega)]; exact HU1.out) ⟨hres, hsd⟩ (grown_set w7 gq (0) (.slice (some ⟨gn, 0, none⟩) (x.1.length + 1) cn)) (own_tag O7))
        have H8 := Lib.hid (H7.set (b := gq) (o := 0) (by omega) (.slice (some ⟨gn, 0, none⟩) (x.1.length + 1) cn)); have D8 := Lib.hid (D7.set (j := gq) (o := 0) (by omega) (.slice (some ⟨gn, 0, none⟩) (x.1.length + 1) cn))
        clear O8 hres hoth hsd H7 D7 O7 f7 k7
        go_wp2
        go_ret
        exact ⟨⟨_, _, _, ls.set 0 (x.1 ++ [(unitL r3, 0)], x.2), rfl, by rw [List.length_set]; exact HN.out, .inl (Nat.le_of_eq (by rw [List.length_set]; exact HN.out)), FourL.set (N := N + 5) (HF.out.mono (by omega)) (FourA.mono (FourA.push HFX.out.1 (unit4 _)) (by omega)) (HFX.out.2.mono (by omega)), hres2.out⟩, H8.out.mono (by omega), D8.out⟩
      · skip
        (go_simp; refine (l1Var_any r3 _ (by omega) hr3b).mono ?_; rintro e v4 ⟨pN, cN, rfl, hvN, hE9⟩; have D4 : Dr w2 g v4 := D3.ext hE9; have RD4 := h8.ext hE9; have hs9 := D4.size; have hs39 := D3.size; have O4 := row_dr HO.out D4 hlg; have c4 : v4.cell? ⟨gq, 0, none⟩ = some (.slice pu0 x.1.length cu0) := (by rw [O4.cellAt (0) (by omega)]; exact HU0.out); have hl4 := (O4.lt gq rfl).2)
        refine hK.out _ _ trivial (fun hHza22 => ?_)
        clear hK K9
        try simp only [Act.put, List.setIfInBounds_toArray, List.set_cons_zero, List.set_cons_succ]
        refine wpAnyH_ready (rs := [4, 8]) (by kernel_rfl) (by simp) ?_
        refine AllReadyH.cons rfl (fun K9 hK => ?_) (AllReadyH.cons rfl (fun K9 hK => ?_) AllReadyH.nil)
        · skip
          go_simp
          refine hK.out _ _ trivial (fun hHza23 => ?_)
          clear hK K9
          try simp only [Act.put, List.setIfInBounds_toArray, List.set_cons_zero, List.set_cons_succ]
          refine wpAnyH_ready (rs := [8]) (by kernel_rfl) (by simp) ?_
          refine AllReadyH.cons rfl (fun K9 hK => ?_) AllReadyH.nil
          go_simp
          refine hK.out _ _ trivial (fun hHza24 => ?_)
          clear hK K9
          try simp only [Act.put, List.setIfInBounds_toArray, List.set_cons_zero, List.set_cons_succ]
          refine wpAnyH_ready (rs := [9]) (by kernel_rfl) (by simp) ?_
          refine AllReadyH.cons rfl (fun K9 hK => ?_) AllReadyH.nil
          (have EN : Ext v4 (v4.alloc (.cells #[.slice pN 4 cN, .int .i64 0] 36)) := (Ext.refl v4).alloc _; obtain ⟨vs0, ho, he0⟩ := AffsOwn.ext (AffsOwn.dr HXO.out.1 D4 hlg) EN; have hvl0 := ho.1; have hxl := HFX.out.1.1; refine step_append_lies _ rfl (.tmp 22) (.tmp 26) 49 rfl w.heap.size 36 i1 (.agg #[.slice none 0 0, .int .i64 0]) 2 32 underSliceAff ha hy0 hy1 hy2 rfl (by decide) (.slice pu0 x.1.length cu0) x.1.length vs0 rfl ho ⟨v4.heap.size, 0, none⟩ 1 1 [.slice pN 4 cN, .int .i64 0] rfl rfl (pair_cells rfl) (by intro u hu; simp at hu; rcases hu with rfl | rfl <;> rfl) (by omega) (by unfold maxLen; omega) (by omega) (by simp <;> omega) _ rfl ?_; intro gn cn w7 hown' hgrow' hgeq' hltg; have htag := own_tag ho; have hres : AffsOwn w.heap.size w7 (.slice (some ⟨gn, 0, none⟩) (x.1.length + 1) cn) (x.1 ++ [(unitL r3, 0)]) := PairsOwn.push (R := AffO) (fun h a b => AffO.grow h a b) rfl he0 hvl0 hown' hgrow' htag ⟨(hvN.weak (by omega)).ext EN, rfl⟩; have O7 := row_tag (ownsRow_ext O4 EN) hgrow' htag (by decide); have hoth : ∀ j y, j ≠ 0 → ls[j]? = some y → ∃ t0 t1, vs[j * 2]? = some t0 ∧ vs[j * 2 + 1]? = some t1 ∧ LoopO w.heap.size w7 t0 t1 y := (fun j y hj hy => by obtain ⟨t0, t1, g0, g1, g2⟩ := HHE.out j y hy; exact ⟨t0, t1, g0, g1, AffsOwn.kept (AffsOwn.ext (AffsOwn.dr g2.1 D4 hlg) EN) hgrow' htag (blks_other HND.out (p := 0 * 2) (q := j * 2) (by omega) HU0.out g0), AffsOwn.kept (AffsOwn.ext (AffsOwn.dr g2.2 D4 hlg) EN) hgrow' htag (blks_other HND.out (p := 0 * 2) (q := j * 2 + 1) (by omega) HU0.out g1)⟩); have hsd := AffsOwn.kept (AffsOwn.ext (AffsOwn.dr HXO.out.2 D4 hlg) EN) hgrow' htag (blks_other HND.out (p := 0 * 2) (q := 0 * 2 + 1) (by omega) HU0.out HU1.out); have D7 := ((D2.out.trans D4).ext EN).fresh hgrow' (fun b hb => (ho.lt b hb).1); have H7 := (RD4.ext EN).beside hgrow' (fun j e => by have := (ho.lt j e).1; omega); have f7 := O7.frozenAt (0); have k7 : w7.cell? ⟨gq, 0, none⟩ = some (.slice pu0 x.1.length cu0) := (by rw [O7.cellAt (0) (by omega)]; exact HU0.out))
          refine hK.out _ _ trivial (fun hHza25 => ?_)
          clear hK K9
          try simp only [Act.put, List.setIfInBounds_toArray, List.set_cons_zero, List.set_cons_succ]
          refine wpAnyH_takeDw (some 28) (i := 10) (v := ?vza26) rfl (by kernel_rfl) (by kernel_rfl) (by kernel_rfl) (by kernel_rfl) (fun _ _ _ h => h) (Or.inl ⟨by rfl, ?hyza26⟩) (by assumption) ?rza26
          case hyza26 => intro w hSw; (try dsimp only at hSw); go_simp; first | done | with_reducible rfl
          case' rza26 => try simp only [Act.put, List.setIfInBounds_toArray, List.set_cons_zero, List.set_cons_succ]
          refine wpAnyH_takeDw (some 29) (i := 11) (v := ?vza27) rfl (by kernel_rfl) (by kernel_rfl) (by kernel_rfl) (by kernel_rfl) (fun _ _ _ h => h) (Or.inl ⟨by rfl, ?hyza27⟩) (by assumption) ?rza27
          case hyza27 => intro w hSw; (try dsimp only at hSw); go_simp; first | done | with_reducible rfl
          case' rza27 => try simp only [Act.put, List.setIfInBounds_toArray, List.set_cons_zero, List.set_cons_succ]
          refine wpAnyH_ready (rs := [12]) (by kernel_rfl) (by simp) ?_
          refine AllReadyH.cons rfl (fun K9 hK => ?_) AllReadyH.nil
          go_simp
          refine hK.out _ _ trivial (fun hHza28 => ?_)
          clear hK K9
          try simp only [Act.put, List.setIfInBounds_toArray, List.set_cons_zero, List.set_cons_succ]
          refine wpAnyH_done (by kernel_rfl) ?_ _
          have O8 := (O7.stored (0) (.slice (some ⟨gn, 0, none⟩) (x.1.length + 1) cn)).1
          have hres2 := Lib.hid (LoopsOwn.put (i := 0) (y := (x.1 ++ [(unitL r3, 0)], x.2)) O8 HN.out hoth (fun k h0 h1 => by rw [List.getElem?_set_ne (by omega)]) (by rw [List.getElem?_set_self (by omega)]) (by rw [List.getElem?_set_ne (by omega)]; exact HU1.out) ⟨hres, hsd⟩ (grown_set w7 gq (0) (.slice (some ⟨gn, 0, none⟩) (x.1.length + 1) cn)) (own_tag O7))
          have H8 := Lib.hid (H7.set (b := gq) (o := 0) (by omega) (.slice (some ⟨gn, 0, none⟩) (x.1.length + 1) cn)); have D8 := Lib.hid (D7.set (j := gq) (o := 0) (by omega) (.slice (some ⟨gn, 0, none⟩) (x.1.length + 1) cn))
          clear O8 hres hoth hsd H7 D7 O7 f7 k7
          go_wp2
          go_ret
          exact ⟨⟨_, _, _, ls.set 0 (x.1 ++ [(unitL r3, 0)], x.2), rfl, by rw [List.length_set]; exact HN.out, .inl (Nat.le_of_eq (by rw [List.length_set]; exact HN.out)), FourL.set (N := N + 5) (HF.out.mono (by omega)) (FourA.mono (FourA.push HFX.out.1 (unit4 _)) (by omega)) (HFX.out.2.mono (by omega)), hres2.out⟩, H8.out.mono (by omega), D8.out⟩
        · skip
          go_simp
          refine hK.out _ _ trivial (fun hHza29 => ?_)
          clear hK K9
          try simp only [Act.put, List.setIfInBounds_toArray, List.set_cons_zero, List.set_cons_succ]
          refine wpAnyH_ready (rs := [4]) (by kernel_rfl) (by simp) ?_
          refine AllReadyH.cons rfl (fun K9 hK => ?_) AllReadyH.nil
          go_simp
          refine hK.out _ _ trivial (fun hHza30 => ?_)
          clear hK K9
          try simp only [Act.put, List.setIfInBounds_toArray, List.set_cons_zero, List.set_cons_succ]
          refine wpAnyH_ready (rs := [9]) (by kernel_rfl) (by simp) ?_
          refine AllReadyH.cons rfl (fun K9 hK => ?_) AllReadyH.nil
          (have EN : Ext v4 (v4.alloc (.cells #[.slice pN 4 cN, .int .i64 0] 36)) := (Ext.refl v4).alloc _; obtain ⟨vs0, ho, he0⟩ := AffsOwn.ext (AffsOwn.dr HXO.out.1 D4 hlg) EN; have hvl0 := ho.1; have hxl := HFX.out.1.1; refine step_append_lies _ rfl (.tmp 22) (.tmp 26) 49 rfl w.heap.size 36 i1 (.agg #[.slice none 0 0, .int .i64 0]) 2 32 underSliceAff ha hy0 hy1 hy2 rfl (by decide) (.slice pu0 x.1.length cu0) x.1.length vs0 rfl ho ⟨v4.heap.size, 0, none⟩ 1 1 [.slice pN 4 cN, .int .i64 0] rfl rfl (pair_cells rfl) (by intro u hu; simp at hu; rcases hu with rfl | rfl <;> rfl) (by omega) (by unfold maxLen; omega) (by omega) (by simp <;> omega) _ rfl ?_; intro gn cn w7 hown' hgrow' hgeq' hltg; have htag := own_tag ho; have hres : AffsOwn w.heap.size w7 (.slice (some ⟨gn, 0, none⟩) (x.1.length + 1) cn) (x.1 ++ [(unitL r3, 0)]) := PairsOwn.push (R := AffO) (fun h a b => AffO.grow h a b) rfl he0 hvl0 hown' hgrow' htag ⟨(hvN.weak (by omega)).ext EN, rfl⟩; have O7 := row_tag (ownsRow_ext O4 EN) hgrow' htag (by decide); have hoth : ∀ j y, j ≠ 0 → ls[j]? = some y → ∃ t0 t1, vs[j * 2]? = some t0 ∧ vs[j * 2 + 1]? = some t1 ∧ LoopO w.heap.size w7 t0 t1 y := (fun j y hj hy => by obtain ⟨t0, t1, g0, g1, g2⟩ := HHE.out j y hy; exact ⟨t0, t1, g0, g1, AffsOwn.kept (AffsOwn.ext (AffsOwn.dr g2.1 D4 hlg) EN) hgrow' htag (blks_other HND.out (p := 0 * 2) (q := j * 2) (by omega) HU0.out g0), AffsOwn.kept (AffsOwn.ext (AffsOwn.dr g2.2 D4 hlg) EN) hgrow' htag (blks_other HND.out (p := 0 * 2) (q := j * 2 + 1) (by omega) HU0.out g1)⟩); have hsd := AffsOwn.kept (AffsOwn.ext (AffsOwn.dr HXO.out.2 D4 hlg) EN) hgrow' htag (blks_other HND.out (p := 0 * 2) (q := 0 * 2 + 1) (by omega) HU0.out HU1.out); have D7 := ((D2.out.trans D4).ext EN).fresh hgrow' (fun b hb => (ho.lt b hb).1); have H7 := (RD4.ext EN).beside hgrow' (fun j e => by have := (ho.lt j e).1; omega); have f7 := O7.frozenAt (0); have k7 : w7.cell? ⟨gq, 0, none⟩ = some (.slice pu0 x.1.length cu0) := (by rw [O7.cellAt (0) (by omega)]; exact HU0.out))
          refine hK.out _ _ trivial (fun hHza31 => ?_)
          clear hK K9
          try simp only [Act.put, List.setIfInBounds_toArray, List.set_cons_zero, List.set_cons_succ]
          refine wpAnyH_takeDw (some 28) (i := 10) (v := ?vza32) rfl (by kernel_rfl) (by kernel_rfl) (by kernel_rfl) (by kernel_rfl) (fun _ _ _ h => h) (Or.inl ⟨by rfl, ?hyza32⟩) (by assumption) ?rza32
          case hyza32 => intro w hSw; (try dsimp only at hSw); go_simp; first | done | with_reducible rfl
          case' rza32 => try simp only [Act.put, List.setIfInBounds_toArray, List.set_cons_zero, List.set_cons_succ]
          refine wpAnyH_takeDw (some 29) (i := 11) (v := ?vza33) rfl (by kernel_rfl) (by kernel_rfl) (by kernel_rfl) (by kernel_rfl) (fun _ _ _ h => h) (Or.inl ⟨by rfl, ?hyza33⟩) (by assumption) ?rza33
          case hyza33 => intro w hSw; (try dsimp only at hSw); go_simp; first | done | with_reducible rfl
          case' rza33 => try simp only [Act.put, List.setIfInBounds_toArray, List.set_cons_zero, List.set_cons_succ]
          refine wpAnyH_ready (rs := [12]) (by kernel_rfl) (by simp) ?_
          refine AllReadyH.cons rfl (fun K9 hK => ?_) AllReadyH.nil
          go_simp
          refine hK.out _ _ trivial (fun hHza34 => ?_)
          clear hK K9
          try simp only [Act.put, List.setIfInBounds_toArray, List.set_cons_zero, List.set_cons_succ]
          refine wpAnyH_done (by kernel_rfl) ?_ _
          have O8 := (O7.stored (0) (.slice (some ⟨gn, 0, none⟩) (x.1.length + 1) cn)).1
          have hres2 := Lib.hid (LoopsOwn.put (i := 0) (y := (x.1 ++ [(unitL r3, 0)], x.2)) O8 HN.out hoth (fun k h0 h1 => by rw [List.getElem?_set_ne (by omega)]) (by rw [List.getElem?_set_self (by omega)]) (by rw [List.getElem?_set_ne (by omega)]; exact HU1.out) ⟨hres, hsd⟩ (grown_set w7 gq (0) (.slice (some ⟨gn, 0, none⟩) (x.1.length + 1) cn)) (own_tag O7))
          have H8 := Lib.hid (H7.set (b := gq) (o := 0) (by omega) (.slice (some ⟨gn, 0, none⟩) (x.1.length + 1) cn)); have D8 := Lib.hid (D7.set (j := gq) (o := 0) (by omega) (.slice (some ⟨gn, 0, none⟩) (x.1.length + 1) cn))
          clear O8 hres hoth hsd H7 D7 O7 f7 k7
          go_wp2
          go_ret
          exact ⟨⟨_, _, _, ls.set 0 (x.1 ++ [(unitL r3, 0)], x.2), rfl, by rw [List.length_set]; exact HN.out, .inl (Nat.le_of_eq (by rw [List.length_set]; exact HN.out)), FourL.set (N := N + 5) (HF.out.mono (by omega)) (FourA.mono (FourA.push HFX.out.1 (unit4 _)) (by omega)) (HFX.out.2.mono (by omega)), hres2.out⟩, H8.out.mono (by omega), D8.out⟩
  have hb0 : ((r : Int) == 0) = false := by simp [h0]
  clear h0
  by_cases h1 : r = 1
  · subst h1
    obtain ⟨x, hx⟩ := get_some (xs := ls) (k := M) (by rw [HN.out]; omega)
    obtain ⟨u0, u1, hu0, hu1, hxo⟩ := HHE.out M x hx
    obtain ⟨pu0, cu0, rfl⟩ := PairsOwn.slice hxo.1
    obtain ⟨pu1, cu1, rfl⟩ := PairsOwn.slice hxo.2
    have hfx := HF.out.2 x (List.mem_of_getElem? hx)
    have HU0 := Lib.hid hu0; have HU1 := Lib.hid hu1; have HXO := Lib.hid hxo; have HFX := Lib.hid hfx; have HX := Lib.hid hx
    clear hu0 hu1 hxo hfx hx
    have hsub : IntKind.i64.wrap (((M + 1 : Nat) : Int) - 1) = (M : Int) := by simp [IntKind.wrap, IntKind.bits, IntKind.signed]; omega
    have hsub2 : IntKind.i64.wrap ((M : Int) + 1 - 1) = (M : Int) := by simp [IntKind.wrap, IntKind.bits, IntKind.signed]; omega
    have hsub3 : IntKind.i64.wrap (M : Int) = (M : Int) := by simp [IntKind.wrap, IntKind.bits, IntKind.signed]; omega
    have hMp : (0 : Int) ≤ (M : Int) := by omega
    have hMi : (M : Int) < (M : Int) + 1 := by omega
    have hMi2 : (M : Int) < ((M + 1 : Nat) : Int) := by omega
    have k2 : w2.cell? ⟨gq, M * 2 + 1, none⟩ = some (.slice pu1 x.2.length cu1) := by rw [HO.out.cellAt (M * 2 + 1) (by omega)]; exact HU1.out
    have f2 := HO.out.frozenAt (M * 2 + 1)
    have O8 := (HO.out.stored (M * 2 + 1) (.slice none 0 0)).1
    have hres2 := Lib.hid (LoopsOwn.put (i := M) (y := (x.1, [])) O8 HN.out (fun j y _ hy => HHE.out j y hy) (fun k h0 h1 => by rw [List.getElem?_set_ne (by omega)]) (by rw [List.getElem?_set_ne (by omega)]; exact HU0.out) (by rw [List.getElem?_set_self (by omega)]) ⟨HXO.out.1, AffsOwn.nil _ _⟩ (grown_set w2 gq (M * 2 + 1) (.slice none 0 0)) hTq.out)
    have H8 := Lib.hid (H2.out.set (b := gq) (o := M * 2 + 1) (by omega) (.slice none 0 0)); have D8 := Lib.hid (D2.out.set (j := gq) (o := M * 2 + 1) (by omega) (.slice none 0 0))
    clear O8
    go_wp2
    go_ret
    exact ⟨⟨_, _, _, ls.set M (x.1, []), rfl, by rw [List.length_set]; exact HN.out, .inl (Nat.le_of_eq (by rw [List.length_set]; exact HN.out)), FourL.set (N := N + 5) (HF.out.mono (by omega)) (HFX.out.1.mono (by omega)) ⟨by simp, fun a h => by simp at h⟩, hres2.out⟩, H8.out.mono (by omega), D8.out⟩
  have hb1 : ((r : Int) == 1) = false := by simp; omega
  clear h1
  by_cases h2 : r = 2
  · subst h2
    obtain ⟨x, hx⟩ := get_some (xs := ls) (k := M) (by rw [HN.out]; omega)
    obtain ⟨u0, u1, hu0, hu1, hxo⟩ := HHE.out M x hx
    obtain ⟨pu0, cu0, rfl⟩ := PairsOwn.slice hxo.1
    obtain ⟨pu1, cu1, rfl⟩ := PairsOwn.slice hxo.2
    have hfx := HF.out.2 x (List.mem_of_getElem? hx)
    have HU0 := Lib.hid hu0; have HU1 := Lib.hid hu1; have HXO := Lib.hid hxo; have HFX := Lib.hid hfx; have HX := Lib.hid hx
    clear hu0 hu1 hxo hfx hx
    have hsub : IntKind.i64.wrap (((M + 1 : Nat) : Int) - 1) = (M : Int) := by simp [IntKind.wrap, IntKind.bits, IntKind.signed]; omega
    have hsub2 : IntKind.i64.wrap ((M : Int) + 1 - 1) = (M : Int) := by simp [IntKind.wrap, IntKind.bits, IntKind.signed]; omega
    have hsub3 : IntKind.i64.wrap (M : Int) = (M : Int) := by simp [IntKind.wrap, IntKind.bits, IntKind.signed]; omega
    have hMp : (0 : Int) ≤ (M : Int) := by omega
    have hMi : (M : Int) < (M : Int) + 1 := by omega
    have hMi2 : (M : Int) < ((M + 1 : Nat) : Int) := by omega
    have c0 : w2.cell? ⟨gq, M * 2 + 1, none⟩ = some (.slice pu1 x.2.length cu1) := (by rw [HO.out.cellAt (M * 2 + 1) (by omega)]; exact HU1.out)
    have hlq := hgq.2
    go_wp2_with (fail)
    refine wp_region_held_drew (S := (fun _ => True)) (by kernel_rfl) trivial (fun hHeld => ?_)
    refine wpAnyH_takeDw (some 39) (i := 0) (v := ?vzb1) rfl (by kernel_rfl) (by kernel_rfl) (by kernel_rfl) (by kernel_rfl) (fun _ _ _ h => h) (Or.inl ⟨by rfl, ?hyzb1⟩) (by assumption) ?rzb1
    case hyzb1 => intro w hSw; (try dsimp only at hSw); go_simp; first | done | with_reducible rfl
    case' rzb1 => try simp only [Act.put, List.setIfInBounds_toArray, List.set_cons_zero, List.set_cons_succ]
    refine wpAnyH_takeDw (some 40) (i := 1) (v := ?vzb2) rfl (by kernel_rfl) (by kernel_rfl) (by kernel_rfl) (by kernel_rfl) (fun _ _ _ h => h) (Or.inl ⟨by rfl, ?hyzb2⟩) (by assumption) ?rzb2
    case hyzb2 => intro w hSw; (try dsimp only at hSw); go_simp; first | done | with_reducible rfl
    case' rzb2 => try simp only [Act.put, List.setIfInBounds_toArray, List.set_cons_zero, List.set_cons_succ]
    refine wpAnyH_takeDw (some 41) (i := 2) (v := ?vzb3) rfl (by kernel_rfl) (by kernel_rfl) (by kernel_rfl) (by kernel_rfl) (fun _ _ _ h => h) (Or.inl ⟨by rfl, ?hyzb3⟩) (by assumption) ?rzb3
    case hyzb3 => intro w hSw; (try dsimp only at hSw); go_simp; first | done | with_reducible rfl
    case' rzb3 => try simp only [Act.put, List.setIfInBounds_toArray, List.set_cons_zero, List.set_cons_succ]
    refine wpAnyH_takeDw (some 42) (i := 3) (v := ?vzb4) rfl (by kernel_rfl) (by kernel_rfl) (by kernel_rfl) (by kernel_rfl) (fun _ _ _ h => h) (Or.inl ⟨by rfl, ?hyzb4⟩) (by assumption) ?rzb4
    case hyzb4 => intro w hSw; (try dsimp only at hSw); go_simp; first | done | with_reducible rfl
    case' rzb4 => try simp only [Act.put, List.setIfInBounds_toArray, List.set_cons_zero, List.set_cons_succ]
    refine wpAnyH_takeDw (some 43) (i := 4) (v := ?vzb5) rfl (by kernel_rfl) (by kernel_rfl) (by kernel_rfl) (by kernel_rfl) (fun _ _ _ h => h) (Or.inl ⟨by rfl, ?hyzb5⟩) (by assumption) ?rzb5
    case hyzb5 => intro w hSw; (try dsimp only at hSw); go_simp; first | done | with_reducible rfl
    case' rzb5 => try simp only [Act.put, List.setIfInBounds_toArray, List.set_cons_zero, List.set_cons_succ]
    refine wpAnyH_takeDw (some 44) (i := 5) (v := ?vzb6) rfl (by kernel_rfl) (by kernel_rfl) (by kernel_rfl) (by kernel_rfl) (fun _ _ _ h => h) (Or.inl ⟨by rfl, ?hyzb6⟩) (by assumption) ?rzb6
    case hyzb6 => intro w hSw; (try dsimp only at hSw); go_simp; first | done | with_reducible rfl
    case' rzb6 => try simp only [Act.put, List.setIfInBounds_toArray, List.set_cons_zero, List.set_cons_succ]
    refine wpAnyH_takeDw (some 45) (i := 6) (v := ?vzb7) rfl (by kernel_rfl) (by kernel_rfl) (by kernel_rfl) (by kernel_rfl) (fun _ _ _ h => h) (Or.inl ⟨by rfl, ?hyzb7⟩) (by assumption) ?rzb7
    case hyzb7 => intro w hSw; (try dsimp only at hSw); go_simp; first | done | with_reducible rfl
    case' rzb7 => try simp only [Act.put, List.setIfInBounds_toArray, List.set_cons_zero, List.set_cons_succ]
    refine wpAnyH_takeDw (some 46) (i := 7) (v := ?vzb8) rfl (by kernel_rfl) (by kernel_rfl) (by kernel_rfl) (by kernel_rfl) (fun _ _ _ h => h) (Or.inl ⟨by rfl, ?hyzb8⟩) (by assumption) ?rzb8
    case hyzb8 => intro w hSw; (try dsimp only at hSw); go_simp; first | done | with_reducible rfl
    case' rzb8 => try simp only [Act.put, List.setIfInBounds_toArray, List.set_cons_zero, List.set_cons_succ]
    refine wpAnyH_ready (rs := [8, 9]) (by kernel_rfl) (by simp) ?_
    refine AllReadyH.cons rfl (fun K9 hK => ?_) (AllReadyH.cons rfl (fun K9 hK => ?_) AllReadyH.nil)
    · skip
      go_simp
      refine hK.out _ _ trivial (fun hHzb9 => ?_)
      clear hK K9
      try simp only [Act.put, List.setIfInBounds_toArray, List.set_cons_zero, List.set_cons_succ]
      refine wpAnyH_ready (rs := [9]) (by kernel_rfl) (by simp) ?_
      refine AllReadyH.cons rfl (fun K9 hK => ?_) AllReadyH.nil
      (go_simp; refine (l1Const_any 1 _).mono ?_; rintro e v3 ⟨pN, cN, rfl, hvN, hE3⟩; have D3 : Dr w2 g v3 := ((Dr.refl w2 g).drew).ext hE3; have R3 := H2.out.ext ((Ext.refl w2).drew.trans hE3); have hs39 := D3.size; have O3 := row_dr HO.out D3 hlg; have c3 : v3.cell? ⟨gq, M * 2 + 1, none⟩ = some (.slice pu1 x.2.length cu1) := (by rw [O3.cellAt (M * 2 + 1) (by omega)]; exact HU1.out); have hl3 := (O3.lt gq rfl).2)
      refine hK.out _ _ trivial (fun hHzb10 => ?_)
      clear hK K9
      try simp only [Act.put, List.setIfInBounds_toArray, List.set_cons_zero, List.set_cons_succ]
      refine wpAnyH_ready (rs := [10]) (by kernel_rfl) (by simp) ?_
      refine AllReadyH.cons rfl (fun K9 hK => ?_) AllReadyH.nil
      (go_simp; refine (l1Const_any 2 _).mono ?_; rintro e v4 ⟨pO, cO, rfl, hvO, hE9⟩; have D4 : Dr w2 g v4 := D3.ext hE9; have RD4 := R3.ext hE9; have hs9 := D4.size; have hNO : IntsOwn w2.heap.size v4 (.slice pN 4 cN) [0, 0, 0, 0] := hvN.ext hE9; have O4 := row_dr HO.out D4 hlg; have c4 : v4.cell? ⟨gq, M * 2 + 1, none⟩ = some (.slice pu1 x.2.length cu1) := (by rw [O4.cellAt (M * 2 + 1) (by omega)]; exact HU1.out); have hl4 := (O4.lt gq rfl).2)
      refine hK.out _ _ trivial (fun hHzb11 => ?_)
      clear hK K9
      try simp only [Act.put, List.setIfInBounds_toArray, List.set_cons_zero, List.set_cons_succ]
      refine wpAnyH_ready (rs := [11]) (by kernel_rfl) (by simp) ?_
      refine AllReadyH.cons rfl (fun K9 hK => ?_) AllReadyH.nil
      go_simp
      refine hK.out _ _ trivial (fun hHzb12 => ?_)
      clear hK K9
      try simp only [Act.put, List.setIfInBounds_toArray, List.set_cons_zero, List.set_cons_succ]
      refine wpAnyH_ready (rs := [12]) (by kernel_rfl) (by simp) ?_
      refine AllReadyH.cons rfl (fun K9 hK => ?_) AllReadyH.nil
      (have EN : Ext v4 (v4.alloc (.cells #[.slice pN 4 cN, .int .i64 1, .slice pO 4 cO, .int .i64 2] 36)) := (Ext.refl v4).alloc _; obtain ⟨vs0, ho, he0⟩ := AffsOwn.ext (AffsOwn.dr HXO.out.2 D4 hlg) EN; have hvl0 := ho.1; have hxl := HFX.out.2.1; refine step_append_lies _ rfl (.tmp 47) (.tmp 50) 49 rfl w.heap.size 36 i1 (.agg #[.slice none 0 0, .int .i64 0]) 2 32 underSliceAff ha hy0 hy1 hy2 rfl (by decide) (.slice pu1 x.2.length cu1) x.2.length vs0 rfl ho ⟨v4.heap.size, 0, none⟩ 2 2 [.slice pN 4 cN, .int .i64 1, .slice pO 4 cO, .int .i64 2] rfl rfl (quad_cells rfl) (by intro u hu; simp at hu; rcases hu with rfl | rfl | rfl | rfl <;> rfl) (by omega) (by unfold maxLen; omega) (by omega) (by simp <;> omega) _ rfl ?_; intro gn cn w7 hown' hgrow' hgeq' hltg; have htag := own_tag ho; have hres : AffsOwn w.heap.size w7 (.slice (some ⟨gn, 0, none⟩) (x.2.length + 2) cn) (x.2 ++ [([0, 0, 0, 0], 1), ([0, 0, 0, 0], 2)]) := PairsOwn.app (R := AffO) (m := 2) (fun h a b => AffO.grow h a b) rfl rfl he0 hvl0 (fun i y hi => by match i, hi with | 0, hi => (simp at hi; subst hi; exact ⟨_, _, rfl, rfl, (hNO.weak (by omega)).ext EN, rfl⟩) | 1, hi => (simp at hi; subst hi; exact ⟨_, _, rfl, rfl, (hvO.weak (by omega)).ext EN, rfl⟩)) hown' hgrow' htag; have O7 := row_tag (ownsRow_ext O4 EN) hgrow' htag (by decide); have hoth : ∀ j y, j ≠ M → ls[j]? = some y → ∃ t0 t1, vs[j * 2]? = some t0 ∧ vs[j * 2 + 1]? = some t1 ∧ LoopO w.heap.size w7 t0 t1 y := (fun j y hj hy => by obtain ⟨t0, t1, g0, g1, g2⟩ := HHE.out j y hy; exact ⟨t0, t1, g0, g1, AffsOwn.kept (AffsOwn.ext (AffsOwn.dr g2.1 D4 hlg) EN) hgrow' htag (blks_other HND.out (p := M * 2 + 1) (q := j * 2) (by omega) HU1.out g0), AffsOwn.kept (AffsOwn.ext (AffsOwn.dr g2.2 D4 hlg) EN) hgrow' htag (blks_other HND.out (p := M * 2 + 1) (q := j * 2 + 1) (by omega) HU1.out g1)⟩); have hsd := AffsOwn.kept (AffsOwn.ext (AffsOwn.dr HXO.out.1 D4 hlg) EN) hgrow' htag (blks_other HND.out (p := M * 2 + 1) (q := M * 2) (by omega) HU1.out HU0.out); have D7 := ((D2.out.trans D4).ext EN).fresh hgrow' (fun b hb => (ho.lt b hb).1); have H7 := (RD4.ext EN).beside hgrow' (fun j e => by have := (ho.lt j e).1; omega); have f7 := O7.frozenAt (M * 2 + 1); have k7 : w7.cell? ⟨gq, M * 2 + 1, none⟩ = some (.slice pu1 x.2.length cu1) := (by rw [O7.cellAt (M * 2 + 1) (by omega)]; exact HU1.out))
      refine hK.out _ _ trivial (fun hHzb13 => ?_)
      clear hK K9
      try simp only [Act.put, List.setIfInBounds_toArray, List.set_cons_zero, List.set_cons_succ]
      refine wpAnyH_takeDw (some 52) (i := 13) (v := ?vzb14) rfl (by kernel_rfl) (by kernel_rfl) (by kernel_rfl) (by kernel_rfl) (fun _ _ _ h => h) (Or.inl ⟨by rfl, ?hyzb14⟩) (by assumption) ?rzb14
      case hyzb14 => intro w hSw; (try dsimp only at hSw); go_simp; first | done | with_reducible rfl
      case' rzb14 => try simp only [Act.put, List.setIfInBounds_toArray, List.set_cons_zero, List.set_cons_succ]
      refine wpAnyH_takeDw (some 53) (i := 14) (v := ?vzb15) rfl (by kernel_rfl) (by kernel_rfl) (by kernel_rfl) (by kernel_rfl) (fun _ _ _ h => h) (Or.inl ⟨by rfl, ?hyzb15⟩) (by assumption) ?rzb15
      case hyzb15 => intro w hSw; (try dsimp only at hSw); go_simp; first | done | with_reducible rfl
      case' rzb15 => try simp only [Act.put, List.setIfInBounds_toArray, List.set_cons_zero, List.set_cons_succ]
      refine wpAnyH_ready (rs := [15]) (by kernel_rfl) (by simp) ?_
      refine AllReadyH.cons rfl (fun K9 hK => ?_) AllReadyH.nil
      go_simp
      refine hK.out _ _ trivial (fun hHzb16 => ?_)
      clear hK K9
      try simp only [Act.put, List.setIfInBounds_toArray, List.set_cons_zero, List.set_cons_succ]
      refine wpAnyH_done (by kernel_rfl) ?_ _
      have O8 := (O7.stored (M * 2 + 1) (.slice (some ⟨gn, 0, none⟩) (x.2.length + 2) cn)).1
      have hres2 := Lib.hid (LoopsOwn.put (i := M) (y := (x.1, x.2 ++ [([0, 0, 0, 0], 1), ([0, 0, 0, 0], 2)])) O8 HN.out hoth (fun k h0 h1 => by rw [List.getElem?_set_ne (by omega)]) (by rw [List.getElem?_set_ne (by omega)]; exact HU0.out) (by rw [List.getElem?_set_self (by omega)]) ⟨hsd, hres⟩ (grown_set w7 gq (M * 2 + 1) (.slice (some ⟨gn, 0, none⟩) (x.2.length + 2) cn)) (own_tag O7))
      have H8 := Lib.hid (H7.set (b := gq) (o := M * 2 + 1) (by omega) (.slice (some ⟨gn, 0, none⟩) (x.2.length + 2) cn)); have D8 := Lib.hid (D7.set (j := gq) (o := M * 2 + 1) (by omega) (.slice (some ⟨gn, 0, none⟩) (x.2.length + 2) cn))
      clear O8 hres hoth hsd H7 D7 O7 f7 k7
      go_wp2
      go_ret
      exact ⟨⟨_, _, _, ls.set M (x.1, x.2 ++ [([0, 0, 0, 0], 1), ([0, 0, 0, 0], 2)]), rfl, by rw [List.length_set]; exact HN.out, .inl (Nat.le_of_eq (by rw [List.length_set]; exact HN.out)), FourL.set (N := N + 5) (HF.out.mono (by omega)) (HFX.out.1.mono (by omega)) (FourA.mono (show FourA (N + 1 + 1) (x.2 ++ [([0, 0, 0, 0], 1), ([0, 0, 0, 0], 2)]) by have := FourA.push (a := ([0, 0, 0, 0], 2)) (FourA.push (a := ([0, 0, 0, 0], 1)) HFX.out.2 rfl) rfl; simpa using this) (by omega)), hres2.out⟩, H8.out.mono (by omega), D8.out⟩
    · skip
      (go_simp; refine (l1Const_any 1 _).mono ?_; rintro e v3 ⟨pN, cN, rfl, hvN, hE3⟩; have D3 : Dr w2 g v3 := ((Dr.refl w2 g).drew).ext hE3; have R3 := H2.out.ext ((Ext.refl w2).drew.trans hE3); have hs39 := D3.size; have O3 := row_dr HO.out D3 hlg; have c3 : v3.cell? ⟨gq, M * 2 + 1, none⟩ = some (.slice pu1 x.2.length cu1) := (by rw [O3.cellAt (M * 2 + 1) (by omega)]; exact HU1.out); have hl3 := (O3.lt gq rfl).2)
      refine hK.out _ _ trivial (fun hHzb17 => ?_)
      clear hK K9
      try simp only [Act.put, List.setIfInBounds_toArray, List.set_cons_zero, List.set_cons_succ]
      refine wpAnyH_ready (rs := [8, 10]) (by kernel_rfl) (by simp) ?_
      refine AllReadyH.cons rfl (fun K9 hK => ?_) (AllReadyH.cons rfl (fun K9 hK => ?_) AllReadyH.nil)
      · skip
        go_simp
        refine hK.out _ _ trivial (fun hHzb18 => ?_)
        clear hK K9
        try simp only [Act.put, List.setIfInBounds_toArray, List.set_cons_zero, List.set_cons_succ]
        refine wpAnyH_ready (rs := [10]) (by kernel_rfl) (by simp) ?_
        refine AllReadyH.cons rfl (fun K9 hK => ?_) AllReadyH.nil
        (go_simp; refine (l1Const_any 2 _).mono ?_; rintro e v4 ⟨pO, cO, rfl, hvO, hE9⟩; have D4 : Dr w2 g v4 := D3.ext hE9; have RD4 := R3.ext hE9; have hs9 := D4.size; have hNO : IntsOwn w2.heap.size v4 (.slice pN 4 cN) [0, 0, 0, 0] := hvN.ext hE9; have O4 := row_dr HO.out D4 hlg; have c4 : v4.cell? ⟨gq, M * 2 + 1, none⟩ = some (.slice pu1 x.2.length cu1) := (by rw [O4.cellAt (M * 2 + 1) (by omega)]; exact HU1.out); have hl4 := (O4.lt gq rfl).2)
        refine hK.out _ _ trivial (fun hHzb19 => ?_)
        clear hK K9
        try simp only [Act.put, List.setIfInBounds_toArray, List.set_cons_zero, List.set_cons_succ]
        refine wpAnyH_ready (rs := [11]) (by kernel_rfl) (by simp) ?_
        refine AllReadyH.cons rfl (fun K9 hK => ?_) AllReadyH.nil
        go_simp
        refine hK.out _ _ trivial (fun hHzb20 => ?_)
        clear hK K9
        try simp only [Act.put, List.setIfInBounds_toArray, List.set_cons_zero, List.set_cons_succ]
        refine wpAnyH_ready (rs := [12]) (by kernel_rfl) (by simp) ?_
        refine AllReadyH.cons rfl (fun K9 hK => ?_) AllReadyH.nil
        (have EN : Ext v4 (v4.alloc (.cells #[.slice pN 4 cN, .int .i64 1, .slice pO 4 cO, .int .i64 2] 36)) := (Ext.refl v4).alloc _; obtain ⟨vs0, ho, he0⟩ := AffsOwn.ext (AffsOwn.dr HXO.out.2 D4 hlg) EN; have hvl0 := ho.1; have hxl := HFX.out.2.1; refine step_append_lies _ rfl (.tmp 47) (.tmp 50) 49 rfl w.heap.size 36 i1 (.agg #[.slice none 0 0, .int .i64 0]) 2 32 underSliceAff ha hy0 hy1 hy2 rfl (by decide) (.slice pu1 x.2.length cu1) x.2.length vs0 rfl ho ⟨v4.heap.size, 0, none⟩ 2 2 [.slice pN 4 cN, .int .i64 1, .slice pO 4 cO, .int .i64 2] rfl rfl (quad_cells rfl) (by intro u hu; simp at hu; rcases hu with rfl | rfl | rfl | rfl <;> rfl) (by omega) (by unfold maxLen; omega) (by omega) (by simp <;> omega) _ rfl ?_; intro gn cn w7 hown' hgrow' hgeq' hltg; have htag := own_tag ho; have hres : AffsOwn w.heap.size w7 (.slice (some ⟨gn, 0, none⟩) (x.2.length + 2) cn) (x.2 ++ [([0, 0, 0, 0], 1), ([0, 0, 0, 0], 2)]) := PairsOwn.app (R := AffO) (m := 2) (fun h a b => AffO.grow h a b) rfl rfl he0 hvl0 (fun i y hi => by match i, hi with | 0, hi => (simp at hi; subst hi; exact ⟨_, _, rfl, rfl, (hNO.weak (by omega)).ext EN, rfl⟩) | 1, hi => (simp at hi; subst hi; exact ⟨_, _, rfl, rfl, (hvO.weak (by omega)).ext EN, rfl⟩)) hown' hgrow' htag; have O7 := row_tag (ownsRow_ext O4 EN) hgrow' htag (by decide); have hoth : ∀ j y, j ≠ M → ls[j]? = some y → ∃ t0 t1, vs[j * 2]? = some t0 ∧ vs[j * 2 + 1]? = some t1 ∧ LoopO w.heap.size w7 t0 t1 y := (fun j y hj hy => by obtain ⟨t0, t1, g0, g1, g2⟩ := HHE.out j y hy; exact ⟨t0, t1, g0, g1, AffsOwn.kept (AffsOwn.ext (AffsOwn.dr g2.1 D4 hlg) EN) hgrow' htag (blks_other HND.out (p := M * 2 + 1) (q := j * 2) (by omega) HU1.out g0), AffsOwn.kept (AffsOwn.ext (AffsOwn.dr g2.2 D4 hlg) EN) hgrow' htag (blks_other HND.out (p := M * 2 + 1) (q := j * 2 + 1) (by omega) HU1.out g1)⟩); have hsd := AffsOwn.kept (AffsOwn.ext (AffsOwn.dr HXO.out.1 D4 hlg) EN) hgrow' htag (blks_other HND.out (p := M * 2 + 1) (q := M * 2) (by omega) HU1.out HU0.out); have D7 := ((D2.out.trans D4).ext EN).fresh hgrow' (fun b hb => (ho.lt b hb).1); have H7 := (RD4.ext EN).beside hgrow' (fun j e => by have := (ho.lt j e).1; omega); have f7 := O7.frozenAt (M * 2 + 1); have k7 : w7.cell? ⟨gq, M * 2 + 1, none⟩ = some (.slice pu1 x.2.length cu1) := (by rw [O7.cellAt (M * 2 + 1) (by omega)]; exact HU1.out))
        refine hK.out _ _ trivial (fun hHzb21 => ?_)
        clear hK K9
        try simp only [Act.put, List.setIfInBounds_toArray, List.set_cons_zero, List.set_cons_succ]
        refine wpAnyH_takeDw (some 52) (i := 13) (v := ?vzb22) rfl (by kernel_rfl) (by kernel_rfl) (by kernel_rfl) (by kernel_rfl) (fun _ _ _ h => h) (Or.inl ⟨by rfl, ?hyzb22⟩) (by assumption) ?rzb22
        case hyzb22 => intro w hSw; (try dsimp only at hSw); go_simp; first | done | with_reducible rfl
        case' rzb22 => try simp only [Act.put, List.setIfInBounds_toArray, List.set_cons_zero, List.set_cons_succ]
        refine wpAnyH_takeDw (some 53) (i := 14) (v := ?vzb23) rfl (by kernel_rfl) (by kernel_rfl) (by kernel_rfl) (by kernel_rfl) (fun _ _ _ h => h) (Or.inl ⟨by rfl, ?hyzb23⟩) (by assumption) ?rzb23
        case hyzb23 => intro w hSw; (try dsimp only at hSw); go_simp; first | done | with_reducible rfl
        case' rzb23 => try simp only [Act.put, List.setIfInBounds_toArray, List.set_cons_zero, List.set_cons_succ]
        refine wpAnyH_ready (rs := [15]) (by kernel_rfl) (by simp) ?_
        refine AllReadyH.cons rfl (fun K9 hK => ?_) AllReadyH.nil
        go_simp
        refine hK.out _ _ trivial (fun hHzb24 => ?_)
        clear hK K9
        try simp only [Act.put, List.setIfInBounds_toArray, List.set_cons_zero, List.set_cons_succ]
        refine wpAnyH_done (by kernel_rfl) ?_ _
        have O8 := (O7.stored (M * 2 + 1) (.slice (some ⟨gn, 0, none⟩) (x.2.length + 2) cn)).1
        have hres2 := Lib.hid (LoopsOwn.put (i := M) (y := (x.1, x.2 ++ [([0, 0, 0, 0], 1), ([0, 0, 0, 0], 2)])) O8 HN.out hoth (fun k h0 h1 => by rw [List.getElem?_set_ne (by omega)]) (by rw [List.getElem?_set_ne (by omega)]; exact HU0.out) (by rw [List.getElem?_set_self (by omega)]) ⟨hsd, hres⟩ (grown_set w7 gq (M * 2 + 1) (.slice (some ⟨gn, 0, none⟩) (x.2.length + 2) cn)) (own_tag O7))
        have H8 := Lib.hid (H7.set (b := gq) (o := M * 2 + 1) (by omega) (.slice (some ⟨gn, 0, none⟩) (x.2.length + 2) cn)); have D8 := Lib.hid (D7.set (j := gq) (o := M * 2 + 1) (by omega) (.slice (some ⟨gn, 0, none⟩) (x.2.length + 2) cn))
        clear O8 hres hoth hsd H7 D7 O7 f7 k7
        go_wp2
        go_ret
        exact ⟨⟨_, _, _, ls.set M (x.1, x.2 ++ [([0, 0, 0, 0], 1), ([0, 0, 0, 0], 2)]), rfl, by rw [List.length_set]; exact HN.out, .inl (Nat.le_of_eq (by rw [List.length_set]; exact HN.out)), FourL.set (N := N + 5) (HF.out.mono (by omega)) (HFX.out.1.mono (by omega)) (FourA.mono (show FourA (N + 1 + 1) (x.2 ++ [([0, 0, 0, 0], 1), ([0, 0, 0, 0], 2)]) by have := FourA.push (a := ([0, 0, 0, 0], 2)) (FourA.push (a := ([0, 0, 0, 0], 1)) HFX.out.2 rfl) rfl; simpa using this) (by omega)), hres2.out⟩, H8.out.mono (by omega), D8.out⟩
      · skip
        (go_simp; refine (l1Const_any 2 _).mono ?_; rintro e v4 ⟨pO, cO, rfl, hvO, hE9⟩; have D4 : Dr w2 g v4 := D3.ext hE9; have RD4 := R3.ext hE9; have hs9 := D4.size; have hNO : IntsOwn w2.heap.size v4 (.slice pN 4 cN) [0, 0, 0, 0] := hvN.ext hE9; have O4 := row_dr HO.out D4 hlg; have c4 : v4.cell? ⟨gq, M * 2 + 1, none⟩ = some (.slice pu1 x.2.length cu1) := (by rw [O4.cellAt (M * 2 + 1) (by omega)]; exact HU1.out); have hl4 := (O4.lt gq rfl).2)
        refine hK.out _ _ trivial (fun hHzb25 => ?_)
        clear hK K9
        try simp only [Act.put, List.setIfInBounds_toArray, List.set_cons_zero, List.set_cons_succ]
        refine wpAnyH_ready (rs := [8, 11]) (by kernel_rfl) (by simp) ?_
        refine AllReadyH.cons rfl (fun K9 hK => ?_) (AllReadyH.cons rfl (fun K9 hK => ?_) AllReadyH.nil)
        · skip
          go_simp
          refine hK.out _ _ trivial (fun hHzb26 => ?_)
          clear hK K9
          try simp only [Act.put, List.setIfInBounds_toArray, List.set_cons_zero, List.set_cons_succ]
          refine wpAnyH_ready (rs := [11]) (by kernel_rfl) (by simp) ?_
          refine AllReadyH.cons rfl (fun K9 hK => ?_) AllReadyH.nil
          go_simp
          refine hK.out _ _ trivial (fun hHzb27 => ?_)
          clear hK K9
          try simp only [Act.put, List.setIfInBounds_toArray, List.set_cons_zero, List.set_cons_succ]
          refine wpAnyH_ready (rs := [12]) (by kernel_rfl) (by simp) ?_
          refine AllReadyH.cons rfl (fun K9 hK => ?_) AllReadyH.nil
          (have EN : Ext v4 (v4.alloc (.cells #[.slice pN 4 cN, .int .i64 1, .slice pO 4 cO, .int .i64 2] 36)) := (Ext.refl v4).alloc _; obtain ⟨vs0, ho, he0⟩ := AffsOwn.ext (AffsOwn.dr HXO.out.2 D4 hlg) EN; have hvl0 := ho.1; have hxl := HFX.out.2.1; refine step_append_lies _ rfl (.tmp 47) (.tmp 50) 49 rfl w.heap.size 36 i1 (.agg #[.slice none 0 0, .int .i64 0]) 2 32 underSliceAff ha hy0 hy1 hy2 rfl (by decide) (.slice pu1 x.2.length cu1) x.2.length vs0 rfl ho ⟨v4.heap.size, 0, none⟩ 2 2 [.slice pN 4 cN, .int .i64 1, .slice pO 4 cO, .int .i64 2] rfl rfl (quad_cells rfl) (by intro u hu; simp at hu; rcases hu with rfl | rfl | rfl | rfl <;> rfl) (by omega) (by unfold maxLen; omega) (by omega) (by simp <;> omega) _ rfl ?_; intro gn cn w7 hown' hgrow' hgeq' hltg; have htag := own_tag ho; have hres : AffsOwn w.heap.size w7 (.slice (some ⟨gn, 0, none⟩) (x.2.length + 2) cn) (x.2 ++ [([0, 0, 0, 0], 1), ([0, 0, 0, 0], 2)]) := PairsOwn.app (R := AffO) (m := 2) (fun h a b => AffO.grow h a b) rfl rfl he0 hvl0 (fun i y hi => by match i, hi with | 0, hi => (simp at hi; subst hi; exact ⟨_, _, rfl, rfl, (hNO.weak (by omega)).ext EN, rfl⟩) | 1, hi => (simp at hi; subst hi; exact ⟨_, _, rfl, rfl, (hvO.weak (by omega)).ext EN, rfl⟩)) hown' hgrow' htag; have O7 := row_tag (ownsRow_ext O4 EN) hgrow' htag (by decide); have hoth : ∀ j y, j ≠ M → ls[j]? = some y → ∃ t0 t1, vs[j * 2]? = some t0 ∧ vs[j * 2 + 1]? = some t1 ∧ LoopO w.heap.size w7 t0 t1 y := (fun j y hj hy => by obtain ⟨t0, t1, g0, g1, g2⟩ := HHE.out j y hy; exact ⟨t0, t1, g0, g1, AffsOwn.kept (AffsOwn.ext (AffsOwn.dr g2.1 D4 hlg) EN) hgrow' htag (blks_other HND.out (p := M * 2 + 1) (q := j * 2) (by omega) HU1.out g0), AffsOwn.kept (AffsOwn.ext (AffsOwn.dr g2.2 D4 hlg) EN) hgrow' htag (blks_other HND.out (p := M * 2 + 1) (q := j * 2 + 1) (by omega) HU1.out g1)⟩); have hsd := AffsOwn.kept (AffsOwn.ext (AffsOwn.dr HXO.out.1 D4 hlg) EN) hgrow' htag (blks_other HND.out (p := M * 2 + 1) (q := M * 2) (by omega) HU1.out HU0.out); have D7 := ((D2.out.trans D4).ext EN).fresh hgrow' (fun b hb => (ho.lt b hb).1); have H7 := (RD4.ext EN).beside hgrow' (fun j e => by have := (ho.lt j e).1; omega); have f7 := O7.frozenAt (M * 2 + 1); have k7 : w7.cell? ⟨gq, M * 2 + 1, none⟩ = some (.slice pu1 x.2.length cu1) := (by rw [O7.cellAt (M * 2 + 1) (by omega)]; exact HU1.out))
          refine hK.out _ _ trivial (fun hHzb28 => ?_)
          clear hK K9
          try simp only [Act.put, List.setIfInBounds_toArray, List.set_cons_zero, List.set_cons_succ]
          refine wpAnyH_takeDw (some 52) (i := 13) (v := ?vzb29) rfl (by kernel_rfl) (by kernel_rfl) (by kernel_rfl) (by kernel_rfl) (fun _ _ _ h => h) (Or.inl ⟨by rfl, ?hyzb29⟩) (by assumption) ?rzb29
          case hyzb29 => intro w hSw; (try dsimp only at hSw); go_simp; first | done | with_reducible rfl
          case' rzb29 => try simp only [Act.put, List.setIfInBounds_toArray, List.set_cons_zero, List.set_cons_succ]
          refine wpAnyH_takeDw (some 53) (i := 14) (v := ?vzb30) rfl (by kernel_rfl) (by kernel_rfl) (by kernel_rfl) (by kernel_rfl) (fun _ _ _ h => h) (Or.inl ⟨by rfl, ?hyzb30⟩) (by assumption) ?rzb30
          case hyzb30 => intro w hSw; (try dsimp only at hSw); go_simp; first | done | with_reducible rfl
          case' rzb30 => try simp only [Act.put, List.setIfInBounds_toArray, List.set_cons_zero, List.set_cons_succ]
          refine wpAnyH_ready (rs := [15]) (by kernel_rfl) (by simp) ?_
          refine AllReadyH.cons rfl (fun K9 hK => ?_) AllReadyH.nil
          go_simp
          refine hK.out _ _ trivial (fun hHzb31 => ?_)
          clear hK K9
          try simp only [Act.put, List.setIfInBounds_toArray, List.set_cons_zero, List.set_cons_succ]
          refine wpAnyH_done (by kernel_rfl) ?_ _
          have O8 := (O7.stored (M * 2 + 1) (.slice (some ⟨gn, 0, none⟩) (x.2.length + 2) cn)).1
          have hres2 := Lib.hid (LoopsOwn.put (i := M) (y := (x.1, x.2 ++ [([0, 0, 0, 0], 1), ([0, 0, 0, 0], 2)])) O8 HN.out hoth (fun k h0 h1 => by rw [List.getElem?_set_ne (by omega)]) (by rw [List.getElem?_set_ne (by omega)]; exact HU0.out) (by rw [List.getElem?_set_self (by omega)]) ⟨hsd, hres⟩ (grown_set w7 gq (M * 2 + 1) (.slice (some ⟨gn, 0, none⟩) (x.2.length + 2) cn)) (own_tag O7))
          have H8 := Lib.hid (H7.set (b := gq) (o := M * 2 + 1) (by omega) (.slice (some ⟨gn, 0, none⟩) (x.2.length + 2) cn)); have D8 := Lib.hid (D7.set (j := gq) (o := M * 2 + 1) (by omega) (.slice (some ⟨gn, 0, none⟩) (x.2.length + 2) cn))
          clear O8 hres hoth hsd H7 D7 O7 f7 k7
          go_wp2
          go_ret
          exact ⟨⟨_, _, _, ls.set M (x.1, x.2 ++ [([0, 0, 0, 0], 1), ([0, 0, 0, 0], 2)]), rfl, by rw [List.length_set]; exact HN.out, .inl (Nat.le_of_eq (by rw [List.length_set]; exact HN.out)), FourL.set (N := N + 5) (HF.out.mono (by omega)) (HFX.out.1.mono (by omega)) (FourA.mono (show FourA (N + 1 + 1) (x.2 ++ [([0, 0, 0, 0], 1), ([0, 0, 0, 0], 2)]) by have := FourA.push (a := ([0, 0, 0, 0], 2)) (FourA.push (a := ([0, 0, 0, 0], 1)) HFX.out.2 rfl) rfl; simpa using this) (by omega)), hres2.out⟩, H8.out.mono (by omega), D8.out⟩
        · skip
          go_simp
          refine hK.out _ _ trivial (fun hHzb32 => ?_)
          clear hK K9
          try simp only [Act.put, List.setIfInBounds_toArray, List.set_cons_zero, List.set_cons_succ]
          refine wpAnyH_ready (rs := [8]) (by kernel_rfl) (by simp) ?_
          refine AllReadyH.cons rfl (fun K9 hK => ?_) AllReadyH.nil
          go_simp
          refine hK.out _ _ trivial (fun hHzb33 => ?_)
          clear hK K9
          try simp only [Act.put, List.setIfInBounds_toArray, List.set_cons_zero, List.set_cons_succ]
          refine wpAnyH_ready (rs := [12]) (by kernel_rfl) (by simp) ?_
          refine AllReadyH.cons rfl (fun K9 hK => ?_) AllReadyH.nil
          (have EN : Ext v4 (v4.alloc (.cells #[.slice pN 4 cN, .int .i64 1, .slice pO 4 cO, .int .i64 2] 36)) := (Ext.refl v4).alloc _; obtain ⟨vs0, ho, he0⟩ := AffsOwn.ext (AffsOwn.dr HXO.out.2 D4 hlg) EN; have hvl0 := ho.1; have hxl := HFX.out.2.1; refine step_append_lies _ rfl (.tmp 47) (.tmp 50) 49 rfl w.heap.size 36 i1 (.agg #[.slice none 0 0, .int .i64 0]) 2 32 underSliceAff ha hy0 hy1 hy2 rfl (by decide) (.slice pu1 x.2.length cu1) x.2.length vs0 rfl ho ⟨v4.heap.size, 0, none⟩ 2 2 [.slice pN 4 cN, .int .i64 1, .slice pO 4 cO, .int .i64 2] rfl rfl (quad_cells rfl) (by intro u hu; simp at hu; rcases hu with rfl | rfl | rfl | rfl <;> rfl) (by omega) (by unfold maxLen; omega) (by omega) (by simp <;> omega) _ rfl ?_; intro gn cn w7 hown' hgrow' hgeq' hltg; have htag := own_tag ho; have hres : AffsOwn w.heap.size w7 (.slice (some ⟨gn, 0, none⟩) (x.2.length + 2) cn) (x.2 ++ [([0, 0, 0, 0], 1), ([0, 0, 0, 0], 2)]) := PairsOwn.app (R := AffO) (m := 2) (fun h a b => AffO.grow h a b) rfl rfl he0 hvl0 (fun i y hi => by match i, hi with | 0, hi => (simp at hi; subst hi; exact ⟨_, _, rfl, rfl, (hNO.weak (by omega)).ext EN, rfl⟩) | 1, hi => (simp at hi; subst hi; exact ⟨_, _, rfl, rfl, (hvO.weak (by omega)).ext EN, rfl⟩)) hown' hgrow' htag; have O7 := row_tag (ownsRow_ext O4 EN) hgrow' htag (by decide); have hoth : ∀ j y, j ≠ M → ls[j]? = some y → ∃ t0 t1, vs[j * 2]? = some t0 ∧ vs[j * 2 + 1]? = some t1 ∧ LoopO w.heap.size w7 t0 t1 y := (fun j y hj hy => by obtain ⟨t0, t1, g0, g1, g2⟩ := HHE.out j y hy; exact ⟨t0, t1, g0, g1, AffsOwn.kept (AffsOwn.ext (AffsOwn.dr g2.1 D4 hlg) EN) hgrow' htag (blks_other HND.out (p := M * 2 + 1) (q := j * 2) (by omega) HU1.out g0), AffsOwn.kept (AffsOwn.ext (AffsOwn.dr g2.2 D4 hlg) EN) hgrow' htag (blks_other HND.out (p := M * 2 + 1) (q := j * 2 + 1) (by omega) HU1.out g1)⟩); have hsd := AffsOwn.kept (AffsOwn.ext (AffsOwn.dr HXO.out.1 D4 hlg) EN) hgrow' htag (blks_other HND.out (p := M * 2 + 1) (q := M * 2) (by omega) HU1.out HU0.out); have D7 := ((D2.out.trans D4).ext EN).fresh hgrow' (fun b hb => (ho.lt b hb).1); have H7 := (RD4.ext EN).beside hgrow' (fun j e => by have := (ho.lt j e).1; omega); have f7 := O7.frozenAt (M * 2 + 1); have k7 : w7.cell? ⟨gq, M * 2 + 1, none⟩ = some (.slice pu1 x.2.length cu1) := (by rw [O7.cellAt (M * 2 + 1) (by omega)]; exact HU1.out))
          refine hK.out _ _ trivial (fun hHzb34 => ?_)
          clear hK K9
          try simp only [Act.put, List.setIfInBounds_toArray, List.set_cons_zero, List.set_cons_succ]
          refine wpAnyH_takeDw (some 52) (i := 13) (v := ?vzb35) rfl (by kernel_rfl) (by kernel_rfl) (by kernel_rfl) (by kernel_rfl) (fun _ _ _ h => h) (Or.inl ⟨by rfl, ?hyzb35⟩) (by assumption) ?rzb35
          case hyzb35 => intro w hSw; (try dsimp only at hSw); go_simp; first | done | with_reducible rfl
          case' rzb35 => try simp only [Act.put, List.setIfInBounds_toArray, List.set_cons_zero, List.set_cons_succ]
          refine wpAnyH_takeDw (some 53) (i := 14) (v := ?vzb36) rfl (by kernel_rfl) (by kernel_rfl) (by kernel_rfl) (by kernel_rfl) (fun _ _ _ h => h) (Or.inl ⟨by rfl, ?hyzb36⟩) (by assumption) ?rzb36
          case hyzb36 => intro w hSw; (try dsimp only at hSw); go_simp; first | done | with_reducible rfl
          case' rzb36 => try simp only [Act.put, List.setIfInBounds_toArray, List.set_cons_zero, List.set_cons_succ]
          refine wpAnyH_ready (rs := [15]) (by kernel_rfl) (by simp) ?_
          refine AllReadyH.cons rfl (fun K9 hK => ?_) AllReadyH.nil
          go_simp
          refine hK.out _ _ trivial (fun hHzb37 => ?_)
          clear hK K9
          try simp only [Act.put, List.setIfInBounds_toArray, List.set_cons_zero, List.set_cons_succ]
          refine wpAnyH_done (by kernel_rfl) ?_ _
          have O8 := (O7.stored (M * 2 + 1) (.slice (some ⟨gn, 0, none⟩) (x.2.length + 2) cn)).1
          have hres2 := Lib.hid (LoopsOwn.put (i := M) (y := (x.1, x.2 ++ [([0, 0, 0, 0], 1), ([0, 0, 0, 0], 2)])) O8 HN.out hoth (fun k h0 h1 => by rw [List.getElem?_set_ne (by omega)]) (by rw [List.getElem?_set_ne (by omega)]; exact HU0.out) (by rw [List.getElem?_set_self (by omega)]) ⟨hsd, hres⟩ (grown_set w7 gq (M * 2 + 1) (.slice (some ⟨gn, 0, none⟩) (x.2.length + 2) cn)) (own_tag O7))
          have H8 := Lib.hid (H7.set (b := gq) (o := M * 2 + 1) (by omega) (.slice (some ⟨gn, 0, none⟩) (x.2.length + 2) cn)); have D8 := Lib.hid (D7.set (j := gq) (o := M * 2 + 1) (by omega) (.slice (some ⟨gn, 0, none⟩) (x.2.length + 2) cn))
          clear O8 hres hoth hsd H7 D7 O7 f7 k7
          go_wp2
          go_ret
          exact ⟨⟨_, _, _, ls.set M (x.1, x.2 ++ [([0, 0, 0, 0], 1), ([0, 0, 0, 0], 2)]), rfl, by rw [List.length_set]; exact HN.out, .inl (Nat.le_of_eq (by rw [List.length_set]; exact HN.out)), FourL.set (N := N + 5) (HF.out.mono (by omega)) (HFX.out.1.mono (by omega)) (FourA.mono (show FourA (N + 1 + 1) (x.2 ++ [([0, 0, 0, 0], 1), ([0, 0, 0, 0], 2)]) by have := FourA.push (a := ([0, 0, 0, 0], 2)) (FourA.push (a := ([0, 0, 0, 0], 1)) HFX.out.2 rfl) rfl; simpa using this) (by omega)), hres2.out⟩, H8.out.mono (by omega), D8.out⟩
  have hb2 : ((r : Int) == 2) = false := by simp; omega
  clear h2
  by_cases h3 : r = 3
  · subst h3
    obtain ⟨x, hx⟩ := get_some (xs := ls) (k := 0) (by rw [HN.out]; omega)
    obtain ⟨u0, u1, hu0, hu1, hxo⟩ := HHE.out 0 x hx
    obtain ⟨pu0, cu0, rfl⟩ := PairsOwn.slice hxo.1
    obtain ⟨pu1, cu1, rfl⟩ := PairsOwn.slice hxo.2
    have hfx := HF.out.2 x (List.mem_of_getElem? hx)
    have HU0 := Lib.hid hu0; have HU1 := Lib.hid hu1; have HXO := Lib.hid hxo; have HFX := Lib.hid hfx; have HX := Lib.hid hx
    clear hu0 hu1 hxo hfx hx
    go_wp2_with (fail)
    refine (l1Const_any 99 w2).mono ?_
    rintro e v3 ⟨pN, cN, rfl, hvN, hE3⟩
    have E5 : Ext w2 (v3.alloc (.cells #[.slice pN 4 cN, .int .i64 99] 36)) := hE3.alloc _
    have hs3 := hE3.size_le
    have hside := one_side5 (B := w.heap.size) (w := v3.alloc (.cells #[.slice pN 4 cN, .int .i64 99] 36)) (blk_at rfl) (by omega) ((hvN.weak (by omega)).ext ((Ext.refl v3).alloc _))
    have O5 := ownsRow_ext HO.out E5
    have hTq5 : Tag (v3.alloc (.cells #[.slice pN 4 cN, .int .i64 99] 36)) (some gq) 75 := own_tag O5
    have k5 : (v3.alloc (.cells #[.slice pN 4 cN, .int .i64 99] 36)).cell? ⟨gq, 1, none⟩ = some (.slice pu1 x.2.length cu1) := by rw [O5.cellAt 1 (by omega)]; exact HU1.out
    have k3 : v3.cell? ⟨gq, 1, none⟩ = some (.slice pu1 x.2.length cu1) := by rw [(ownsRow_ext HO.out hE3).cellAt 1 (by omega)]; exact HU1.out
    have f5 := O5.frozenAt 1
    have f3 := (ownsRow_ext HO.out hE3).frozenAt 1
    have hl3 := ((ownsRow_ext HO.out hE3).lt gq rfl).2
    have O8 := (O5.stored 1 (.slice (some ⟨v3.heap.size, 0, none⟩) 1 1)).1
    have hres2 := Lib.hid (LoopsOwn.put (i := 0) (y := (x.1, [([0, 0, 0, 0], 99)])) O8 HN.out (fun j y _ hy => by obtain ⟨t0, t1, g0, g1, g2⟩ := HHE.out j y hy; exact ⟨t0, t1, g0, g1, g2.ext' E5⟩) (fun k h0 h1 => by rw [List.getElem?_set_ne (by omega)]) (by rw [List.getElem?_set_ne (by omega)]; exact HU0.out) (by rw [List.getElem?_set_self (by omega)]) ⟨AffsOwn.ext HXO.out.1 E5, hside⟩ (grown_set _ gq 1 (.slice (some ⟨v3.heap.size, 0, none⟩) 1 1)) hTq5)
    have H8 := Lib.hid ((H2.out.ext E5).set (b := gq) (o := 1) (by omega) (.slice (some ⟨v3.heap.size, 0, none⟩) 1 1)); have D8 := Lib.hid ((D2.out.ext E5).set (j := gq) (o := 1) (by omega) (.slice (some ⟨v3.heap.size, 0, none⟩) 1 1))
    rw [World.setCell_alloc_past _ _ _ _ hl3] at hres2 H8 D8
    clear O8 hside O5 hvN hE3 E5
    go_wp2
    go_ret
    exact ⟨⟨_, _, _, ls.set 0 (x.1, [([0, 0, 0, 0], 99)]), rfl, by rw [List.length_set]; exact HN.out, .inl (Nat.le_of_eq (by rw [List.length_set]; exact HN.out)), FourL.set (N := N + 5) (HF.out.mono (by omega)) (HFX.out.1.mono (by omega)) ⟨by simp, fun a h => by simp at h; rw [h]; rfl⟩, hres2.out⟩, H8.out.mono (by omega), D8.out⟩
  have hb3 : ((r : Int) == 3) = false := by simp; omega
  clear h3
  by_cases h4 : r = 4
  · subst h4
    have HLO := Lib.hid HV2.out.own
    clear HV2
    go_wp2
    go_loopw [5] (fun v wr => ∃ (m gv cv : Nat) (ls2 : List Lp), v = .slice (some ⟨gv, 0, none⟩) m cv ∧ 1 ≤ m ∧ ls2.length = m ∧ FourL (N + 5) ls2 ∧ LoopsOwn w.heap.size wr (.slice (some ⟨gv, 0, none⟩) m cv) ls2 ∧ Rd W g (K + 1) wr ∧ Dr w g wr) (fun v _ => match v with | .slice _ m _ => 5 - m | _ => 0)
    case atStart => exact ⟨M + 1, gq, d, ls, rfl, by omega, HN.out, HF.out.mono (by omega), HLO.out, H2.out, D2.out⟩
    case round =>
      obtain ⟨m, gv, cv, ls2, rfl, hm1, hl2, hf2, hv2, hR, hD⟩ := hrel
      have HL2 := Lib.hid hl2; have HF2 := Lib.hid hf2; have HVV := Lib.hid hv2; have HRR := Lib.hid hR; have HDD := Lib.hid hD; clear hl2 hf2 hv2 hR hD HLO
      by_cases hm4 : m ≤ 4
      · have hm4i : decide ((m : Int) ≤ 4) = true := decide_eq_true (by omega)
        obtain ⟨vs5, ho5, he5⟩ := HVV.out
        rw [HL2.out] at ho5
        have hvl5 := ho5.1
        obtain ⟨x, hx⟩ := get_some (xs := ls2) (k := 0) (by rw [HL2.out]; omega)
        obtain ⟨u0, u1, hu0, hu1, hxo⟩ := he5 0 x hx
        obtain ⟨pu0, cu0, rfl⟩ := PairsOwn.slice hxo.1
        obtain ⟨pu1, cu1, rfl⟩ := PairsOwn.slice hxo.2
        have hfx := HF2.out.2 x (List.mem_of_getElem? hx)
        have c0 : wr.cell? ⟨gv, 0, none⟩ = some (.slice pu0 x.1.length cu0) := by rw [ho5.cellAt 0 (by omega)]; exact hu0
        have c1 : wr.cell? ⟨gv, 1, none⟩ = some (.slice pu1 x.2.length cu1) := by rw [ho5.cellAt 1 (by omega)]; exact hu1
        have hlv := (ho5.lt gv rfl).2
        have hmp : (0 : Int) < (m : Int) := by omega
        have E5 : Ext wr (wr.alloc (.cells #[.slice pu0 x.1.length cu0, .slice pu1 x.2.length cu1] 75)) := (Ext.refl wr).alloc _
        have ho6 := ownsRow_ext ho5 E5
        have HHE5 : Hid (∀ i y, ls2[i]? = some y → ∃ t0 t1, vs5[i * 2]? = some t0 ∧ vs5[i * 2 + 1]? = some t1 ∧ LoopO w.heap.size (wr.alloc (.cells #[.slice pu0 x.1.length cu0, .slice pu1 x.2.length cu1] 75)) t0 t1 y) := Lib.hid (fun i y hi => by obtain ⟨t0, t1, g0, g1, g2⟩ := he5 i y hi; exact ⟨t0, t1, g0, g1, g2.ext' E5⟩)
        have HX5 := Lib.hid (LoopO.ext' hxo E5)
        have H5 := Lib.hid (HRR.out.ext E5); have D5 := Lib.hid (HDD.out.ext E5)
        have hbase : w.heap.size ≤ wr.heap.size + 1 := by have := HDD.out.size; omega
        have HFN : Hid (FourL (N + 5) (ls2 ++ [x])) := Lib.hid ⟨by rw [List.length_append, HL2.out]; simp; omega, fun l hl => by rcases List.mem_append.1 hl with hl | hl; exact HF2.out.2 l hl; simp at hl; rw [hl]; exact hfx⟩
        clear he5 ho5 hu0 hu1 hxo hfx hx E5
        go_wp2_with (at_builtin; refine wpList_append_own_at _ rfl (.tmp 66) (.tmp 70) 34 rfl w.heap.size 75 i2 (.agg #[.slice none 0 0, .slice none 0 0]) 2 48 underSliceLp hb hx0 hx1 hx2 rfl (by decide) (.slice (some ⟨gv, 0, none⟩) m cv) m vs5 rfl ho6 ⟨wr.heap.size, 0, none⟩ 1 1 [.slice pu0 x.1.length cu0, .slice pu1 x.2.length cu1] rfl rfl ?c1 ?c2 ?c3 ?c4 ?c5 ?_)
        case c1 => exact pair_cells rfl
        case c2 => intro u hu; simp at hu; rcases hu with rfl | rfl <;> rfl
        case c3 => unfold maxLen; omega
        case c4 => omega
        case c5 => simp; omega
        intro v' w4 hown' hgrow hnil hat
        have hne : v' ≠ .slice none 0 0 := by intro e; have := hnil; simp [e] at this
        obtain ⟨gn, cn, rfl, hcn⟩ := own_form' hown' hne
        have HRS := Lib.hid (show LoopsOwn w.heap.size w4 (.slice (some ⟨gn, 0, none⟩) (m + 1) cn) (ls2 ++ [x]) from PairsOwn.push (R := LoopO) (fun h a b => LoopO.grow h a b) HL2.out HHE5.out hvl5 hown' hgrow (own_tag ho6) HX5.out)
        have D4 := Lib.hid (D5.out.fresh hgrow (fun b hb => (ho6.lt b hb).1)); have H4 := Lib.hid (H5.out.beside hgrow (fun j e => by have := (ho6.lt j e).1; omega))
        clear hown' hgrow hnil hat hne ho6
        go_wp2
        go_roundw
        case rel => exact ⟨m + 1, gn, cn, ls2 ++ [x], rfl, by omega, by rw [List.length_append, HL2.out]; rfl, HFN.out, HRS.out, H4.out, D4.out⟩
        case measure => simp; omega
      · have hm4i : decide ((m : Int) ≤ 4) = false := decide_eq_false (by omega)
        go_wp2
        go_ret
        exact ⟨⟨_, _, _, ls2, rfl, HL2.out, .inr (by rw [HL2.out]; omega), HF2.out, HVV.out⟩, HRR.out.mono (by omega), HDD.out⟩
  have hb4 : ((r : Int) == 4) = false := by simp; omega
  clear h4
  have HLO := Lib.hid HV2.out.own
  clear HV2 hTq HHE HO HND
  go_wp2
  go_ret
  exact ⟨⟨_, _, _, ls, rfl, HN.out, .inl (Nat.le_of_eq HN.out), HF.out.mono (by omega), HLO.out⟩, H2.out.mono (by omega), D2.out⟩
end Go.Proofs.Ytccibfldadflkaa

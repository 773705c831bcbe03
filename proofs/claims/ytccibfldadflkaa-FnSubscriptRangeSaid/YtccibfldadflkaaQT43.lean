/- The texts W2 W3, joined. No statement is proved here. -/
import Derived.Test.YtccibfldadflkaaQT42
import Derived.Test.YtccibfldadflkaaQT37
import Derived.Test.YtccibfldadflkaaQT41
import Derived.Test.YtccibfldadflkaaQT35
/- The model's SubscriptRange. No statement is proved here. -/
namespace Go.Proofs.Ytccibfldadflkaa
open Go.RowKit

theorem srR_nil {ls : List Lp} {a : Aff} (h : nptsL ls = []) : srR ls a = (0, 0, false) := by
  unfold srR srL; rw [h]; split <;> rfl
theorem srR_inv {ls : List Lp} {a : Aff} (h : affValidB a.1 a.2 = false) : srR ls a = (0, 0, false) := by
  unfold srR boundB; rw [h]; rfl
theorem extR_take {L : List Int} {j : Nat} {v : Int} (hv : L[j]? = some v) (hj : 0 < j) : extR (L.take (j + 1)) = (min (extR (L.take j)).1 v, max (extR (L.take j)).2.1 v, true) := by
  rw [take_next hv]
  refine extR_next (fun e => ?_) v
  have h1 := (List.getElem?_eq_some_iff.1 hv).1
  have h2 := congrArg List.length e
  rw [List.length_take, List.length_nil] at h2
  omega

set_option linter.unusedVariables false in
set_option maxRecDepth 100000 in
set_option maxHeartbeats 4000000 in
theorem specSubscriptRange_any (p : Option Addr) (n cp : Nat) (ls : List Lp) (s : Value) (xs : List Int) (k : Int) (w : World) (hn : ls.length = n) (hs : LoopsAt w (.slice p n cp) ls) (ha : IntsAt w s xs) :
    Calls Try.prog 13 #[.slice p n cp, .agg #[s, .int .i64 k]] w fun e w' => e = .returned (.tuple #[.int .i64 (srR ls (xs, k)).1, .int .i64 (srR ls (xs, k)).2.1, .bool (srR ls (xs, k)).2.2]) ∧ Ext w w' := by
  have HS := Lib.hid hs; have HN := Lib.hid hn; have HA := Lib.hid ha
  obtain ⟨qa, ca, rfl, hma, -⟩ := ha
  obtain ⟨na, hna⟩ : ∃ m, xs.length = m := ⟨_, rfl⟩
  rw [hna] at HA hma ⊢
  have HNA := Lib.hid hna
  clear hs hn hna
  obtain ⟨g0, hg0⟩ : ∃ g, w.heap.size = g := ⟨_, rfl⟩
  obtain ⟨W1, hW1⟩ : ∃ W1, w.alloc (.cells #[.slice qa na ca, .int .i64 k] 36) = W1 := ⟨_, rfl⟩
  have E1 : Hid (Ext w W1) := Lib.hid (by rw [← hW1]; exact (Ext.refl w).alloc _)
  have B1 : Hid (W1.heap[g0]? = some (.cells #[.slice qa na ca, .int .i64 k] 36 (0, 0))) := Lib.hid (by rw [← hW1]; exact blk_at hg0.symm)
  have HG0 := Lib.hid hg0; have HW1 := Lib.hid hW1
  clear hg0 hW1
  go_enter Try.func13, Try.ntmps13
  go_wp2_with (fail)
  try rw [HG0.out]
  try rw [HW1.out]
  refine (specNestPoints_any p n cp ls W1 HN.out (HS.out.ext E1.out)).mono ?_
  rintro e w2 ⟨⟨v2, b2, rfl, hb2, hp2⟩, hE⟩
  have E2 := Lib.hid (E1.out.trans hE); have B2 := Lib.hid (hE.blk B1.out)
  obtain ⟨q2, d2, rfl⟩ := hp2.slice
  have hnp9 : (nptsL ls).length ≤ 120 := nptsL_len
  have HP2 := Lib.hid (hp2.at (by omega))
  obtain ⟨np, hnp⟩ : ∃ m, (nptsL ls).length = m := ⟨_, rfl⟩
  rw [hnp] at HP2 hnp9 ⊢
  have HNP := Lib.hid hnp; have HB2 := Lib.hid hb2.symm
  clear hE hp2 hnp hb2
  obtain ⟨a0, a1, -, -⟩ := blk2 B2.out
  cases b2 with
  | false =>
    have HR : Hid (srR ls (xs, k) = (0, 0, false)) := Lib.hid (srR_nil (by simp [nptsL, HB2.out]))
    go_wp2
    rw [HR.out]
    exact bodyPost_ret (v := .tuple #[.int .i64 0, .int .i64 0, .bool false]) (by simp [results, Try.results13, go_sem]) rfl ⟨rfl, E2.out⟩
  | true =>
    go_wp2_with (fail)
    refine (specAffineValid_any (.slice qa na ca) xs k w2 (HA.out.ext E2.out)).mono ?_
    obtain ⟨av, hav⟩ : ∃ b, affValidB xs k = b := ⟨_, rfl⟩
    rw [hav]
    rintro e w3 ⟨rfl, hE⟩
    have E3 := Lib.hid (E2.out.trans hE); have B3 := Lib.hid (hE.blk B2.out); have HP3 := Lib.hid (HP2.out.ext hE); have HAV := Lib.hid hav
    clear hE hav a0 a1
    obtain ⟨a0, a1, -, -⟩ := blk2 B3.out
    cases av with
    | false =>
      have HR : Hid (srR ls (xs, k) = (0, 0, false)) := Lib.hid (srR_inv HAV.out)
      go_wp2
      rw [HR.out]
      exact bodyPost_ret (v := .tuple #[.int .i64 0, .int .i64 0, .bool false]) (by simp [results, Try.results13, go_sem]) rfl ⟨rfl, E3.out⟩
    | true =>
      go_wp2_with (fail)
      refine (l1Depth_any qa na ca xs k w3 HNA.out (HA.out.ext E3.out)).mono ?_
      obtain ⟨x0, x1, x2, x3, hx4, -⟩ := valid_four HAV.out
      subst hx4
      obtain rfl : na = 4 := HNA.out.symm
      obtain ⟨dv, hdv⟩ : ∃ d, dep4 x0 x1 x2 x3 = d := ⟨_, rfl⟩
      rw [depK_four, hdv]
      rintro e w4 ⟨rfl, hE⟩
      have HBB : Hid (boundB (n : Int) ([x0, x1, x2, x3], k) = decide (dv ≤ (n : Int))) := Lib.hid (by rw [boundB_four HAV.out, hdv])
      have E4 := Lib.hid (E3.out.trans hE); have B4 := Lib.hid (hE.blk B3.out); have HP4 := Lib.hid (HP3.out.ext hE)
      clear hE hdv a0 a1
      by_cases hdn : dv ≤ (n : Int)
      · have hd1 : decide ((n : Int) < dv) = false := by simp; omega
        have HBT : Hid (boundB (n : Int) ([x0, x1, x2, x3], k) = true) := Lib.hid (by rw [HBB.out]; simpa using hdn)
        by_cases h0 : np = 0
        · subst h0
          have HR : Hid (srR ls ([x0, x1, x2, x3], k) = (0, 0, false)) := Lib.hid (srR_nil (List.eq_nil_of_length_eq_zero HNP.out))
          clear hdn
          go_wp2
          rw [HR.out]
          exact bodyPost_ret (v := .tuple #[.int .i64 0, .int .i64 0, .bool false]) (by simp [results, Try.results13, go_sem]) rfl ⟨rfl, E4.out⟩
        · have hz : ((np : Int) == 0) = false := by simp; omega
          have hnpI : (0 : Int) < (np : Int) := by omega
          have hnpN : 0 < np := by omega
          obtain ⟨L, hL⟩ : ∃ L, srL ([x0, x1, x2, x3], k) ls = L := ⟨_, rfl⟩
          have HR : Hid (srR ls ([x0, x1, x2, x3], k) = extR L) := Lib.hid (by unfold srR; rw [HN.out, HBT.out, hL]; rfl)
          have HLL : Hid (L.length = np) := Lib.hid (by rw [← hL, ← HNP.out]; simp [srL])
          have HGET : Hid (∀ (j : Nat) (x : List Int), (nptsL ls)[j]? = some x → L[j]? = some (evalK [x0, x1, x2, x3] x k x.length)) := Lib.hid (fun j x hx => by rw [← hL]; unfold srL; rw [List.getElem?_map, hx]; rfl)
          clear hL hdn h0
          obtain ⟨y, hy⟩ := get_some (xs := nptsL ls) (k := 0) (by rw [HNP.out]; omega)
          obtain ⟨gp, u, rfl, cu, hgl, hu⟩ := HP4.out.elem hy
          obtain ⟨qu, cu2, rfl, -, -⟩ := id hu
          have HU := Lib.hid hu
          obtain ⟨ny, hny⟩ : ∃ m, y.length = m := ⟨_, rfl⟩
          rw [hny] at cu HU
          have HY := Lib.hid (HGET.out 0 y hy); have HPW := Lib.hid (npts_W y (List.mem_of_getElem? hy))
          rw [hny] at HY
          have HNY := Lib.hid hny
          clear hy hu hny
          obtain ⟨vy, hvy⟩ : ∃ v, evalK [x0, x1, x2, x3] y k ny = v := ⟨_, rfl⟩
          rw [hvy] at HY
          have HVY := Lib.hid hvy
          clear hvy
          obtain ⟨a0, a1, -, -⟩ := blk2 B4.out
          have HA4 := Lib.hid (HA.out.ext E4.out)
          go_wp2_with (fail)
          go_region_held3 (fun W => W.cell? ⟨g0, 0, none⟩ = some (.slice qa 4 ca) ∧ W.cell? ⟨g0, 1, none⟩ = some (.int .i64 k) ∧ W.cell? ⟨gp, 0, none⟩ = some (.slice qu ny cu2))
            (first | exact ⟨a0, a1, cu⟩ | exact ⟨g5.keep a0, g5.keep a1, g5.keep cu⟩ | fail)
            (first | (go_at_call 37; (with_reducible refine (l1EvalW_any x0 x1 x2 x3 k (.slice qa 4 ca) (.slice qu ny cu2) y _ (HA4.out.ext (Ext.refl w4).drew) (HU.out.ext (Ext.refl w4).drew) HAV.out HPW.out).mono ?_); rw [HNY.out, HVY.out]; rintro e w5 ⟨rfl, hE5⟩; have g5 := (Ext.refl w4).drew.trans hE5) | fail)
          have E5 := Lib.hid (E4.out.trans g5); have B5 := Lib.hid (g5.blk B4.out); have HP5 := Lib.hid (HP4.out.ext g5)
          clear g5 hE5 a0 a1 cu
          have HT1 : Hid (extR (L.take 1) = (vy, vy, true)) := Lib.hid (by rw [take_next HY.out]; rfl)
          go_wp2
          go_loopw [9, 10, 11] (fun lv hv iv wr => ∃ j : Nat, 1 ≤ j ∧ j ≤ np ∧ iv = .int .i64 j ∧ lv = .int .i64 (extR (L.take j)).1 ∧ hv = .int .i64 (extR (L.take j)).2.1 ∧ Ext w5 wr) (fun _ _ iv _ => np - (intOf iv).toNat)
          case atStart => exact ⟨1, by omega, by omega, rfl, by rw [HT1.out], by rw [HT1.out], Ext.refl w5⟩
          case round =>
            obtain ⟨j, hj1, hj, rfl, rfl, rfl, hE⟩ := hrel
            have HE := Lib.hid hE
            clear hE
            by_cases hlt : j < np
            · obtain ⟨x, hx⟩ := get_some (xs := nptsL ls) (k := j) (by rw [HNP.out]; omega)
              obtain ⟨gp', u, eg, cu, -, hu⟩ := (HP5.out.ext HE.out).elem hx
              cases eg
              obtain ⟨qu, cu2, rfl, -, -⟩ := id hu
              have HU := Lib.hid hu
              obtain ⟨nx, hnx⟩ : ∃ m, x.length = m := ⟨_, rfl⟩
              rw [hnx] at cu HU
              have HX := Lib.hid (HGET.out j x hx); have HPX := Lib.hid (npts_W x (List.mem_of_getElem? hx))
              rw [hnx] at HX
              have HNX := Lib.hid hnx
              obtain ⟨vx, hvx⟩ : ∃ v, evalK [x0, x1, x2, x3] x k nx = v := ⟨_, rfl⟩
              rw [hvx] at HX
              have HVX := Lib.hid hvx
              have HT := Lib.hid (extR_take HX.out (by omega))
              clear hx hu hnx hvx
              obtain ⟨lo, hlo⟩ : ∃ z, (extR (L.take j)).1 = z := ⟨_, rfl⟩
              obtain ⟨hi, hhi⟩ : ∃ z, (extR (L.take j)).2.1 = z := ⟨_, rfl⟩
              rw [hlo, hhi] at HT
              rw [hlo, hhi]
              clear hlo hhi
              have BX := HE.out.blk B5.out
              obtain ⟨a0, a1, -, -⟩ := blk2 BX
              have HAX := Lib.hid (HA.out.ext (E5.out.trans HE.out)); have HBX := Lib.hid BX
              have hjI : (j : Int) < (np : Int) := by omega
              clear BX
              go_wp2_with (fail)
              go_region_held3 (fun W => W.cell? ⟨g0, 0, none⟩ = some (.slice qa 4 ca) ∧ W.cell? ⟨g0, 1, none⟩ = some (.int .i64 k) ∧ W.cell? ⟨gp, j, none⟩ = some (.slice qu nx cu2))
                (first | exact ⟨a0, a1, cu⟩ | exact ⟨g7.keep a0, g7.keep a1, g7.keep cu⟩ | fail)
                (first | (go_at_call 37; (with_reducible refine (l1EvalW_any x0 x1 x2 x3 k (.slice qa 4 ca) (.slice qu nx cu2) x _ (HAX.out.ext (Ext.refl wr).drew) (HU.out.ext (Ext.refl wr).drew) HAV.out HPX.out).mono ?_); rw [HNX.out, HVX.out]; rintro e w7 ⟨rfl, hE7⟩; have g7 := (Ext.refl wr).drew.trans hE7) | fail)
              have E7 := Lib.hid (HE.out.trans g7)
              clear g7 hE7 a0 a1 cu
              by_cases h1 : vx < lo
              · have d1 : decide (vx < lo) = true := by simpa using h1
                by_cases h2 : hi < vx
                · have d2 : decide (hi < vx) = true := by simpa using h2
                  have HT2 : Hid (extR (L.take (j + 1)) = (vx, vx, true)) := Lib.hid (by rw [HT.out, Int.min_eq_right (by omega), Int.max_eq_right (by omega)])
                  clear h1 h2
                  go_wp2
                  go_roundw
                  case rel => exact ⟨j + 1, by omega, by omega, by go_num, by rw [HT2.out], by rw [HT2.out], E7.out⟩
                  case measure => simp [intOf]; omega
                · have d2 : decide (hi < vx) = false := by simpa using h2
                  have HT2 : Hid (extR (L.take (j + 1)) = (vx, hi, true)) := Lib.hid (by rw [HT.out, Int.min_eq_right (by omega), Int.max_eq_left (by omega)])
                  clear h1 h2
                  go_wp2
                  go_roundw
                  case rel => exact ⟨j + 1, by omega, by omega, by go_num, by rw [HT2.out], by rw [HT2.out], E7.out⟩
                  case measure => simp [intOf]; omega
              · have d1 : decide (vx < lo) = false := by simpa using h1
                by_cases h2 : hi < vx
                · have d2 : decide (hi < vx) = true := by simpa using h2
                  have HT2 : Hid (extR (L.take (j + 1)) = (lo, vx, true)) := Lib.hid (by rw [HT.out, Int.min_eq_left (by omega), Int.max_eq_right (by omega)])
                  clear h1 h2
                  go_wp2
                  go_roundw
                  case rel => exact ⟨j + 1, by omega, by omega, by go_num, by rw [HT2.out], by rw [HT2.out], E7.out⟩
                  case measure => simp [intOf]; omega
                · have d2 : decide (hi < vx) = false := by simpa using h2
                  have HT2 : Hid (extR (L.take (j + 1)) = (lo, hi, true)) := Lib.hid (by rw [HT.out, Int.min_eq_left (by omega), Int.max_eq_left (by omega)])
                  clear h1 h2
                  go_wp2
                  go_roundw
                  case rel => exact ⟨j + 1, by omega, by omega, by go_num, by rw [HT2.out], by rw [HT2.out], E7.out⟩
                  case measure => simp [intOf]; omega
            · obtain rfl : j = np := by omega
              have HRS : Hid (extR (L.take j) = srR ls ([x0, x1, x2, x3], k)) := Lib.hid (by rw [HR.out, List.take_of_length_le (by rw [HLL.out]; exact Nat.le_refl _)])
              rw [HRS.out]
              obtain ⟨r0, r1, r2, hr⟩ : ∃ r0 r1 r2, srR ls ([x0, x1, x2, x3], k) = (r0, r1, r2) := ⟨_, _, _, rfl⟩
              have hr2 : r2 = true := by
                have h := HRS.out
                rw [hr] at h
                have h3 : (extR (L.take j)).2.2 = true := extR_some.2 (fun e => by have := congrArg List.length e; rw [List.length_take, HLL.out] at this; simp at this; omega)
                rw [h] at h3
                exact h3
              subst hr2
              rw [hr]
              have EF := Lib.hid (E5.out.trans HE.out); have HRR := Lib.hid hr
              clear hr
              go_wp2
              exact bodyPost_ret (v := .tuple #[.int .i64 r0, .int .i64 r1, .bool true]) (by simp [results, Try.results13, go_sem]) rfl ⟨by rw [HRR.out], EF.out⟩
      · have hd1 : decide ((n : Int) < dv) = true := by simp; omega
        have HR : Hid (srR ls ([x0, x1, x2, x3], k) = (0, 0, false)) := Lib.hid (by unfold srR; rw [HN.out, HBB.out, if_neg (by simpa using hdn)])
        clear hdn
        go_wp2
        rw [HR.out]
        exact bodyPost_ret (v := .tuple #[.int .i64 0, .int .i64 0, .bool false]) (by simp [results, Try.results13, go_sem]) rfl ⟨rfl, E4.out⟩
end Go.Proofs.Ytccibfldadflkaa

/- Draws: the arguments of SubscriptRange. No statement is proved here. -/
namespace Go.Proofs.Ytccibfldadflkaa
open Go.RowKit

theorem fold_min : ∀ (l : List Int) (x : Int), (∀ v ∈ x :: l, l.foldl min x ≤ v) ∧ l.foldl min x ∈ x :: l
  | [], x => by simp
  | y :: l, x => by
    obtain ⟨h1, h2⟩ := fold_min l (min x y)
    simp only [List.foldl_cons]
    refine ⟨fun v hv => ?_, ?_⟩
    · have h3 := h1 (min x y) (by simp)
      rcases List.mem_cons.1 hv with rfl | hv
      · omega
      · rcases List.mem_cons.1 hv with rfl | hv
        · omega
        · exact h1 v (by simp [hv])
    · rcases List.mem_cons.1 h2 with h | h
      · rw [h]
        rcases (show min x y = x ∨ min x y = y by omega) with e | e <;> rw [e] <;> simp
      · simp [h]
theorem fold_max : ∀ (l : List Int) (x : Int), (∀ v ∈ x :: l, v ≤ l.foldl max x) ∧ l.foldl max x ∈ x :: l
  | [], x => by simp
  | y :: l, x => by
    obtain ⟨h1, h2⟩ := fold_max l (max x y)
    simp only [List.foldl_cons]
    refine ⟨fun v hv => ?_, ?_⟩
    · have h3 := h1 (max x y) (by simp)
      rcases List.mem_cons.1 hv with rfl | hv
      · omega
      · rcases List.mem_cons.1 hv with rfl | hv
        · omega
        · exact h1 v (by simp [hv])
    · rcases List.mem_cons.1 h2 with h | h
      · rw [h]
        rcases (show max x y = x ∨ max x y = y by omega) with e | e <;> rw [e] <;> simp
      · simp [h]
theorem extR_ok {L : List Int} {a b : Int} (h : extR L = (a, b, true)) : (∀ v ∈ L, a ≤ v ∧ v ≤ b) ∧ a ∈ L ∧ b ∈ L := by
  cases L with
  | nil => simp [extR] at h
  | cons x l =>
    simp only [extR, Prod.mk.injEq, and_true] at h
    obtain ⟨rfl, rfl⟩ := h
    exact ⟨fun v hv => ⟨(fold_min l x).1 v hv, (fold_max l x).1 v hv⟩, (fold_min l x).2, (fold_max l x).2⟩

set_option linter.unusedVariables false in
set_option maxRecDepth 100000 in
set_option maxHeartbeats 4000000 in
theorem DrawSubscriptRange_any (p : Option Addr) (n c : Nat) (w : World) (hs : BytesAt w p n c) (hlt : ∀ b off, 0 < n → p = some ⟨b, off, none⟩ → b < w.heap.size) :
    Calls Try.prog 19 #[.slice p n c] w fun e w' => (∃ q m d pa na ca k, ∃ (ls : List Lp) (xs : List Int), e = .returned (.tuple #[.slice (some ⟨q, 0, none⟩) m d, .agg #[.slice pa na ca, .int .i64 k]]) ∧ ls.length = m ∧ (nestB ls = true → m ≤ 3) ∧ xs.length = na ∧ LoopsAt w' (.slice (some ⟨q, 0, none⟩) m d) ls ∧ IntsAt w' (.slice pa na ca) xs) ∧ Ext w w' := by
  have HS := Lib.hid hs; have HL := Lib.hid hlt; clear hs hlt
  have E0 : Hid (Ext w (w.alloc (.cells #[.slice none 0 0, .int .i64 0] 36))) := Lib.hid ((Ext.refl w).alloc _)
  have X0 : Hid ((w.alloc (.cells #[.slice none 0 0, .int .i64 0] 36)).heap[w.heap.size]? = some (.cells #[.slice none 0 0, .int .i64 0] 36 (0, 0))) := Lib.hid (blk_at rfl)
  go_enter Try.func19, Try.ntmps19
  go_wp2_with (fail)
  generalize w.alloc (.cells #[.slice none 0 0, .int .i64 0] 36) = W at *
  have hWs : w.heap.size < W.heap.size := lt_of_block X0.out
  refine (l16Open_any p n c W (HS.out.ext E0.out) (fun b off h e => Nat.lt_of_lt_of_le (HL.out b off h e) E0.out.size_le)).mono ?_
  rintro e w1 ⟨g, rfl, hR, hE⟩
  have H1 := Lib.hid hR; have X1 := Lib.hid (hE.blk X0.out)
  have hg : W.heap.size ≤ g := by obtain ⟨_, _, _, _, _, _, _, h, _⟩ := hR; exact h
  have hlg := hR.lt
  clear hR hE X0
  go_wp2_with (fail)
  refine (l2Nest_any W g 0 _ H1.out (by omega)).mono ?_
  rintro e w2 ⟨⟨q2, n2, c2, l2, rfl, hl2, hf2, hv2⟩, h4, h5⟩
  have H2 := Lib.hid h4; have HL2 := Lib.hid hl2; have HF2 := Lib.hid hf2; have HV2 := Lib.hid hv2.at; have X2 := Lib.hid (blk_dr X1.out h5 (by omega))
  have hs2 : w1.heap.size ≤ w2.heap.size := h5.size
  clear h4 h5 H1 hl2 hf2 hv2 X1
  go_wp2_with (fail)
  refine (l2MutateN_any W g 30 3 _ n2 c2 l2 _ H2.out (by omega) HL2.out HV2.out HF2.out (by omega)).mono ?_
  rintro e w3 ⟨⟨q3, n3, c3, l3, rfl, hl3, hlen, hf3, hv3⟩, h4, h5⟩
  have H3 := Lib.hid h4; have HL3 := Lib.hid hl3; have HV3 := Lib.hid hv3; have X3 := Lib.hid (blk_dr X2.out h5 (by omega))
  have hl23 := HF2.out.1
  rw [HL2.out] at hl23
  have HLEN : Hid (nestB l3 = true → n3 ≤ 3) := Lib.hid (fun h => by have := (nestB_iff.1 h).1; rw [hl3] at this hlen; omega)
  have hs3 : w2.heap.size ≤ w3.heap.size := h5.size
  clear hlen hl23 h4 h5 hl3 hf3 hv3 H2 HV2 X2
  go_wp2_with (fail)
  refine (pick_any W g 33 3 _ H3.out (by omega) (by omega)).mono ?_
  rintro e w4 ⟨⟨r, rfl, hr⟩, h4, h5⟩
  have hr4 : r ≤ 4 := by have := hr (by omega); omega
  have H4 := Lib.hid h4; have X4 := Lib.hid (blk_dr X3.out h5 (by omega)); have HV4 := Lib.hid (LoopsOwn.dr HV3.out h5 (by omega))
  have hs4 := h5.size
  clear h4 h5 H3 X3 hr HV3
  go_wp2_with (fail)
  refine (l1Draw_any W g 34 r _ H4.out (by omega) hr4).mono ?_
  rintro e w5 ⟨⟨p5, c5, k5, xs, rfl, hx4, ho5⟩, h4, h5⟩
  obtain ⟨xa, xb, xc, xd, rfl⟩ := four hx4
  have H5 := Lib.hid h4; have HO5 := Lib.hid (row_at ho5 hx4); have X5 := Lib.hid (blk_dr X4.out h5 (by omega)); have HV5 := Lib.hid (LoopsOwn.dr HV4.out h5 (by omega))
  have hs5 := h5.size
  clear h4 h5 H4 X4 ho5 HV4
  go_wp2_with (fail)
  refine (l1Mutate_any W g 39 _ xa xb xc xd k5 _ H5.out (by omega) HO5.out).mono ?_
  rintro e w6 ⟨⟨p6, n6, c6, k6, xs, rfl, hxn, ho6⟩, h4, h5⟩
  have EV : Ext w w6 := E0.out.trans (by obtain ⟨_, _, _, _, _, _, _, _, h, _⟩ := h4; exact h)
  have HEV := Lib.hid EV; have HO6 := Lib.hid ho6; have HXN := Lib.hid hxn; have X6 := blk_dr X5.out h5 (by omega); have HV6 := Lib.hid (LoopsOwn.dr HV5.out h5 (by omega))
  have hs6 := h5.size
  obtain ⟨x0, x1, f0, f1⟩ := blk2 X6
  clear h4 h5 EV H5 HO5 ho6 hxn X5 X6 HV5
  go_wp2
  refine bodyPost_ret (v := .tuple #[.slice (some ⟨q3, 0, none⟩) n3 c3, .agg #[.slice p6 n6 c6, .int .i64 k6]]) (by simp [results, Try.results19, go_sem, x0, x1]) rfl ⟨⟨_, _, _, _, _, _, _, l3, xs, rfl, HL3.out, HLEN.out, HXN.out, (LoopsOwn.setOld (LoopsOwn.setOld HV6.out (by dsimp only; omega) _) (by dsimp only; omega) _).at, row_at (B := w5.heap.size) ?_ HXN.out⟩, ?_⟩
  · repeat (with_reducible refine ownsRow_setCell_below ?_ (by dsimp only; omega) _)
    exact HO6.out
  · repeat (with_reducible refine Ext.setCell ?_ (by dsimp only; omega) _)
    exact HEV.out
end Go.Proofs.Ytccibfldadflkaa

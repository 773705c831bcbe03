/- The texts U4, joined. No statement is proved here. -/
import Derived.Test.YtggpjapmhakklaaK08
import Derived.Test.YtggpjapmhakklaaK11
/- The model's StackDistances, LruMisses and FitSize. No statement is proved here. -/
namespace Go.Proofs.Ytggpjapmhakklaa
open Go.RowKit Go.Maps

theorem own_empty (w : World) : IntsOwn w.heap.size (w.alloc (.cells #[] 3)) (.slice (some ⟨w.heap.size, 0, none⟩) 0 0) [] :=
  World.ownsRow_made w #[] 0 (Nat.le_refl _) (Nat.zero_le _) rfl
theorem own_one (w : World) (x : Int) : IntsOwn w.heap.size (w.alloc (.cells #[.int .i64 x] 3)) (.slice (some ⟨w.heap.size, 0, none⟩) 1 1) [x] := made_own w 1 (by omega) [x] rfl
theorem rest_yes {s : List Int} {j : Nat} {x y : Int} (h : s[j]? = some y) (e : y = x) : (s.take (j + 1)).filter (fun z => decide (z ≠ x)) = (s.take j).filter (fun z => decide (z ≠ x)) := by
  rw [take_next h, List.filter_append, List.filter_cons_of_neg (by simp [e])]; simp
theorem rest_no {s : List Int} {j : Nat} {x y : Int} (h : s[j]? = some y) (e : y ≠ x) : (s.take (j + 1)).filter (fun z => decide (z ≠ x)) = (s.take j).filter (fun z => decide (z ≠ x)) ++ [y] := by
  rw [take_next h, List.filter_append, List.filter_cons_of_pos (by simpa using e)]; simp
theorem at_yes {s : List Int} {j : Nat} {x y : Int} (h : s[j]? = some y) (e : y = x) : atT x s (j + 1) = (j : Int) := by rw [atT, h, e, if_pos rfl]
theorem at_no {s : List Int} {j : Nat} {x y : Int} (h : s[j]? = some y) (e : y ≠ x) : atT x s (j + 1) = atT x s j := by rw [atT, h, if_neg (fun h => e (Option.some.inj h))]

set_option linter.unusedVariables false in
set_option linter.unusedSimpArgs false in
set_option maxRecDepth 100000 in
set_option maxHeartbeats 4000000 in
theorem specStackDistances_any (p : Option Addr) (n c : Nat) (xs : List Int) (w : World) (hn : xs.length = n) (hs : IntsAt w (.slice p n c) xs) :
    Calls Try.prog 13 #[.slice p n c] w fun e w' => (∃ v', e = .returned v' ∧ IntsOwn w.heap.size w' v' (sdB xs)) ∧ Ext w w' := by
  obtain ⟨i0, hi, hz0, hz1, hz2⟩ := info_parts infoInt
  obtain ⟨hm, -⟩ := hs.cl
  have HN := Lib.hid hn; have HS := Lib.hid hs
  clear hn hs
  by_cases hbig : (600 : Int) < (n : Int)
  · have HR : Hid (sdB xs = []) := Lib.hid (by unfold sdB; rw [HN.out, if_neg (by omega)])
    go_enter Try.func13, Try.ntmps13
    go_wp2
    go_ret
    exact ⟨⟨_, rfl, by rw [HR.out]; exact own_empty w⟩, (Ext.refl w).alloc _⟩
  · have hn6 : n ≤ 600 := by omega
    have HR : Hid (sdB xs = sdP xs n) := Lib.hid (by unfold sdB; rw [HN.out, if_pos hn6, ← HN.out]; rfl)
    obtain ⟨B, hB⟩ : ∃ B, w.heap.size = B := ⟨_, rfl⟩
    obtain ⟨W0, hW0⟩ : ∃ W0, (w.alloc (.cells #[] 3)).alloc (.cells #[] 3) = W0 := ⟨_, rfl⟩
    have E0 : Hid (Ext w W0) := Lib.hid (by rw [← hW0]; exact ((Ext.refl w).alloc _).alloc _)
    have O1 : Hid (IntsOwn B W0 (.slice (some ⟨B, 0, none⟩) 0 0) (sdP xs 0)) := Lib.hid (by rw [← hW0, ← hB]; exact (own_empty w).ext ((Ext.refl _).alloc _))
    have O2 : Hid (IntsOwn B W0 (.slice (some ⟨B + 1, 0, none⟩) 0 0) (stkF (xs.take 0))) := Lib.hid (by rw [← hW0]; have h := (own_empty (w.alloc (.cells #[] 3))).weak (B' := B) (by rw [← hB]; simp); rw [World.size_alloc, hB] at h; exact h)
    go_enter Try.func13, Try.ntmps13
    go_wp2
    try rw [hW0]
    try rw [hB]
    have HHB := Lib.hid hB
    clear hW0 hB
    go_loopw [3, 4, 5] (fun ov sv iv wr => ∃ (k m : Nat) (po ps : Option Addr) (co cs : Nat), k ≤ n ∧ iv = .int .i64 k ∧ ov = .slice po k co ∧ sv = .slice ps m cs ∧ (stkF (xs.take k)).length = m ∧ m ≤ k ∧ IntsOwn B wr (.slice po k co) (sdP xs k) ∧ IntsOwn B wr (.slice ps m cs) (stkF (xs.take k)) ∧ (∀ b, (Value.slice ps m cs).ownBlock = some b → (Value.slice po k co).ownBlock ≠ some b) ∧ Ext w wr) (fun _ _ iv _ => n - (intOf iv).toNat)
    case atStart => exact ⟨0, 0, _, _, _, _, by omega, rfl, rfl, rfl, rfl, by omega, O1.out, O2.out, fun b h1 h2 => by simp only [Value.ownBlock, Option.some.injEq] at h1 h2; omega, E0.out⟩
    case round =>
      obtain ⟨k, m, po, ps, co, cs, hk, rfl, rfl, rfl, hsm, hmk, hO, hS, hne, hE⟩ := hrel
      have HO := Lib.hid hO; have HST := Lib.hid hS; have HNE := Lib.hid hne; have HE := Lib.hid hE; have HSM := Lib.hid hsm
      clear hO hS hne hE hsm O1 O2 E0
      by_cases hlt : k < n
      · obtain ⟨x, hx⟩ := get_some (xs := xs) (k := k) (by rw [HN.out]; exact hlt)
        obtain ⟨-, hc⟩ := (HS.out.ext HE.out).cl
        obtain ⟨b, off, rfl, hcell⟩ := hc k x hx
        have HSX := Lib.hid (HS.out.ext HE.out)
        have HX := Lib.hid hx
        obtain ⟨s, hs⟩ : ∃ s, stkF (xs.take k) = s := ⟨_, rfl⟩
        rw [hs] at HST HSM
        have HNXS : Hid (stkF (xs.take (k + 1)) = mvF x s) := Lib.hid (by rw [take_next hx, stkF_snoc, hs])
        have HNXD : Hid (sdP xs (k + 1) = sdP xs k ++ [sdV x s]) := Lib.hid (by rw [sdP_next hx, hs])
        have hkI : (k : Int) < (n : Int) := by omega
        clear hc hx hs
        obtain ⟨B1, hB1⟩ : ∃ B1, wr.heap.size = B1 := ⟨_, rfl⟩
        obtain ⟨W1, hW1⟩ : ∃ W1, wr.alloc (.cells #[] 3) = W1 := ⟨_, rfl⟩
        have E1 : Ext wr W1 := by rw [← hW1]; exact (Ext.refl wr).alloc _
        have O3 : Hid (IntsOwn B1 W1 (.slice (some ⟨B1, 0, none⟩) 0 0) ((s.take 0).filter (fun z => decide (z ≠ x)))) := Lib.hid (by rw [← hW1, ← hB1]; exact own_empty wr)
        have HE1 := Lib.hid E1
        clear E1
        go_wp2
        try rw [hW1]
        try rw [hB1]
        have HB1 := Lib.hid hB1
        clear hW1 hB1 hcell
        go_loopw [6, 7, 8] (fun av rv kv w2 => ∃ (j mr : Nat) (pr : Option Addr) (cr : Nat), j ≤ m ∧ kv = .int .i64 j ∧ av = .int .i64 (atT x s j) ∧ rv = .slice pr mr cr ∧ pr ≠ none ∧ ((s.take j).filter (fun z => decide (z ≠ x))).length = mr ∧ mr ≤ j ∧ IntsOwn B1 w2 (.slice pr mr cr) ((s.take j).filter (fun z => decide (z ≠ x))) ∧ Ext wr w2 ∧ B1 ≤ w2.heap.size) (fun _ _ kv _ => m - (intOf kv).toNat)
        case atStart => exact ⟨0, 0, _, _, by omega, rfl, rfl, rfl, by simp, by simp, by omega, O3.out, HE1.out, by have := HB1.out; have := HE1.out.size_le; omega⟩
        case round =>
          obtain ⟨j, mr, pr, cr, hj, rfl, rfl, rfl, hpr, hmr, hmj, hR, hE2, hsz⟩ := hrel
          have HMR := Lib.hid hmr; have HRR := Lib.hid hR; have HE2 := Lib.hid hE2; have HSZ := Lib.hid hsz; have HPR := Lib.hid hpr
          clear hmr hR hE2 O3 HE1 hsz hpr
          have HOX := Lib.hid (HO.out.ext HE2.out); have HTX := Lib.hid (HST.out.ext HE2.out)
          by_cases hl2 : j < m
          · obtain ⟨y, hy⟩ := get_some (xs := s) (k := j) (by rw [HSM.out]; exact hl2)
            obtain ⟨-, hc1⟩ := HTX.out.at.cl
            obtain ⟨b1, off1, rfl, hcell1⟩ := hc1 j y hy
            have hcell := (HSX.out.ext HE2.out).cl.2 k x HX.out
            obtain ⟨b', off', e', hcell⟩ := hcell
            cases e'
            have hjI : (j : Int) < (m : Int) := by omega
            by_cases e : y = x
            · have HN1 := Lib.hid (rest_yes hy e); have HN2 := Lib.hid (at_yes hy e)
              have hb : (y == x) = true := by simpa using e
              have hb2 : decide (y = x) = true := by simpa using e
              clear hc1 hy
              go_wp2_with (fail)
              go_quiet (fail)
              go_wp2
              go_roundw
              case rel => exact ⟨j + 1, mr, pr, cr, by omega, by go_num, by rw [HN2.out], rfl, HPR.out, by rw [HN1.out]; exact HMR.out, by omega, by rw [HN1.out]; exact HRR.out.ext ((Ext.refl _).drewN _), HE2.out.drewN _, HSZ.out⟩
              case measure => simp [intOf]; omega
            · have HN1 := Lib.hid (rest_no hy e); have HN2 := Lib.hid (at_no hy e)
              have hb : (y == x) = false := by simpa using e
              have hb2 : decide (y = x) = false := by simpa using e
              obtain ⟨X, hX⟩ : ∃ X, (s.take j).filter (fun z => decide (z ≠ x)) = X := ⟨_, rfl⟩
              rw [hX] at HMR HRR HN1
              have HRW := Lib.hid (IntsOwn.row HRR.out HMR.out)
              clear hc1 hy hX
              go_wp2_with (fail)
              go_quiet (fail)
              have EQ : Ext wr (wr.drewN nq) := (Ext.refl wr).drewN nq
              have hszq : (wr.drewN nq).heap.size = wr.heap.size := rfl
              have hcq := EQ.keep hcell1
              obtain ⟨wq, hwq⟩ : ∃ wq, wr.drewN nq = wq := ⟨_, rfl⟩
              rw [hwq] at EQ hszq hcq ⊢
              have HRX := Lib.hid (ownsRow_ext HRW.out (EQ.alloc (.cells #[.int .i64 y] 3)))
              have hsz1 : B1 ≤ wq.heap.size := by rw [hszq]; exact HSZ.out
              have HE2q := Lib.hid (HE2.out.trans EQ)
              clear hwq hcell hcell1 hszq EQ
              go_wp2_with (at_builtin; refine wpList_append_own_at _ rfl (.tmp 38) (.tmp 43) 22 rfl B1 3 i0 (.int .i64 0) 1 8 Try.underlying22 hi hz0 hz1 hz2 rfl (by decide) (.slice pr mr cr) mr _ rfl HRX.out ⟨wq.heap.size, 0, none⟩ 1 1 [.int .i64 y] rfl rfl ?c1 ?c2 ?c3 ?c4 ?c5 ?_)
              case c1 => exact one_cell rfl
              case c2 => intro u hu; simp at hu; subst hu; rfl
              case c3 => unfold maxLen; omega
              case c4 => omega
              case c5 => simp; omega
              intro v' w5 hown' hgrow hnil hat
              obtain ⟨pr', cr', rfl⟩ : ∃ pr' cr', v' = .slice pr' (mr + 1) cr' := by
                rcases hown'.2 with ⟨rfl, hn0⟩ | ⟨g', cap, cur, e, _⟩
                · exact absurd hn0 (by omega)
                · exact ⟨_, cap, e⟩
              have HPR' : Hid (pr' ≠ none) := Lib.hid (by
                rintro rfl
                rcases hown'.2 with ⟨e, hn0⟩ | ⟨g', cap, cur, e, _⟩
                · omega
                · cases e)
              have HM1 : Hid (((s.take (j + 1)).filter (fun z => decide (z ≠ x))).length = mr + 1) := Lib.hid (by rw [HN1.out, List.length_append, HMR.out]; rfl)
              have HR1 : Hid (IntsOwn B1 w5 (.slice pr' (mr + 1) cr') ((s.take (j + 1)).filter (fun z => decide (z ≠ x)))) := Lib.hid (IntsOwn.mk (by rw [HN1.out, List.map_append]; exact hown') HM1.out)
              have HE5 := Lib.hid ((HE2q.out.alloc (.cells #[.int .i64 y] 3)).grown hgrow (fun b hb => by have := (HRX.out.lt b hb).1; have := HB1.out; omega))
              have hsz5 : B1 ≤ w5.heap.size := Nat.le_trans hsz1 (Nat.le_trans ((Ext.refl wq).alloc (.cells #[.int .i64 y] 3)).size_le hgrow.size)
              clear hown' hgrow hnil hat hcq
              go_wp2
              go_roundw
              case rel => exact ⟨j + 1, mr + 1, _, _, by omega, by go_num, by rw [HN2.out], rfl, HPR'.out, HM1.out, by omega, HR1.out, HE5.out, hsz5⟩
              case measure => simp [intOf]; omega
          · obtain rfl : j = m := by omega
            have HTK : Hid (s.take j = s) := Lib.hid (List.take_of_length_le (by rw [HSM.out]; exact Nat.le_refl _))
            rw [HTK.out] at HRR HMR
            have hat0 : atT x s j = sdV x s := by unfold sdV; rw [HSM.out]
            obtain ⟨d, hd⟩ : ∃ d, sdV x s = d := ⟨_, rfl⟩
            rw [hat0, hd]
            rw [hd] at HNXD
            have HRO : Hid (wr.ownsRow B 3 1 (.slice po k co) k ((sdP xs k).map (Value.int .i64))) := Lib.hid (IntsOwn.row HOX.out (sdP_len xs k))
            have HOY := Lib.hid (ownsRow_ext HRO.out ((Ext.refl wr).alloc (.cells #[.int .i64 d] 3)))
            have hB0 : B ≤ wr.heap.size := by have := HE.out.size_le; have := HE2.out.size_le; have := HHB.out; omega
            clear hat0 hd
            go_wp2_with (at_builtin; refine wpList_append_own_at _ rfl (.tmp 45) (.tmp 47) 22 rfl B 3 i0 (.int .i64 0) 1 8 Try.underlying22 hi hz0 hz1 hz2 rfl (by decide) (.slice po k co) k _ rfl HOY.out ⟨wr.heap.size, 0, none⟩ 1 1 [.int .i64 d] rfl rfl ?c1 ?c2 ?c3 ?c4 ?c5 ?_)
            case c1 => exact one_cell rfl
            case c2 => intro u hu; simp at hu; subst hu; rfl
            case c3 => unfold maxLen; omega
            case c4 => omega
            case c5 => simp; omega
            intro v' w5 hown' hgrow hnil hat
            obtain ⟨po', co', rfl⟩ : ∃ po' co', v' = .slice po' (k + 1) co' := by
              rcases hown'.2 with ⟨rfl, hn0⟩ | ⟨g', cap, cur, e, _⟩
              · exact absurd hn0 (by omega)
              · exact ⟨_, cap, e⟩
            have HO5 : Hid (IntsOwn B w5 (.slice po' (k + 1) co') (sdP xs (k + 1))) := Lib.hid (IntsOwn.mk (by rw [HNXD.out, List.map_append]; exact hown') (sdP_len _ _))
            have hEa := (Ext.refl wr).alloc (.cells #[.int .i64 d] 3)
            have HE5 := Lib.hid (((HE.out.trans HE2.out).alloc (.cells #[.int .i64 d] 3)).grown hgrow (fun b hb => by have := (HOY.out.lt b hb).1; have := HHB.out; omega))
            have HLV : Hid (Lv (fun b => (Value.slice po k co).ownBlock = some b) wr w5) := Lib.hid ((hEa.lv (D := fun _ => False)).trans (Lv.grown hgrow (fun r e _ => e)) (fun _ _ h => h.elim) (fun _ _ h => h))
            have hrl : ∀ b, (Value.slice pr mr cr).ownBlock = some b → B1 ≤ b ∧ b < wr.heap.size := fun b hb => World.ownsRow.lt HRR.out b hb
            have hol : ∀ b, (Value.slice po k co).ownBlock = some b → b < B1 := fun b hb => by have := (World.ownsRow.lt HO.out b hb).2; have := HB1.out; omega
            have HR5 : Hid (IntsOwn B1 w5 (.slice pr mr cr) (s.filter (fun z => decide (z ≠ x)))) := Lib.hid (row_lv HRR.out HLV.out (fun b hb hd => by have := hrl b hb; have := hol b hd; omega))
            have hs5 : wr.heap.size + 1 ≤ w5.heap.size := by have := hgrow.size; rw [World.size_alloc] at this; exact this
            have HOB : Hid (∀ b, (Value.slice po' (k + 1) co').ownBlock = some b → b < w5.heap.size) := Lib.hid (fun b hb => (World.ownsRow.lt HO5.out b hb).2)
            obtain ⟨b', off', e', hcell5⟩ := (HS.out.ext HE5.out).cl.2 k x HX.out
            cases e'
            have HRR5 : Hid (w5.ownsRow B1 3 1 (.slice pr mr cr) mr ((s.filter (fun z => decide (z ≠ x))).map (Value.int .i64))) := Lib.hid (IntsOwn.row HR5.out HMR.out)
            obtain ⟨gr, rfl⟩ : ∃ gr, pr = some ⟨gr, 0, none⟩ := by
              rcases HR5.out.2 with ⟨e, _⟩ | ⟨g', cap, cur, e, _⟩
              · cases e; exact absurd rfl HPR.out
              · cases e; exact ⟨g', rfl⟩
            have E5a : Ext w5 (w5.alloc (.cells #[.int .i64 x] 3)) := (Ext.refl w5).alloc _
            have HN5 : Hid (∀ (i : Nat) (u : Value), ((s.filter (fun z => decide (z ≠ x))).map (Value.int .i64))[i]? = some u → (w5.alloc (.cells #[.int .i64 x] 3)).cell? ((⟨gr, 0, none⟩ : Addr).add i) = some u) := Lib.hid (fun i u hu => World.ownsRow.cells (ownsRow_ext HRR5.out E5a) (g := gr) rfl i u hu)
            have HX5 : Hid ((w5.alloc (.cells #[.int .i64 x] 3)).ownsRow w5.heap.size 3 1 (.slice (some ⟨w5.heap.size, 0, none⟩) 1 1) 1 ([x].map (Value.int .i64))) := Lib.hid (own_one w5 x)
            have hml : mr ≤ 600 := by omega
            clear hown' hgrow hnil hat hEa hrl hol
            go_wp2_with (at_builtin; refine wpList_append_own_at _ rfl (.tmp 53) (.tmp 54) 22 rfl w5.heap.size 3 i0 (.int .i64 0) 1 8 Try.underlying22 hi hz0 hz1 hz2 rfl (by decide) (.slice (some ⟨w5.heap.size, 0, none⟩) 1 1) 1 _ rfl HX5.out ⟨gr, 0, none⟩ mr cr ((s.filter (fun z => decide (z ≠ x))).map (Value.int .i64)) rfl ?d1 HN5.out ?d2 ?d3 ?d4 ?d5 ?_)
            case d1 => rw [List.length_map, HMR.out, Nat.mul_one]
            case d2 => intro u hu; obtain ⟨z, -, rfl⟩ := List.mem_map.1 hu; rfl
            case d3 => unfold maxLen; omega
            case d4 => omega
            case d5 => simp
            intro v' w6 hown' hgrow hnil hat
            obtain ⟨ps', cs', rfl⟩ : ∃ ps' cs', v' = .slice ps' (1 + mr) cs' := by
              rcases hown'.2 with ⟨rfl, hn0⟩ | ⟨g', cap, cur, e, _⟩
              · exact absurd hn0 (by omega)
              · exact ⟨_, cap, e⟩
            have hle : (mvF x s).length = 1 + mr := by unfold mvF; rw [List.length_cons, HMR.out]; omega
            have hS6' : IntsOwn w5.heap.size w6 (.slice ps' (1 + mr) cs') (mvF x s) := IntsOwn.mk (by unfold mvF; simpa using hown') hle
            have hB5 : B ≤ w5.heap.size := by omega
            have HS6 : Hid (IntsOwn B w6 (.slice ps' (1 + mr) cs') (stkF (xs.take (k + 1)))) := Lib.hid (by rw [HNXS.out]; exact hS6'.weak hB5)
            have hE6 : Ext w5 w6 := E5a.grown hgrow (fun b hb => by simp only [Value.ownBlock, Option.some.injEq] at hb; omega)
            have HO6 := Lib.hid (HO5.out.ext hE6)
            have HE6 := Lib.hid (HE5.out.trans hE6)
            have HNE6 : Hid (∀ b, (Value.slice ps' (1 + mr) cs').ownBlock = some b → (Value.slice po' (k + 1) co').ownBlock ≠ some b) := Lib.hid (fun b h1 h2 => by
              have a1 := (World.ownsRow.lt hS6' b h1).1
              have a2 := HOB.out b h2
              omega)
            have HLN : Hid ((stkF (xs.take (k + 1))).length = 1 + mr) := Lib.hid (by rw [HNXS.out, hle])
            have hmr1 : 1 + mr ≤ k + 1 := by omega
            clear hown' hgrow hnil hat hle hS6' hE6 E5a
            go_wp2
            go_roundw
            case rel => exact ⟨k + 1, 1 + mr, po', ps', co', cs', by omega, by go_num, rfl, rfl, HLN.out, hmr1, HO6.out, HS6.out, HNE6.out, HE6.out⟩
            case measure => simp [intOf]; omega
      · obtain rfl : k = n := by omega
        go_wp2
        go_ret
        exact ⟨⟨_, rfl, by rw [HR.out, HHB.out]; exact HO.out⟩, HE.out⟩
end Go.Proofs.Ytggpjapmhakklaa

import Derived.Test.YtbcjllanigmioaaGreatK48
import Derived.StillTailTactics
import Derived.Test.YtbcjllanigmioaaGreatK47
namespace Go.Proofs.YtbcjllanigmioaaGreat
open Go.RowKit Go.Maps
end Go.Proofs.YtbcjllanigmioaaGreat
namespace Go.Proofs.YtbcjllanigmioaaGreat
open Go.RowKit Go.Maps
def lt0 (ars : List Arr) (ps : List Pt) : List Int := List.replicate (cntB ars ps) (clB ars ps - 1)
def ltB (ars : List Arr) (ps : List Pt) : List Int := ltF (lt0 ars ps) (depsB ars ps).reverse
theorem ltB_len (ars : List Arr) (ps : List Pt) : (ltB ars ps).length = cntB ars ps := by unfold ltB lt0; rw [ltF_len, List.length_replicate]
theorem ltF_bdR {M : Nat} {c : Int} (hc : 0 ≤ c ∧ c ≤ 120) (ds : List D3) (k : Nat) (hk : k ≤ ds.length) : ∀ x ∈ ltF (List.replicate M (c - 1)) (backN ds k), -1 - (k : Int) ≤ x ∧ x ≤ 120 := by
  unfold backN
  refine ltF_bd (c := 120) (by omega) (fun x hx => ?_) ds.reverse k (by simpa using hk)
  have := List.mem_replicate.1 hx
  omega
set_option linter.unusedVariables false in
set_option linter.unusedSimpArgs false in
set_option maxRecDepth 100000 in
set_option maxHeartbeats 4000000 in
theorem specLatestLevels_any (v : Value) (ars : List Arr) (ps : List Pt) (w : World) (hp : PrR w v ars ps) :
    Calls Tryz.prog 42 #[v] w fun e w' => (∃ v', e = .returned v' ∧ IntsOwn w.heap.size w' v' (ltB ars ps)) ∧ Ext w w' := by
  obtain ⟨qa, ca, qp, cp, rfl, hla, hlp, ha, hps⟩ := hp.parts
  obtain ⟨na, hna⟩ : ∃ n, ars.length = n := ⟨_, rfl⟩
  obtain ⟨np, hnp⟩ : ∃ n, ps.length = n := ⟨_, rfl⟩
  rw [hna, hnp] at hp ⊢
  obtain ⟨pb, hpb⟩ : ∃ a, progB ars ps = a := ⟨_, rfl⟩
  have HP := Lib.hid hp; have HPB := Lib.hid hpb
  clear hp ha hps hna hnp hpb
  go_enter Tryz.func42, Tryz.ntmps42
  go_wp2_with (fail)
  obtain ⟨W1, hW1⟩ : ∃ W1, w.alloc (.cells #[.slice qa na ca, .slice qp np cp] 32) = W1 := ⟨_, rfl⟩
  have E1 : Hid (Ext w W1) := Lib.hid (by rw [← hW1]; exact (Ext.refl w).alloc _)
  have B1 := Lib.hid (show W1.heap[w.heap.size]? = some (.cells #[.slice qa na ca, .slice qp np cp] 32 (0, 0)) by rw [← hW1]; exact blk_at rfl)
  have HSW1 : Hid (W1.heap.size = w.heap.size + 1) := Lib.hid (by rw [← hW1]; simp)
  try rw [hW1]
  clear hW1
  obtain ⟨i0, hi, hz0, hz1, hz2⟩ := info_parts infoInt
  refine (specLevelsOf_any _ ars ps _ (HP.out.ext E1.out)).mono ?_
  rintro e w2 ⟨⟨v2, rfl, hl⟩, hE2⟩
  have E2 := Lib.hid (E1.out.trans hE2); have B2 := Lib.hid (hE2.blk B1.out)
  obtain ⟨p, c, rfl⟩ := ints_form hl
  obtain ⟨lv, hlv⟩ : ∃ lv, lvB ars ps = lv := ⟨_, rfl⟩
  have HLV := Lib.hid hlv
  have hnl : lv.length = cntB ars ps := by rw [← hlv]; exact lvB_len ars ps
  obtain ⟨M, hM⟩ : ∃ M, cntB ars ps = M := ⟨_, rfl⟩
  have hM120 : M ≤ 120 := by rw [← hM]; exact cntB_120 ars ps
  have hcb := clB_bd ars ps
  have HCL : Hid (lenF lv = clB ars ps) := Lib.hid (by rw [← hlv]; rfl)
  have HR0 : Hid (ltB ars ps = ltF (List.replicate M (clB ars ps - 1)) (depsB ars ps).reverse) := Lib.hid (by unfold ltB lt0; rw [hM])
  obtain ⟨cl, hcl⟩ : ∃ cl, clB ars ps = cl := ⟨_, rfl⟩
  rw [hcl] at hcb HCL HR0
  have HLB := Lib.hid (fun x (hx : x ∈ lv) => lvB_bd ars ps x (by rw [hlv]; exact hx))
  have hmem : ∀ d ∈ depsB ars ps, d.1 < d.2.1 ∧ d.2.1 < M := fun d hd => by rw [← hM]; exact depsB_mem hd
  have hlen := depsB_len ars ps
  obtain ⟨ds, hds⟩ : ∃ ds, depsB ars ps = ds := ⟨_, rfl⟩
  rw [hds] at hmem hlen HR0
  have HDS := Lib.hid hds; have HMEM := Lib.hid hmem
  rw [hlv, hnl, hM] at hl
  rw [hlv, hnl, hM]
  rw [hM] at hnl
  have HLN := Lib.hid hnl; have HL2 := Lib.hid hl.at
  clear hl hE2 hlv hnl hM hcl hds hmem
  go_wp2_with (fail)
  refine (l7Length_any p M c lv _ HLN.out HLB.out HL2.out).mono ?_
  rw [HCL.out]
  rintro e w3 ⟨rfl, hE3⟩
  have E3 := Lib.hid (E2.out.trans hE3); have B3 := Lib.hid (hE3.blk B2.out)
  clear hE3
  have hw1 : IntKind.i64.wrap (cl - 1) = cl - 1 := by rw [IntKind.wrap_i64]; omega
  obtain ⟨W4, hW4⟩ : ∃ W4, w3.alloc (.cells #[] 3) = W4 := ⟨_, rfl⟩
  have O4 : Hid (W4.ownsRow w3.heap.size 3 1 (.slice (some ⟨w3.heap.size, 0, none⟩) 0 0) 0 []) := Lib.hid (by have h := World.ownsRow_made (e := 3) (size := 1) w3 #[] 0 (Nat.le_refl _) (Nat.zero_le _) rfl; rw [hW4] at h; exact h)
  have E4 : Hid (Ext w3 W4) := Lib.hid (by rw [← hW4]; exact (Ext.refl w3).alloc _)
  have HW4 := Lib.hid hW4
  clear hW4
  go_wp2
  rw [HW4.out]
  try rw [hw1]
  go_loopw [5, 6] (fun ov iv wr => ∃ (k : Nat) (po : Option Addr) (co : Nat), k ≤ M ∧ iv = .int .i64 k ∧ ov = .slice po k co ∧ wr.ownsRow w3.heap.size 3 1 (.slice po k co) k ((List.replicate k (cl - 1)).map (Value.int .i64)) ∧ Ext w3 wr) (fun _ iv _ => M - (intOf iv).toNat)
  case atStart => exact ⟨0, _, _, by omega, rfl, rfl, O4.out, E4.out⟩
  case round =>
    obtain ⟨k, po, co, hk, rfl, rfl, ho, hE⟩ := hrel
    have HO := Lib.hid ho; have HE := Lib.hid hE
    clear ho hE
    by_cases hlt : k < M
    · have HN1 : Hid (List.replicate (k + 1) (cl - 1) = List.replicate k (cl - 1) ++ [cl - 1]) := Lib.hid List.replicate_succ'
      have HOX := Lib.hid (ownsRow_ext HO.out ((Ext.refl wr).alloc (.cells #[.int .i64 (cl - 1)] 3)))
      have hsz : w3.heap.size ≤ wr.heap.size := HE.out.size_le
      have hkI : (k : Int) < (M : Int) := by omega
      go_wp2_with (at_builtin; refine wpList_append_own_at _ rfl (.tmp 21) (.tmp 23) 27 rfl w3.heap.size 3 i0 (.int .i64 0) 1 8 Tryz.underlying27 hi hz0 hz1 hz2 rfl (by decide) (.slice po k co) k _ rfl HOX.out ⟨wr.heap.size, 0, none⟩ 1 1 [.int .i64 (cl - 1)] rfl rfl ?c1 ?c2 ?c3 ?c4 ?c5 ?_)
      case c1 => exact one_cell (by simp)
      case c2 => intro u hu; simp at hu; subst hu; rfl
      case c3 => unfold maxLen; omega
      case c4 => omega
      case c5 => simp; omega
      intro v' w5 hown' hgrow _ hat
      obtain ⟨po', co', rfl⟩ : ∃ po' co', v' = .slice po' (k + 1) co' := by
        rcases hown'.2 with ⟨rfl, hn0⟩ | ⟨g', cap, cur, e, _⟩
        · exact absurd hn0 (by omega)
        · exact ⟨_, cap, e⟩
      have HRW' : Hid (w5.ownsRow w3.heap.size 3 1 (.slice po' (k + 1) co') (k + 1) ((List.replicate (k + 1) (cl - 1)).map (Value.int .i64))) := Lib.hid (by rw [HN1.out, List.map_append]; simpa using hown')
      have HE5 := Lib.hid ((HE.out.alloc (.cells #[.int .i64 (cl - 1)] 3)).grown hgrow (fun b hb => (HOX.out.lt b hb).1))
      clear hown' hgrow hat
      go_wp2
      go_roundw
      case rel => exact ⟨k + 1, _, _, by omega, by go_num, rfl, HRW'.out, HE5.out⟩
      case measure => simp [intOf]; omega
    · obtain rfl : k = M := by omega
      have E5 := Lib.hid (E3.out.trans HE.out); have B5 := Lib.hid (HE.out.blk B3.out)
      have HI5 : Hid (IntsOwn w3.heap.size wr (.slice po k co) (List.replicate k (cl - 1))) := Lib.hid (IntsOwn.mk HO.out (by simp))
      obtain ⟨y0, y1, -, -⟩ := blk2 B5.out
      clear O4 E4 HO
      go_wp2_with (fail)
      refine (specDependences_any _ ars ps _ (HP.out.ext E5.out)).mono ?_
      rintro e w6 ⟨⟨v6, rfl, hd⟩, hE6⟩
      rw [HDS.out] at hd
      obtain ⟨q, cd, rfl⟩ := hd.form
      obtain ⟨N, hN⟩ : ∃ N, ds.length = N := ⟨_, rfl⟩
      rw [hN] at hd hlen ⊢
      have HN := Lib.hid hN; have HD := Lib.hid hd; have E6 := Lib.hid (HE.out.trans hE6); have HI6 := Lib.hid (HI5.out.ext hE6)
      have HSW := Lib.hid (E3.out.size_le)
      have HIB : Hid (∀ b, (Value.slice po k co).ownBlock = some b → b < wr.heap.size) := Lib.hid (fun b hb => (HI5.out.lt b hb).2)
      clear hN hd hE6 y0 y1
      obtain ⟨wo, rfl⟩ : ∃ wo, wo = wr := ⟨wr, rfl⟩
      go_wp2
      go_loopw [8] (fun iv wr => ∃ x : Int, -1 ≤ x ∧ x < (N : Int) ∧ iv = .int .i64 x ∧ IntsOwn w3.heap.size wr (.slice po k co) (ltF (List.replicate k (cl - 1)) (backN ds (N - (x + 1).toNat))) ∧ DepsOwn wo.heap.size wr (.slice q N cd) ds ∧ Ext w3 wr) (fun iv _ => (intOf iv + 1).toNat)
      case atStart => exact ⟨(N : Int) - 1, by omega, by omega, by go_num, by rw [show N - ((N : Int) - 1 + 1).toNat = 0 by omega]; exact HI6.out, HD.out, E6.out⟩
      case round =>
        obtain ⟨x, hx1, hxN, rfl, hl, hd, hE⟩ := hrel
        have HL := Lib.hid hl; have HD := Lib.hid hd; have HE := Lib.hid hE
        clear hl hd hE HI6
        by_cases h0 : 0 ≤ x
        · obtain ⟨t, rfl⟩ : ∃ t : Nat, x = t := ⟨x.toNat, by omega⟩
          have htN : t < N := by omega
          obtain ⟨d, hd⟩ := get_some (xs := ds) (k := t) (by rw [HN.out]; exact htN)
          obtain ⟨hij, hjM⟩ := HMEM.out d (List.mem_of_getElem? hd)
          obtain ⟨u, hu⟩ : ∃ u, N - ((t : Int) + 1).toNat = u := ⟨_, rfl⟩
          have hut : u = N - 1 - t := by omega
          have HBN : Hid (backN ds (u + 1) = backN ds u ++ [d]) := Lib.hid (backN_next (by rw [HN.out]; omega) (by rw [HN.out, show N - 1 - u = t by omega]; exact hd))
          have hbd := ltF_bdR (M := k) hcb ds u (by rw [HN.out]; omega)
          have HNU : Hid (N - ((t : Int) - 1 + 1).toNat = u + 1) := Lib.hid (by omega)
          rw [hu] at HL
          obtain ⟨i, j, n⟩ := d
          dsimp only at hij hjM
          obtain ⟨l, hll⟩ : ∃ l, ltF (List.replicate k (cl - 1)) (backN ds u) = l := ⟨_, rfl⟩
          have hlk : l.length = k := by rw [← hll, ltF_len, List.length_replicate]
          rw [hll] at HL hbd
          obtain ⟨a, ha⟩ := get_some (xs := l) (k := i) (by omega)
          obtain ⟨b, hb⟩ := get_some (xs := l) (k := j) (by omega)
          obtain ⟨a0, a1⟩ := hbd a (List.mem_of_getElem? ha)
          obtain ⟨b0, b1⟩ := hbd b (List.mem_of_getElem? hb)
          obtain ⟨g, rfl⟩ := HL.out.atBlock ha
          obtain ⟨o, rfl, -, hol, d0, d1, d2⟩ := HD.out.elem hd
          have ca := HL.out.cellI ha; have cb := HL.out.cellI hb
          have HST : Hid (ltF (List.replicate k (cl - 1)) (backN ds (u + 1)) = ltStep l (i, j, n)) := Lib.hid (by rw [HBN.out, ltF_next, hll])
          have HA := Lib.hid ha; have HBB := Lib.hid hb; have HLK := Lib.hid hlk
          have htI : (t : Int) < (N : Int) := by omega
          have hiI : (i : Int) < (k : Int) := by omega
          have hjI : (j : Int) < (k : Int) := by omega
          have hb0' : decide ((0 : Int) ≤ (t : Int)) = true := by simp
          have hgw : g < wo.heap.size := HIB.out g rfl
          have hgB : w3.heap.size ≤ g := HL.out.blockB.1
          dsimp only at d0 d1 d2
          clear hd ha hb hbd hu hll hlk
          go_wp2_with (fail)
          go_region_held3 (fun W => W.cell? ⟨o, t * 3, none⟩ = some (.int .i64 (i : Int)) ∧ W.cell? ⟨o, t * 3 + 1, none⟩ = some (.int .i64 (j : Int)) ∧ W.cell? ⟨g, i, none⟩ = some (.int .i64 a) ∧ W.cell? ⟨g, j, none⟩ = some (.int .i64 b))
            (first | exact ⟨d0, d1, ca, cb⟩ | fail)
            (fail)
          rw [show IntKind.i64.wrap (b - 1) = b - 1 by rw [IntKind.wrap_i64]; omega]
          obtain ⟨wq, hwq⟩ : ∃ wq, wr.drew = wq := ⟨_, rfl⟩
          have EQ : Ext wr wq := by rw [← hwq]; exact (Ext.refl wr).drew
          have HD' := Lib.hid (HD.out.ext EQ); have HL' := Lib.hid (HL.out.ext EQ); have HE' := Lib.hid (HE.out.trans EQ)
          have d0' := EQ.keep d0; have d1' := EQ.keep d1; have ca' := EQ.keep ca; have cb' := EQ.keep cb
          rw [hwq]
          clear hwq EQ d0 d1 d2 ca cb
          by_cases hc : b - 1 < a
          · have hcb2 : decide (b - 1 < a) = true := by simpa using hc
            have HN1 : Hid (ltF (List.replicate k (cl - 1)) (backN ds (u + 1)) = l.set i (b - 1)) := Lib.hid (by rw [HST.out, ltStep_set HA.out HBB.out, Int.min_eq_right (by omega)])
            clear hc
            rw [hcb2]
            clear hcb2
            go_wp2_with (fail)
            go_still_tail 16, (by kernel_rfl)
            change wpList _ _ _ _ _ wq.drew
            obtain ⟨wd, hwd⟩ : ∃ wd, wq.drew = wd := ⟨_, rfl⟩
            have HLd : Hid (IntsOwn w3.heap.size wd (.slice (some ⟨g, 0, none⟩) k co) l) := Lib.hid (by rw [← hwd]; exact HL'.out.ext (Ext.refl wq).drew)
            have HDd : Hid (DepsOwn wo.heap.size wd (.slice (some ⟨o, 0, none⟩) N cd) ds) := Lib.hid (by rw [← hwd]; exact HD'.out.ext (Ext.refl wq).drew)
            have HEd : Hid (Ext w3 wd) := Lib.hid (by rw [← hwd]; exact HE'.out.trans (Ext.refl wq).drew)
            rw [hwd]
            clear hwd d0' d1' ca' cb'
            have hfz := HLd.out.frz i
            have ci := HLd.out.cellI HA.out
            have HL2' : Hid (IntsOwn w3.heap.size (wd.setCell ⟨g, i, none⟩ (.int .i64 (b - 1))) (.slice (some ⟨g, 0, none⟩) k co) (ltF (List.replicate k (cl - 1)) (backN ds (u + 1)))) := Lib.hid (by rw [HN1.out]; exact HLd.out.store HLK.out i (b - 1))
            have HD2' := Lib.hid (HDd.out.setOld (p := ⟨g, i, none⟩) hgw (.int .i64 (b - 1)))
            have HE2' := Lib.hid (HEd.out.setCell (p := ⟨g, i, none⟩) hgB (.int .i64 (b - 1)))
            go_wp2
            go_roundw
            case rel => exact ⟨(t : Int) - 1, by omega, by omega, by go_num, by rw [HNU.out]; exact HL2'.out, HD2'.out, HE2'.out⟩
            case measure => simp [intOf] <;> omega
          · have hcb2 : decide (b - 1 < a) = false := by simpa using hc
            have HN1 : Hid (ltF (List.replicate k (cl - 1)) (backN ds (u + 1)) = l) := Lib.hid (by rw [HST.out, ltStep_same HA.out HBB.out (by omega)])
            clear hc d0' d1' ca' cb'
            rw [hcb2]
            clear hcb2
            go_wp2
            go_roundw
            case rel => exact ⟨(t : Int) - 1, by omega, by omega, by go_num, by rw [HNU.out, HN1.out]; exact HL'.out, HD'.out, HE'.out⟩
            case measure => simp [intOf] <;> omega
        · obtain rfl : x = -1 := by omega
          have HV : Hid (IntsOwn w3.heap.size wr (.slice po k co) (ltB ars ps)) := Lib.hid (by
            have h := HL.out
            rw [HR0.out, ← backN_all, HN.out]
            simpa using h)
          go_wp2
          go_ret
          exact ⟨⟨_, rfl, HV.out.weak HSW.out⟩, E3.out.trans HE.out⟩
end Go.Proofs.YtbcjllanigmioaaGreat
namespace Go.Proofs.YtbcjllanigmioaaGreat
open Go.RowKit Go.Maps
end Go.Proofs.YtbcjllanigmioaaGreat
namespace Go.Proofs.YtbcjllanigmioaaGreat
open Go.RowKit Go.Maps
end Go.Proofs.YtbcjllanigmioaaGreat

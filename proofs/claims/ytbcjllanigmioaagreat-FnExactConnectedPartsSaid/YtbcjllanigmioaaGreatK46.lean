/- The texts G43 G44, joined. No statement is proved here. -/
import Derived.Test.YtbcjllanigmioaaGreatK53
import Derived.Test.YtbcjllanigmioaaGreatK47
/- Connected parts: the model's ConnectedParts. No statement is proved here. -/
namespace Go.Proofs.YtbcjllanigmioaaGreat
open Go.RowKit Go.Maps

theorem cn_take {ds : List D3} {k : Nat} {d : D3} (M : Nat) (h : ds[k]? = some d) : cnF M (ds.take (k + 1)) = cnStep (cnF M (ds.take k)) d := by rw [take_next h, cnF_next]
theorem cn_get {M : Nat} {ds : List D3} {i : Nat} (h : i < M) : ∃ a, (cnF M ds)[i]? = some a := get_some (by rw [cnF_len]; exact h)
/-- The first j elements turned. -/
def mapTo (f : Int → Int) (l : List Int) (j : Nat) : List Int := (l.take j).map f ++ l.drop j
theorem mapTo_len (f : Int → Int) (l : List Int) (j : Nat) : (mapTo f l j).length = l.length := by
  unfold mapTo; rw [List.length_append, List.length_map, ← List.length_append, List.take_append_drop]
theorem mapTo_zero (f : Int → Int) (l : List Int) : mapTo f l 0 = l := by simp [mapTo]
theorem mapTo_all (f : Int → Int) (l : List Int) {j : Nat} (h : l.length ≤ j) : mapTo f l j = l.map f := by
  unfold mapTo; rw [List.take_of_length_le h, List.drop_eq_nil_of_le h, List.append_nil]
theorem mapTo_get {f : Int → Int} {l : List Int} {j : Nat} {x : Int} (h : l[j]? = some x) : (mapTo f l j)[j]? = some x := by
  have hl := (List.getElem?_eq_some_iff.1 h).1
  unfold mapTo
  rw [List.getElem?_append_right (by simp; omega), List.length_map, List.length_take, Nat.min_eq_left (by omega), Nat.sub_self, List.getElem?_drop]
  simpa using h
theorem mapTo_set {f : Int → Int} {l : List Int} {j : Nat} {x : Int} (h : l[j]? = some x) : (mapTo f l j).set j (f x) = mapTo f l (j + 1) := by
  have hl := (List.getElem?_eq_some_iff.1 h).1
  have hd : l.drop j = x :: l.drop (j + 1) := by
    rw [List.drop_eq_getElem_cons hl]
    congr 1
    exact (List.getElem?_eq_some_iff.1 h).2
  unfold mapTo
  rw [List.set_append_right _ _ (by simp; omega), List.length_map, List.length_take, Nat.min_eq_left (by omega), Nat.sub_self, hd, take_next h, List.map_append, List.append_assoc]
  rfl
theorem mapTo_same {f : Int → Int} {l : List Int} {j : Nat} {x : Int} (h : l[j]? = some x) (hf : f x = x) : mapTo f l (j + 1) = mapTo f l j := by
  have h1 := mapTo_set (f := f) h
  have h2 := mapTo_get (f := f) h
  rw [hf] at h1
  rw [← h1]
  obtain ⟨h3, h4⟩ := List.getElem?_eq_some_iff.1 h2
  conv => lhs; rw [← h4]
  exact List.set_getElem_self h3
def cnB (ars : List Arr) (ps : List Pt) : List Int := cnF (cntB ars ps) (depsB ars ps)
theorem cnB_len (ars : List Arr) (ps : List Pt) : (cnB ars ps).length = cntB ars ps := cnF_len _ _
def rngL (k : Nat) : List Int := (List.range k).map (fun i : Nat => (i : Int))
theorem rngL_len (k : Nat) : (rngL k).length = k := by simp [rngL]
theorem rngL_next (k : Nat) : rngL (k + 1) = rngL k ++ [(k : Int)] := by simp [rngL, List.range_succ]
theorem rngL_cn (M : Nat) : rngL M = cnF M [] := rfl
set_option linter.unusedVariables false in
set_option maxRecDepth 100000 in
set_option maxHeartbeats 2000000 in
theorem specProgramInstances_any (v : Value) (ars : List Arr) (ps : List Pt) (w : World) (hp : PrR w v ars ps) :
    Calls Tryz.prog 85 #[v] w fun e w' => (∃ q c, e = .returned (.slice q (cntB ars ps) c)) ∧ Ext w w' := by
  obtain ⟨qa, ca, qp, cp, rfl, hla, hlp, ha, hps⟩ := hp.parts
  obtain ⟨na, hna⟩ : ∃ n, ars.length = n := ⟨_, rfl⟩
  obtain ⟨np, hnp⟩ : ∃ n, ps.length = n := ⟨_, rfl⟩
  rw [hna, hnp] at hp ⊢
  obtain ⟨pb, hpb⟩ : ∃ a, progB ars ps = a := ⟨_, rfl⟩
  have HP := Lib.hid hp; have HPB := Lib.hid hpb
  clear hp ha hps hna hnp hpb
  go_enter Tryz.func85, Tryz.ntmps85
  go_wp2_with (fail)
  obtain ⟨W1, hW1⟩ : ∃ W1, w.alloc (.cells #[.slice qa na ca, .slice qp np cp] 32) = W1 := ⟨_, rfl⟩
  have E1 : Hid (Ext w W1) := Lib.hid (by rw [← hW1]; exact (Ext.refl w).alloc _)
  have B1 := Lib.hid (show W1.heap[w.heap.size]? = some (.cells #[.slice qa na ca, .slice qp np cp] 32 (0, 0)) by rw [← hW1]; exact blk_at rfl)
  have HSW1 : Hid (W1.heap.size = w.heap.size + 1) := Lib.hid (by rw [← hW1]; simp)
  try rw [hW1]
  clear hW1
  refine (specProgramValid_any _ ars ps _ (HP.out.ext E1.out)).mono ?_
  rw [HPB.out]
  rintro e w2 ⟨rfl, hE2⟩
  have E2 := Lib.hid (E1.out.trans hE2); have B2 := Lib.hid (hE2.blk B1.out)
  clear hE2
  cases pb with
  | false =>
    have HR : Hid (cntB ars ps = 0) := Lib.hid (by unfold cntB; rw [HPB.out]; rfl)
    go_wp2
    go_ret
    exact ⟨⟨some ⟨w2.heap.size, 0, none⟩, 0, by rw [HR.out]; rfl⟩, E2.out.alloc _⟩
  | true =>
    have HR : Hid (cntB ars ps = (insM ps).length) := Lib.hid (by unfold cntB; rw [if_pos HPB.out])
    obtain ⟨y0, y1, -, -⟩ := blk2 B2.out
    go_wp2_with (fail)
    refine (l4Instances_any _ ars ps _ (HP.out.ext E2.out) HPB.out).mono ?_
    rintro e w3 ⟨⟨q, c, rfl, -⟩, hE3⟩
    have E3 := Lib.hid (E2.out.trans hE3)
    clear hE3 y0 y1
    go_wp2
    go_ret
    exact ⟨⟨q, c, by rw [HR.out]; rfl⟩, E3.out⟩

set_option linter.unusedVariables false in
set_option linter.unusedSimpArgs false in
set_option maxRecDepth 100000 in
set_option maxHeartbeats 4000000 in
theorem specConnectedParts_any (v : Value) (ars : List Arr) (ps : List Pt) (w : World) (hp : PrR w v ars ps) :
    Calls Tryz.prog 46 #[v] w fun e w' => (∃ v', e = .returned v' ∧ IntsOwn w.heap.size w' v' (cnB ars ps)) ∧ Ext w w' := by
  obtain ⟨qa, ca, qp, cp, rfl, hla, hlp, ha, hps⟩ := hp.parts
  obtain ⟨na, hna⟩ : ∃ n, ars.length = n := ⟨_, rfl⟩
  obtain ⟨np, hnp⟩ : ∃ n, ps.length = n := ⟨_, rfl⟩
  rw [hna, hnp] at hp ⊢
  obtain ⟨pb, hpb⟩ : ∃ a, progB ars ps = a := ⟨_, rfl⟩
  have HP := Lib.hid hp; have HPB := Lib.hid hpb
  clear hp ha hps hna hnp hpb
  go_enter Tryz.func46, Tryz.ntmps46
  go_wp2_with (fail)
  obtain ⟨W1, hW1⟩ : ∃ W1, w.alloc (.cells #[.slice qa na ca, .slice qp np cp] 32) = W1 := ⟨_, rfl⟩
  have E1 : Hid (Ext w W1) := Lib.hid (by rw [← hW1]; exact (Ext.refl w).alloc _)
  have B1 := Lib.hid (show W1.heap[w.heap.size]? = some (.cells #[.slice qa na ca, .slice qp np cp] 32 (0, 0)) by rw [← hW1]; exact blk_at rfl)
  have HSW1 : Hid (W1.heap.size = w.heap.size + 1) := Lib.hid (by rw [← hW1]; simp)
  try rw [hW1]
  clear hW1
  obtain ⟨i0, hi, hz0, hz1, hz2⟩ := info_parts infoInt
  obtain ⟨M, hM⟩ : ∃ M, cntB ars ps = M := ⟨_, rfl⟩
  have hM120 : M ≤ 120 := by rw [← hM]; exact cntB_120 ars ps
  have hmem : ∀ d ∈ depsB ars ps, d.1 < d.2.1 ∧ d.2.1 < M := fun d hd => by rw [← hM]; exact depsB_mem hd
  have hlen := depsB_len ars ps
  have HCB : Hid (cnB ars ps = cnF M (depsB ars ps)) := Lib.hid (by rw [← hM]; rfl)
  have HM := Lib.hid hM
  obtain ⟨ds, hds⟩ : ∃ ds, depsB ars ps = ds := ⟨_, rfl⟩
  rw [hds] at hmem HCB hlen
  obtain ⟨N, hN⟩ : ∃ N, ds.length = N := ⟨_, rfl⟩
  rw [hN] at hlen
  have HDS := Lib.hid hds; have HMEM := Lib.hid hmem; have HN := Lib.hid hN
  clear hM hmem hds hN
  obtain ⟨W2, hW2⟩ : ∃ W2, W1.alloc (.cells #[] 3) = W2 := ⟨_, rfl⟩
  have O2 : Hid (W2.ownsRow (w.heap.size + 1) 3 1 (.slice (some ⟨w.heap.size + 1, 0, none⟩) 0 0) 0 []) := Lib.hid (by have h := World.ownsRow_made (e := 3) (size := 1) W1 #[] 0 (Nat.le_refl _) (Nat.zero_le _) rfl; rw [HSW1.out, hW2] at h; exact h)
  have E2 : Hid (Ext W1 W2) := Lib.hid (by rw [← hW2]; exact (Ext.refl W1).alloc _)
  try rw [hW2]
  clear hW2
  go_wp2
  go_loopw [3, 4] (fun ov iv wr => ∃ (k : Nat) (po : Option Addr) (co : Nat), k ≤ M ∧ iv = .int .i64 k ∧ ov = .slice po k co ∧ wr.ownsRow (w.heap.size + 1) 3 1 (.slice po k co) k ((rngL k).map (Value.int .i64)) ∧ Ext W1 wr) (fun _ iv _ => M - (intOf iv).toNat)
  case atStart => exact ⟨0, _, _, by omega, rfl, rfl, O2.out, E2.out⟩
  case round =>
    obtain ⟨k, po, co, hk, rfl, rfl, ho, hE⟩ := hrel
    clear O2 E2
    have HO := Lib.hid ho; have HE := Lib.hid hE
    obtain ⟨y0, y1, -, -⟩ := blk2 (hE.blk B1.out)
    clear ho hE
    go_wp2_with (fail)
    refine (specProgramInstances_any _ ars ps _ (HP.out.ext (E1.out.trans HE.out))).mono ?_
    rw [HM.out]
    rintro e w4 ⟨⟨q4, c4, rfl⟩, hE4⟩
    have HO4 := Lib.hid (ownsRow_ext HO.out hE4); have E4 := Lib.hid (HE.out.trans hE4)
    clear HO HE hE4 y0 y1
    by_cases hlt : k < M
    · have HOX := Lib.hid (ownsRow_ext HO4.out ((Ext.refl w4).alloc (.cells #[.int .i64 (k : Int)] 3)))
      have hsz : w.heap.size + 1 ≤ w4.heap.size := by have := E4.out.size_le; have := HSW1.out; omega
      go_wp2_with (at_builtin; refine wpList_append_own_at _ rfl (.tmp 19) (.tmp 21) 27 rfl (w.heap.size + 1) 3 i0 (.int .i64 0) 1 8 Tryz.underlying27 hi hz0 hz1 hz2 rfl (by decide) (.slice po k co) k _ rfl HOX.out ⟨w4.heap.size, 0, none⟩ 1 1 [.int .i64 (k : Int)] rfl rfl ?c1 ?c2 ?c3 ?c4 ?c5 ?_)
      case c1 => exact one_cell (by simp)
      case c2 => intro u hu; simp at hu; subst hu; rfl
      case c3 => unfold maxLen; omega
      case c4 => omega
      case c5 => simp; omega
      intro v' w5 hown' hgrow _ hat
      obtain ⟨po', co', rfl⟩ : ∃ po' co', v' = .slice po' (k + 1) co' := by
        rcases hown'.2 with ⟨rfl, hn0⟩ | ⟨g', cap, cur, e, _⟩
        · exact absurd hn0 (by omega)
        · exact ⟨_, cap, e⟩
      have HRW' : Hid (w5.ownsRow (w.heap.size + 1) 3 1 (.slice po' (k + 1) co') (k + 1) ((rngL (k + 1)).map (Value.int .i64))) := Lib.hid (by rw [rngL_next, List.map_append]; simpa using hown')
      have HE5 := Lib.hid ((E4.out.alloc (.cells #[.int .i64 (k : Int)] 3)).grown hgrow (fun b hb => by have := (HOX.out.lt b hb).1; have := HSW1.out; omega))
      clear hown' hgrow hat hsz
      go_wp2
      go_roundw
      case rel => exact ⟨k + 1, _, _, by omega, by go_num, rfl, HRW'.out, HE5.out⟩
      case measure => simp [intOf]; omega
    · obtain rfl : M = k := by omega
      obtain ⟨y0, y1, -, -⟩ := blk2 (E4.out.blk B1.out)
      have HL4 : Hid (IntsOwn (w.heap.size + 1) w4 (.slice po M co) (cnF M [])) := Lib.hid (by rw [← rngL_cn]; exact IntsOwn.mk HO4.out (rngL_len M))
      clear HO4
      go_wp2_with (fail)
      refine (specDependences_any _ ars ps _ (HP.out.ext (E1.out.trans E4.out))).mono ?_
      rintro e w6 ⟨⟨v6, rfl, hd⟩, hE6⟩
      rw [HDS.out] at hd
      obtain ⟨q6, cd, rfl⟩ := hd.form
      rw [HN.out] at hd ⊢
      obtain ⟨D0, hD0⟩ : ∃ D0, w4.heap.size = D0 := ⟨_, rfl⟩
      rw [hD0] at hd
      have HD6 := Lib.hid hd; have E6 := Lib.hid (E4.out.trans hE6); have HL6 := Lib.hid (HL4.out.ext hE6)
      have HGK : Hid (∀ b, (Value.slice po M co).ownBlock = some b → W1.heap.size ≤ b ∧ b < D0) := Lib.hid (fun b hb => by have := HL4.out.lt b hb; have := HSW1.out; omega)
      clear hd hE6 y0 y1 HL4 hD0
      go_wp2
      go_loopw [6] (fun iv wr => ∃ k : Nat, k ≤ N ∧ iv = .int .i64 k ∧ IntsOwn (w.heap.size + 1) wr (.slice po M co) (cnF M (ds.take k)) ∧ DepsOwn D0 wr (.slice q6 N cd) ds ∧ Ext W1 wr) (fun iv _ => N - (intOf iv).toNat)
      case atStart => exact ⟨0, by omega, rfl, HL6.out, HD6.out, E6.out⟩
      case round =>
        obtain ⟨k, hk, rfl, hl, hd, hE⟩ := hrel
        clear HL6 HD6 E6 E4
        have HL := Lib.hid hl; have HD := Lib.hid hd; have HE := Lib.hid hE
        clear hl hd hE
        by_cases hlt : k < N
        · obtain ⟨d, hd⟩ := get_some (xs := ds) (k := k) (by rw [HN.out]; exact hlt)
          obtain ⟨hij, hjM⟩ := HMEM.out d (List.mem_of_getElem? hd)
          have HST := Lib.hid (cn_take M hd)
          obtain ⟨i, j, n⟩ := d
          dsimp only at hij hjM
          obtain ⟨a, ha⟩ := cn_get (M := M) (ds := ds.take k) (show i < M by omega)
          obtain ⟨b, hb⟩ := cn_get (M := M) (ds := ds.take k) hjM
          obtain ⟨o, rfl, -, hol, d0, d1, d2⟩ := HD.out.elem hd
          obtain ⟨g, rfl⟩ := HL.out.atBlock ha
          have ca := HL.out.cellI ha; have cb := HL.out.cellI hb
          have HLAB : Hid ((cnF M (ds.take k)).length = M) := Lib.hid (cnF_len _ _)
          obtain ⟨lab, hlab⟩ : ∃ lab, cnF M (ds.take k) = lab := ⟨_, rfl⟩
          rw [hlab] at ha hb HL HST HLAB
          have HA := Lib.hid ha; have HBB := Lib.hid hb
          have HGW : Hid (W1.heap.size ≤ g) := Lib.hid (HGK.out g rfl).1
          have HGD : Hid (g < D0) := Lib.hid (HGK.out g rfl).2
          have hkI : (k : Int) < (N : Int) := by omega
          have hiI : (i : Int) < (M : Int) := by omega
          have hjI : (j : Int) < (M : Int) := by omega
          dsimp only at d0 d1 d2
          clear hd ha hb hlab
          by_cases hba : b < a
          · have hbb : decide (b < a) = true := by simpa using hba
            have hmx : max a b = a := Int.max_eq_left (by omega)
            have hmn : min a b = b := Int.min_eq_right (by omega)
            clear hba
            have HLB2 := Lib.hid (show IntsOwn (w.heap.size + 1) wr (.slice (some ⟨g, 0, none⟩) M co) (mapTo (fun x => if x = a then b else x) lab 0) by rw [mapTo_zero]; exact HL.out)
            have HST2 : Hid (lab.map (fun x => if x = a then b else x) = cnF M (ds.take (k + 1))) := Lib.hid (by rw [HST.out]; unfold cnStep; rw [getD_of HA.out, getD_of HBB.out]; dsimp only; rw [hmx, hmn])
            clear hmx hmn
            go_wp2
            go_loopw [10] (fun jv wq => ∃ j : Nat, j ≤ M ∧ jv = .int .i64 j ∧ IntsOwn (w.heap.size + 1) wq (.slice (some ⟨g, 0, none⟩) M co) (mapTo (fun x => if x = a then b else x) lab j) ∧ DepsOwn D0 wq (.slice (some ⟨o, 0, none⟩) N cd) ds ∧ Ext W1 wq) (fun jv _ => M - (intOf jv).toNat)
            case atStart => exact ⟨0, by omega, rfl, HLB2.out, HD.out, HE.out⟩
            case round =>
              obtain ⟨j, hj, rfl, hl, hd, hE⟩ := hrel
              clear HL HD HE HLB2
              have HL := Lib.hid hl; have HD := Lib.hid hd; have HE := Lib.hid hE
              clear hl hd hE
              by_cases hlt2 : j < M
              · obtain ⟨y, hy⟩ := get_some (xs := lab) (k := j) (by rw [HLAB.out]; exact hlt2)
                have hcy := HL.out.cellI (mapTo_get (f := (fun x => if x = a then b else x)) hy)
                have hjI : (j : Int) < (M : Int) := by omega
                have hfz := HL.out.frz j
                by_cases he : y = a
                · have hb : (y == a) = true := by simpa using he
                  have HN1 : Hid (mapTo (fun x => if x = a then b else x) lab (j + 1) = (mapTo (fun x => if x = a then b else x) lab j).set j b) := Lib.hid (by rw [← mapTo_set hy, if_pos he])
                  have HL2 : Hid (IntsOwn (w.heap.size + 1) (wr.setCell ⟨g, j, none⟩ (.int .i64 b)) (.slice (some ⟨g, 0, none⟩) M co) (mapTo (fun x => if x = a then b else x) lab (j + 1))) := Lib.hid (by rw [HN1.out]; exact HL.out.store (by rw [mapTo_len, HLAB.out]) j _)
                  have HD2 := Lib.hid (HD.out.setOld (p := ⟨g, j, none⟩) (by show g < _; exact HGD.out) (.int .i64 b))
                  have HE2 := Lib.hid (HE.out.setCell (p := ⟨g, j, none⟩) (by show W1.heap.size ≤ g; exact HGW.out) (.int .i64 b))
                  clear he hy
                  go_wp2
                  go_roundw
                  case rel => exact ⟨j + 1, by omega, by go_num, HL2.out, HD2.out, HE2.out⟩
                  case measure => simp [intOf]; omega
                · have hb : (y == a) = false := by simpa using he
                  have HN1 : Hid (mapTo (fun x => if x = a then b else x) lab (j + 1) = mapTo (fun x => if x = a then b else x) lab j) := Lib.hid (mapTo_same hy (by rw [if_neg he]))
                  clear he hy
                  go_wp2
                  go_roundw
                  case rel => exact ⟨j + 1, by omega, by go_num, by rw [HN1.out]; exact HL.out, HD.out, HE.out⟩
                  case measure => simp [intOf]; omega
              · obtain rfl : j = M := by omega
                have HL2 : Hid (IntsOwn (w.heap.size + 1) wr (.slice (some ⟨g, 0, none⟩) j co) (cnF j (ds.take (k + 1)))) := Lib.hid (by rw [← HST2.out, ← mapTo_all _ lab (Nat.le_of_eq HLAB.out)]; exact HL.out)
                go_wp2
                go_roundw
                case rel => exact ⟨k + 1, by omega, by go_num, HL2.out, HD.out, HE.out⟩
                case measure => simp [intOf]; omega
          · have hbb : decide (b < a) = false := by simpa using hba
            have hmx : max a b = b := Int.max_eq_right (by omega)
            have hmn : min a b = a := Int.min_eq_left (by omega)
            clear hba
            have HLB2 := Lib.hid (show IntsOwn (w.heap.size + 1) wr (.slice (some ⟨g, 0, none⟩) M co) (mapTo (fun x => if x = b then a else x) lab 0) by rw [mapTo_zero]; exact HL.out)
            have HST2 : Hid (lab.map (fun x => if x = b then a else x) = cnF M (ds.take (k + 1))) := Lib.hid (by rw [HST.out]; unfold cnStep; rw [getD_of HA.out, getD_of HBB.out]; dsimp only; rw [hmx, hmn])
            clear hmx hmn
            go_wp2
            go_loopw [10] (fun jv wq => ∃ j : Nat, j ≤ M ∧ jv = .int .i64 j ∧ IntsOwn (w.heap.size + 1) wq (.slice (some ⟨g, 0, none⟩) M co) (mapTo (fun x => if x = b then a else x) lab j) ∧ DepsOwn D0 wq (.slice (some ⟨o, 0, none⟩) N cd) ds ∧ Ext W1 wq) (fun jv _ => M - (intOf jv).toNat)
            case atStart => exact ⟨0, by omega, rfl, HLB2.out, HD.out, HE.out⟩
            case round =>
              obtain ⟨j, hj, rfl, hl, hd, hE⟩ := hrel
              clear HL HD HE HLB2
              have HL := Lib.hid hl; have HD := Lib.hid hd; have HE := Lib.hid hE
              clear hl hd hE
              by_cases hlt2 : j < M
              · obtain ⟨y, hy⟩ := get_some (xs := lab) (k := j) (by rw [HLAB.out]; exact hlt2)
                have hcy := HL.out.cellI (mapTo_get (f := (fun x => if x = b then a else x)) hy)
                have hjI : (j : Int) < (M : Int) := by omega
                have hfz := HL.out.frz j
                by_cases he : y = b
                · have hb : (y == b) = true := by simpa using he
                  have HN1 : Hid (mapTo (fun x => if x = b then a else x) lab (j + 1) = (mapTo (fun x => if x = b then a else x) lab j).set j a) := Lib.hid (by rw [← mapTo_set hy, if_pos he])
                  have HL2 : Hid (IntsOwn (w.heap.size + 1) (wr.setCell ⟨g, j, none⟩ (.int .i64 a)) (.slice (some ⟨g, 0, none⟩) M co) (mapTo (fun x => if x = b then a else x) lab (j + 1))) := Lib.hid (by rw [HN1.out]; exact HL.out.store (by rw [mapTo_len, HLAB.out]) j _)
                  have HD2 := Lib.hid (HD.out.setOld (p := ⟨g, j, none⟩) (by show g < _; exact HGD.out) (.int .i64 a))
                  have HE2 := Lib.hid (HE.out.setCell (p := ⟨g, j, none⟩) (by show W1.heap.size ≤ g; exact HGW.out) (.int .i64 a))
                  clear he hy
                  go_wp2
                  go_roundw
                  case rel => exact ⟨j + 1, by omega, by go_num, HL2.out, HD2.out, HE2.out⟩
                  case measure => simp [intOf]; omega
                · have hb : (y == b) = false := by simpa using he
                  have HN1 : Hid (mapTo (fun x => if x = b then a else x) lab (j + 1) = mapTo (fun x => if x = b then a else x) lab j) := Lib.hid (mapTo_same hy (by rw [if_neg he]))
                  clear he hy
                  go_wp2
                  go_roundw
                  case rel => exact ⟨j + 1, by omega, by go_num, by rw [HN1.out]; exact HL.out, HD.out, HE.out⟩
                  case measure => simp [intOf]; omega
              · obtain rfl : j = M := by omega
                have HL2 : Hid (IntsOwn (w.heap.size + 1) wr (.slice (some ⟨g, 0, none⟩) j co) (cnF j (ds.take (k + 1)))) := Lib.hid (by rw [← HST2.out, ← mapTo_all _ lab (Nat.le_of_eq HLAB.out)]; exact HL.out)
                go_wp2
                go_roundw
                case rel => exact ⟨k + 1, by omega, by go_num, HL2.out, HD.out, HE.out⟩
                case measure => simp [intOf]; omega
        · obtain rfl : k = N := by omega
          have HR : Hid (IntsOwn (w.heap.size + 1) wr (.slice po M co) (cnF M ds)) := Lib.hid (by have h := HL.out; rwa [List.take_of_length_le (by rw [HN.out]; exact Nat.le_refl _)] at h)
          go_wp2
          go_ret
          exact ⟨⟨_, rfl, by rw [HCB.out]; exact HR.out.weak (Nat.le_succ _)⟩, E1.out.trans HE.out⟩
end Go.Proofs.YtbcjllanigmioaaGreat

/- Connected parts: the program's forest, (graph).connected, ConnectedParts. No statement is proved here. -/
namespace Go.Proofs.YtbcjllanigmioaaGreat
open Go.RowKit Go.Maps

theorem Frst.lab_le {f lab : List Int} (h : Frst f lab) : ∀ (n : Nat) (z : Int), lab[n]? = some z → 0 ≤ z ∧ z ≤ (n : Int) := by
  intro n
  induction n using Nat.strongRecOn with
  | _ n ih =>
    intro z hz
    have hn : n < f.length := by rw [h.1]; exact (List.getElem?_eq_some_iff.1 hz).1
    obtain ⟨x, hx⟩ := get_some (xs := f) (k := n) hn
    obtain ⟨x0, x1, x2, x3⟩ := h.2 n x hx
    by_cases e : x = n
    · have h1 := x3 e
      rw [hz] at h1
      cases h1
      omega
    · have hxl : x.toNat < lab.length := by rw [← h.1]; omega
      have hxz : lab[x.toNat]? = some z := by
        rw [List.getD_eq_getElem?_getD, List.getD_eq_getElem?_getD, hz, List.getElem?_eq_getElem hxl] at x2
        rw [List.getElem?_eq_getElem hxl]
        simpa using x2
      have := ih x.toNat (by omega) z hxz
      omega
/-- A label that is its own is a root. -/
theorem Frst.fix {f lab : List Int} (h : Frst f lab) {r : Nat} (hr : lab[r]? = some (r : Int)) : f[r]? = some (r : Int) := by
  have hn : r < f.length := by rw [h.1]; exact (List.getElem?_eq_some_iff.1 hr).1
  obtain ⟨x, hx⟩ := get_some (xs := f) (k := r) hn
  obtain ⟨x0, x1, x2, x3⟩ := h.2 r x hx
  have hxl : x.toNat < lab.length := by rw [← h.1]; omega
  have hxz : lab[x.toNat]? = some (r : Int) := by
    rw [List.getD_eq_getElem?_getD, List.getD_eq_getElem?_getD, hr, List.getElem?_eq_getElem hxl] at x2
    rw [List.getElem?_eq_getElem hxl]
    simpa using x2
  have := h.lab_le _ _ hxz
  have e : x = (r : Int) := by omega
  rw [hx, e]
theorem lab_same {f lab : List Int} (h : Frst f lab) {n : Nat} {x : Nat} (hx : f[n]? = some (x : Int)) {z : Int} (hz : lab[n]? = some z) : lab[x]? = some z := by
  obtain ⟨x0, x1, x2, x3⟩ := h.2 n x hx
  have hn := (List.getElem?_eq_some_iff.1 hz).1
  have hxl : x < lab.length := by omega
  rw [Int.toNat_natCast, List.getD_eq_getElem?_getD, List.getD_eq_getElem?_getD, hz, List.getElem?_eq_getElem hxl] at x2
  rw [List.getElem?_eq_getElem hxl]
  simpa using x2

set_option linter.unusedVariables false in
set_option linter.unusedSimpArgs false in
set_option maxRecDepth 100000 in
set_option maxHeartbeats 2000000 in
theorem root_any (B g M c : Nat) (f lab : List Int) (n : Nat) (z : Int) (w : World) (hF : Frst f lab) (hl : lab.length = M) (hn : lab[n]? = some z) (ho : IntsOwn B w (.slice (some ⟨g, 0, none⟩) M c) f) :
    Calls Tryz.prog 125 #[.slice (some ⟨g, 0, none⟩) M c, .int .i64 (n : Int)] w fun e w' => ∃ (r : Nat) (f' : List Int), e = .returned (.int .i64 (r : Int)) ∧ z = (r : Int) ∧ f'[r]? = some (r : Int) ∧ Frst f' lab ∧ IntsOwn B w' (.slice (some ⟨g, 0, none⟩) M c) f' ∧ Lv (fun b => b = g) w w' := by
  have hnM : n < M := by rw [← hl]; exact (List.getElem?_eq_some_iff.1 hn).1
  have HF := Lib.hid hF; have HL := Lib.hid hl; have HN := Lib.hid hn; have HO := Lib.hid ho
  clear hF hl hn ho
  go_enter Tryz.func125, Tryz.ntmps125
  go_wp2
  go_loopw [1] (fun nv wr => ∃ (m : Nat) (f' : List Int), m < M ∧ nv = .int .i64 (m : Int) ∧ lab[m]? = some z ∧ Frst f' lab ∧ IntsOwn B wr (.slice (some ⟨g, 0, none⟩) M c) f' ∧ Lv (fun b => b = g) w wr) (fun nv _ => (intOf nv).toNat)
  case atStart => exact ⟨n, f, hnM, rfl, HN.out, HF.out, HO.out, Lv.refl _ _⟩
  case round =>
    obtain ⟨m, f', hm, rfl, hz, hF, ho, hv⟩ := hrel
    obtain ⟨x, hx⟩ := get_some (xs := f') (k := m) (by rw [hF.1, HL.out]; exact hm)
    obtain ⟨x0, x1, -, -⟩ := hF.2 m x hx
    obtain ⟨xn, rfl⟩ : ∃ xn : Nat, x = xn := ⟨x.toNat, by omega⟩
    have hcx := ho.cellI hx
    have hmI : (m : Int) < (M : Int) := by omega
    by_cases he : xn = m
    · have hb : ((xn : Int) != (m : Int)) = false := by simp [he]
      have HLV := Lib.hid hv; have HO2 := Lib.hid ho; have HF2 := Lib.hid hF
      have HZ : Hid (z = (m : Int)) := Lib.hid (by
        subst he
        have h1 := hF.root hx
        rw [hz] at h1
        exact Option.some.inj h1)
      have HX : Hid (f'[m]? = some (m : Int)) := Lib.hid (by rw [hx, he])
      clear he hx hz hF ho hv HF HO HN
      go_wp2
      go_ret
      exact ⟨m, f', rfl, HZ.out, HX.out, HF2.out, HO2.out, HLV.out⟩
    · have hb : ((xn : Int) != (m : Int)) = true := by simp; omega
      have hxlt : xn < m := by omega
      obtain ⟨y, hy⟩ := get_some (xs := f') (k := xn) (by rw [hF.1, HL.out]; omega)
      obtain ⟨y0, y1, -, -⟩ := hF.2 xn y hy
      obtain ⟨yn, rfl⟩ : ∃ yn : Nat, y = yn := ⟨y.toNat, by omega⟩
      have hcy := ho.cellI hy
      have hfz := ho.frz m
      have hxI : (xn : Int) < (M : Int) := by omega
      have HF2 : Hid (Frst (f'.set m (yn : Int)) lab) := Lib.hid (hF.halve hx (by omega) (by rw [Int.toNat_natCast]; exact hy))
      have ho1 : IntsOwn B (wr.setCell ⟨g, m, none⟩ (.int .i64 (yn : Int))) (.slice (some ⟨g, 0, none⟩) M c) (f'.set m (yn : Int)) := ho.store (by rw [hF.1, HL.out]) m _
      have hv1 := hv.trans (lv_set wr g m (.int .i64 (yn : Int))) (E := fun b => b = g) (fun _ _ h => h) (fun _ _ h => h)
      obtain ⟨w1, hw1⟩ : ∃ w1, wr.setCell ⟨g, m, none⟩ (.int .i64 (yn : Int)) = w1 := ⟨_, rfl⟩
      rw [hw1] at ho1 hv1
      have hc1 : w1.cell? ⟨g, m, none⟩ = some (.int .i64 (yn : Int)) := ho1.cellI (by rw [List.getElem?_set]; simp; rw [hF.1, HL.out]; exact hm)
      have HZ : Hid (lab[yn]? = some z) := Lib.hid (lab_same hF hy (lab_same hF hx hz))
      have HO1 := Lib.hid ho1; have HV1 := Lib.hid hv1
      clear he hx hy hz hF ho hv HF HO HN ho1 hv1
      go_wp2
      go_roundw
      case rel => exact ⟨yn, _, by omega, rfl, HZ.out, HF2.out, HO1.out, HV1.out⟩
      case measure => simp [intOf]; omega

set_option linter.unusedVariables false in
set_option linter.unusedSimpArgs false in
set_option maxRecDepth 100000 in
set_option maxHeartbeats 2000000 in
theorem join_any (B g M c : Nat) (f lab : List Int) (d : D3) (w : World) (hF : Frst f lab) (hl : lab.length = M) (h1 : d.1 < M) (h2 : d.2.1 < M) (ho : IntsOwn B w (.slice (some ⟨g, 0, none⟩) M c) f) :
    Calls Tryz.prog 124 #[.slice (some ⟨g, 0, none⟩) M c, .int .i64 (d.1 : Int), .int .i64 (d.2.1 : Int)] w fun e w' => (∃ v, e = .returned v) ∧ ∃ f' : List Int, Frst f' (cnStep lab d) ∧ IntsOwn B w' (.slice (some ⟨g, 0, none⟩) M c) f' ∧ Lv (fun b => b = g) w w' := by
  obtain ⟨i, j, kn⟩ := d
  dsimp only at h1 h2
  obtain ⟨a, ha⟩ := get_some (xs := lab) (k := i) (by rw [hl]; exact h1)
  obtain ⟨b, hb⟩ := get_some (xs := lab) (k := j) (by rw [hl]; exact h2)
  have HF := Lib.hid hF; have HL := Lib.hid hl; have HA := Lib.hid ha; have HB := Lib.hid hb; have HO := Lib.hid ho
  clear hF hl ha hb ho
  go_enter Tryz.func124, Tryz.ntmps124
  go_wp2_with (fail)
  refine (root_any B g M c f lab i a _ HF.out HL.out HA.out HO.out).mono ?_
  rintro e w1 ⟨r1, f1, rfl, rfl, hr1, hF1, ho1, hv1⟩
  have HF1 := Lib.hid hF1; have HO1 := Lib.hid ho1; have HV1 := Lib.hid hv1; have HR1 := Lib.hid hr1
  clear hF1 ho1 hv1 hr1
  go_wp2_with (fail)
  refine (root_any B g M c f1 lab j b _ HF1.out HL.out HB.out HO1.out).mono ?_
  rintro e w2 ⟨r2, f2, rfl, rfl, hr2, hF2, ho2, hv2⟩
  have hl1 : lab[r1]? = some (r1 : Int) := HF1.out.root HR1.out
  have hr12 : f2[r1]? = some (r1 : Int) := hF2.fix hl1
  have hr1M : r1 < M := by rw [← HL.out]; exact (List.getElem?_eq_some_iff.1 hl1).1
  have hr2M : r2 < M := by rw [← HL.out, ← hF2.1]; exact (List.getElem?_eq_some_iff.1 hr2).1
  have HJ : Hid (Frst (f2.set (max r1 r2) ((min r1 r2 : Nat) : Int)) (cnStep lab (i, j, kn))) := Lib.hid (hF2.join (d := (i, j, kn)) HA.out HB.out hr12 hr2)
  have HO2 : Hid (IntsOwn B (w2.setCell ⟨g, max r1 r2, none⟩ (.int .i64 ((min r1 r2 : Nat) : Int))) (.slice (some ⟨g, 0, none⟩) M c) (f2.set (max r1 r2) ((min r1 r2 : Nat) : Int))) := Lib.hid (ho2.store (by rw [hF2.1, HL.out]) _ _)
  have HV2 : Hid (Lv (fun b => b = g) w (w2.setCell ⟨g, max r1 r2, none⟩ (.int .i64 ((min r1 r2 : Nat) : Int)))) := Lib.hid ((HV1.out.trans hv2 (E := fun b => b = g) (fun _ _ h => h) (fun _ _ h => h)).trans (lv_set w2 g _ _) (fun _ _ h => h) (fun _ _ h => h))
  obtain ⟨y, hy⟩ := get_some (xs := f2) (k := max r1 r2) (by rw [hF2.1, HL.out]; omega)
  have hcy := ho2.cellI hy
  have hfz := ho2.frz (max r1 r2)
  have hmxM : ((max r1 r2 : Nat) : Int) < (M : Int) := by omega
  clear hF2 ho2 hv2 hr2 hl1 hr12 hy
  rcases Nat.lt_trichotomy r1 r2 with hc | hc | hc
  · have h1 : (r1 : Int) < (r2 : Int) := by omega
    have h2 : ¬ ((r2 : Int) < (r1 : Int)) := by omega
    rw [show max r1 r2 = r2 by omega] at HJ HO2 HV2 hcy hfz hmxM
    rw [show min r1 r2 = r1 by omega] at HJ HO2 HV2
    go_wp2
    exact bodyPost_end (results_none rfl _ _ _) rfl ⟨⟨_, rfl⟩, _, HJ.out, HO2.out, HV2.out⟩
  · subst hc
    have h1 : ¬ ((r1 : Int) < (r1 : Int)) := by omega
    rw [show max r1 r1 = r1 by omega] at HJ HO2 HV2 hcy hfz hmxM
    rw [show min r1 r1 = r1 by omega] at HJ HO2 HV2
    go_wp2
    exact bodyPost_end (results_none rfl _ _ _) rfl ⟨⟨_, rfl⟩, _, HJ.out, HO2.out, HV2.out⟩
  · have h1 : (r2 : Int) < (r1 : Int) := by omega
    have h2 : ¬ ((r1 : Int) < (r2 : Int)) := by omega
    rw [show max r1 r2 = r1 by omega] at HJ HO2 HV2 hcy hfz hmxM
    rw [show min r1 r2 = r2 by omega] at HJ HO2 HV2
    go_wp2
    exact bodyPost_end (results_none rfl _ _ _) rfl ⟨⟨_, rfl⟩, _, HJ.out, HO2.out, HV2.out⟩

theorem underForest : Tryz.prog.underlying 181 = some (.slice 3) := by kernel_rfl
set_option linter.unusedVariables false in
set_option linter.unusedSimpArgs false in
set_option maxRecDepth 100000 in
set_option maxHeartbeats 2000000 in
theorem forestOf_any (M : Nat) (w : World) (hM : M ≤ 120) :
    Calls Tryz.prog 123 #[.int .i64 (M : Int)] w fun e w' => (∃ v, e = .returned v ∧ IntsOwn w.heap.size w' v (rngL M)) ∧ Ext w w' := by
  obtain ⟨i0, hi, hz0, hz1, hz2⟩ := info_parts infoInt
  go_enter Tryz.func123, Tryz.ntmps123
  go_wp2
  go_loopw [3, 6] (fun ov iv wr => ∃ (k : Nat) (po : Option Addr) (co : Nat), k ≤ M ∧ iv = .int .i64 k ∧ ov = .slice po k co ∧ wr.ownsRow w.heap.size 3 1 (.slice po k co) k ((rngL k).map (Value.int .i64)) ∧ Ext w wr) (fun _ iv _ => M - (intOf iv).toNat)
  case atStart => exact ⟨0, _, _, by omega, rfl, rfl, World.ownsRow_nil _ _ _ _, Ext.refl w⟩
  case round =>
    obtain ⟨k, po, co, hk, rfl, rfl, ho, hE⟩ := hrel
    have HO := Lib.hid ho; have HE := Lib.hid hE
    clear ho hE
    by_cases hlt : k < M
    · have HOX := Lib.hid (ownsRow_ext HO.out ((Ext.refl wr).alloc (.cells #[.int .i64 (k : Int)] 3)))
      have hsz : w.heap.size ≤ wr.heap.size := HE.out.size_le
      go_wp2_with (at_builtin; refine wpList_append_own_at _ rfl (.tmp 9) (.tmp 11) 181 rfl w.heap.size 3 i0 (.int .i64 0) 1 8 underForest hi hz0 hz1 hz2 rfl (by decide) (.slice po k co) k _ rfl HOX.out ⟨wr.heap.size, 0, none⟩ 1 1 [.int .i64 (k : Int)] rfl rfl ?c1 ?c2 ?c3 ?c4 ?c5 ?_)
      case c1 => exact one_cell (by simp)
      case c2 => intro u hu; simp at hu; subst hu; rfl
      case c3 => unfold maxLen; omega
      case c4 => omega
      case c5 => simp; omega
      intro v' w5 hown' hgrow _ hat
      obtain ⟨po', co', rfl⟩ : ∃ po' co', v' = .slice po' (k + 1) co' := by
        rcases hown'.2 with ⟨rfl, hn0⟩ | ⟨g', cap, cur, e, _⟩
        · exact absurd hn0 (by omega)
        · exact ⟨_, cap, e⟩
      have HRW' : Hid (w5.ownsRow w.heap.size 3 1 (.slice po' (k + 1) co') (k + 1) ((rngL (k + 1)).map (Value.int .i64))) := Lib.hid (by rw [rngL_next, List.map_append]; simpa using hown')
      have HE5 := Lib.hid ((HE.out.alloc (.cells #[.int .i64 (k : Int)] 3)).grown hgrow (fun b hb => (HOX.out.lt b hb).1))
      clear hown' hgrow hat hsz
      go_wp2
      go_roundw
      case rel => exact ⟨k + 1, _, _, by omega, by go_num, rfl, HRW'.out, HE5.out⟩
      case measure => simp [intOf]; omega
    · obtain rfl : k = M := by omega
      go_wp2
      go_ret
      exact ⟨⟨_, rfl, IntsOwn.mk HO.out (rngL_len k)⟩, HE.out⟩

set_option linter.unusedVariables false in
set_option linter.unusedSimpArgs false in
set_option maxRecDepth 100000 in
set_option maxHeartbeats 4000000 in
theorem connected_any (B : Nat) (M N c : Nat) (q : Option Addr) (ds : List D3) (w : World) (hd : DepsOwn B w (.slice q N c) ds) (hN : ds.length = N) (hN2 : N ≤ 14400) (hM : M ≤ 120) (hmem : ∀ d ∈ ds, d.1 < d.2.1 ∧ d.2.1 < M) :
    Calls Tryz.prog 86 #[.agg #[.int .i64 (M : Int), .slice q N c]] w fun e w' => (∃ v', e = .returned v' ∧ IntsOwn w.heap.size w' v' (cnF M ds)) ∧ Ext w w' := by
  obtain ⟨i0, hi, hz0, hz1, hz2⟩ := info_parts infoInt
  have HD := Lib.hid hd; have HN := Lib.hid hN; have HMEM := Lib.hid hmem
  clear hd hN hmem
  go_enter Tryz.func86, Tryz.ntmps86
  go_wp2_with (fail)
  obtain ⟨W1, hW1⟩ : ∃ W1, w.alloc (.cells #[.int .i64 (M : Int), .slice q N c] 120) = W1 := ⟨_, rfl⟩
  have E1 : Hid (Ext w W1) := Lib.hid (by rw [← hW1]; exact (Ext.refl w).alloc _)
  have B1 := Lib.hid (show W1.heap[w.heap.size]? = some (.cells #[.int .i64 (M : Int), .slice q N c] 120 (0, 0)) by rw [← hW1]; exact blk_at rfl)
  try rw [hW1]
  clear hW1
  refine (forestOf_any M _ hM).mono ?_
  rintro e w2 ⟨⟨v2, rfl, ho⟩, hE2⟩
  obtain ⟨po, co, rfl⟩ := ints_form ho
  rw [rngL_len] at ho ⊢
  have E2 := Lib.hid (E1.out.trans hE2)
  have HO2 : Hid (IntsOwn w.heap.size w2 (.slice po M co) (rngL M)) := Lib.hid (ho.weak E1.out.size_le)
  obtain ⟨y0, y1, -, -⟩ := blk2 (hE2.blk B1.out)
  clear ho hE2
  go_wp2
  go_loopw [14] (fun iv wr => ∃ (k : Nat) (f : List Int), k ≤ N ∧ iv = .int .i64 k ∧ Frst f (cnF M (ds.take k)) ∧ IntsOwn w.heap.size wr (.slice po M co) f ∧ Ext w wr) (fun iv _ => N - (intOf iv).toNat)
  case atStart => exact ⟨0, rngL M, by omega, rfl, Frst.start M, HO2.out, E2.out⟩
  case round =>
    obtain ⟨k, f, hk, rfl, hF, ho, hE⟩ := hrel
    clear HO2 E2 y0 y1
    have HF := Lib.hid hF; have HO := Lib.hid ho; have HE := Lib.hid hE
    clear hF ho hE
    by_cases hlt : k < N
    · obtain ⟨d, hd⟩ := get_some (xs := ds) (k := k) (by rw [HN.out]; exact hlt)
      obtain ⟨hij, hjM⟩ := HMEM.out d (List.mem_of_getElem? hd)
      have HST := Lib.hid (cn_take M hd)
      obtain ⟨o, rfl, -, hol, d0, d1, d2⟩ := (HD.out.ext HE.out).elem hd
      obtain ⟨i, j, n⟩ := d
      dsimp only at hij hjM d0 d1 d2
      obtain ⟨x, hx⟩ := get_some (xs := f) (k := i) (by rw [HF.out.1, cnF_len]; omega)
      obtain ⟨g, rfl⟩ := HO.out.atBlock hx
      have hkI : (k : Int) < (N : Int) := by omega
      clear hd hx
      go_wp2_with (fail)
      obtain ⟨wx, hwx⟩ : ∃ wx, wr.alloc (.cells #[.int .i64 (i : Int), .int .i64 (j : Int), .int .i64 n] 51) = wx := ⟨_, rfl⟩
      have EX : Ext wr wx := by rw [← hwx]; exact (Ext.refl wr).alloc _
      have HOx := Lib.hid (HO.out.ext EX); have HEx := Lib.hid (HE.out.trans EX)
      try rw [hwx]
      clear hwx EX d0 d1 d2
      refine (join_any w.heap.size g M co f (cnF M (ds.take k)) (i, j, n) _ HF.out (cnF_len _ _) (by show i < M; omega) hjM HOx.out).mono ?_
      rintro e w4 ⟨⟨v4, rfl⟩, f', hF', ho', hv'⟩
      have HF' : Hid (Frst f' (cnF M (ds.take (k + 1)))) := Lib.hid (by rw [HST.out]; exact hF')
      have HO' := Lib.hid ho'
      have HE' := Lib.hid (hv'.ext0 HEx.out (fun b hb h => by have := ho'.blockB.1; omega))
      clear hF' ho' hv'
      go_wp2
      go_roundw
      case rel => exact ⟨k + 1, f', by omega, by go_num, HF'.out, HO'.out, HE'.out⟩
      case measure => simp [intOf]; omega
    · obtain rfl : k = N := by omega
      have HF2 : Hid (Frst f (cnF M ds)) := Lib.hid (by have h := HF.out; rwa [List.take_of_length_le (by rw [HN.out]; exact Nat.le_refl _)] at h)
      have HLAB : Hid ((cnF M ds).length = M) := Lib.hid (cnF_len _ _)
      obtain ⟨lab, hlab⟩ : ∃ lab, cnF M ds = lab := ⟨_, rfl⟩
      rw [hlab] at HF2 HLAB
      have HLL := Lib.hid hlab
      obtain ⟨W4, hW4⟩ : ∃ W4, wr = W4 := ⟨_, rfl⟩
      rw [hW4] at HO HE ⊢
      clear hlab HF hW4
      have HSZ4 := Lib.hid HE.out.size_le
      have HGK : Hid (∀ b, (Value.slice po M co).ownBlock = some b → w.heap.size ≤ b ∧ b < W4.heap.size) := Lib.hid (fun b hb => HO.out.lt b hb)
      go_wp2
      go_loopw [6, 27] (fun ov iv wr => ∃ (m : Nat) (pl : Option Addr) (cl : Nat) (f : List Int), m ≤ M ∧ iv = .int .i64 m ∧ ov = .slice pl m cl ∧ Frst f lab ∧ IntsOwn w.heap.size wr (.slice po M co) f ∧ wr.ownsRow W4.heap.size 3 1 (.slice pl m cl) m ((lab.take m).map (Value.int .i64)) ∧ W4.heap.size ≤ wr.heap.size ∧ Ext w wr) (fun _ iv _ => M - (intOf iv).toNat)
      case atStart => exact ⟨0, _, _, f, by omega, rfl, rfl, HF2.out, HO.out, World.ownsRow_nil _ _ _ _, Nat.le_refl _, HE.out⟩
      case round =>
        obtain ⟨m, pl, cl, f, hm, rfl, rfl, hF, ho, hl, hw, hE⟩ := hrel
        clear HF2 HO HE
        have HF := Lib.hid hF; have HO := Lib.hid ho; have HL := Lib.hid hl; have HW := Lib.hid hw; have HE := Lib.hid hE
        clear hF ho hl hw hE
        by_cases hlt : m < M
        · obtain ⟨z, hz⟩ := get_some (xs := lab) (k := m) (by rw [HLAB.out]; exact hlt)
          obtain ⟨x, hx⟩ := get_some (xs := f) (k := m) (by rw [HF.out.1, HLAB.out]; exact hlt)
          obtain ⟨g, rfl⟩ := HO.out.atBlock hx
          have HZ := Lib.hid hz
          clear hz hx
          go_wp2_with (fail)
          refine (root_any w.heap.size g M co f lab m z _ HF.out HLAB.out HZ.out HO.out).mono ?_
          rintro e w5 ⟨r, f', rfl, rfl, hr, hF', ho', hv'⟩
          have hgk := HGK.out g rfl
          have hl5 : w5.ownsRow W4.heap.size 3 1 (.slice pl m cl) m ((lab.take m).map (Value.int .i64)) := row_lv HL.out hv' (fun b hb h => by have := (HL.out.lt b hb).1; omega)
          have HF5 := Lib.hid hF'; have HO5 := Lib.hid ho'; have HL5 := Lib.hid hl5
          have HE5 := Lib.hid (hv'.ext0 HE.out (fun b hb h => by have := hgk.1; omega))
          have HW5 : Hid (W4.heap.size ≤ w5.heap.size) := Lib.hid (Nat.le_trans HW.out hv'.size)
          have HOX := Lib.hid (ownsRow_ext HL5.out ((Ext.refl w5).alloc (.cells #[.int .i64 (r : Int)] 3)))
          have hsz : W4.heap.size ≤ w5.heap.size := HW5.out
          clear hF' ho' hl5 hv' hr
          go_wp2_with (at_builtin; refine wpList_append_own_at _ rfl (.tmp 30) (.tmp 34) 27 rfl W4.heap.size 3 i0 (.int .i64 0) 1 8 Tryz.underlying27 hi hz0 hz1 hz2 rfl (by decide) (.slice pl m cl) m _ rfl HOX.out ⟨w5.heap.size, 0, none⟩ 1 1 [.int .i64 (r : Int)] rfl rfl ?c1 ?c2 ?c3 ?c4 ?c5 ?_)
          case c1 => exact one_cell (by simp)
          case c2 => intro u hu; simp at hu; subst hu; rfl
          case c3 => unfold maxLen; omega
          case c4 => omega
          case c5 => simp; omega
          intro v' w6 hown' hgrow _ hat
          obtain ⟨po', co', rfl⟩ : ∃ po' co', v' = .slice po' (m + 1) co' := by
            rcases hown'.2 with ⟨rfl, hn0⟩ | ⟨g', cap, cur, e, _⟩
            · exact absurd hn0 (by omega)
            · exact ⟨_, cap, e⟩
          have HRW' : Hid (w6.ownsRow W4.heap.size 3 1 (.slice po' (m + 1) co') (m + 1) ((lab.take (m + 1)).map (Value.int .i64))) := Lib.hid (by rw [take_next HZ.out, List.map_append]; simpa using hown')
          have HO6 : Hid (IntsOwn w.heap.size w6 (.slice (some ⟨g, 0, none⟩) M co) f') := Lib.hid (World.ownsRow.kept (HO5.out.ext ((Ext.refl w5).alloc (.cells #[.int .i64 (r : Int)] 3))) hgrow (.inr (fun e => by have h1 := hgk.2; have h2 := (HOX.out.lt g e.symm).1; omega)))
          have HE6 := Lib.hid ((HE5.out.alloc (.cells #[.int .i64 (r : Int)] 3)).grown hgrow (fun b hb => by have h1 := (HOX.out.lt b hb).1; have h2 := hgk.1; have h3 := hgk.2; omega))
          have HW6 : Hid (W4.heap.size ≤ w6.heap.size) := Lib.hid (by have h1 := hgrow.size; have h2 := HW5.out; simp at h1; omega)
          clear hown' hgrow hat hsz hgk
          go_wp2
          go_roundw
          case rel => exact ⟨m + 1, _, _, f', by omega, by go_num, rfl, HF5.out, HO6.out, HRW'.out, HW6.out, HE6.out⟩
          case measure => simp [intOf]; omega
        · obtain rfl : m = M := by omega
          have HR : Hid (IntsOwn W4.heap.size wr (.slice pl m cl) lab) := Lib.hid (by have h := HL.out; rw [List.take_of_length_le (by rw [HLAB.out]; exact Nat.le_refl _)] at h; exact IntsOwn.mk h HLAB.out)
          have HSW : Hid (w.heap.size ≤ W4.heap.size) := Lib.hid HSZ4.out
          go_wp2
          go_ret
          exact ⟨⟨_, rfl, by rw [HLL.out]; exact HR.out.weak HSW.out⟩, HE.out⟩
set_option linter.unusedVariables false in
set_option maxRecDepth 100000 in
set_option maxHeartbeats 1000000 in
theorem ConnectedParts_any (v : Value) (ars : List Arr) (ps : List Pt) (w : World) (hp : PrR w v ars ps) :
    Calls Tryz.prog 47 #[v] w fun e w' => (∃ v', e = .returned v' ∧ IntsOwn w.heap.size w' v' (cnB ars ps)) ∧ Ext w w' := by
  obtain ⟨qa, ca, qp, cp, rfl, -, -, -, -⟩ := hp.parts
  have HP := Lib.hid hp
  clear hp
  go_enter Tryz.func47, Tryz.ntmps47
  go_wp2_with (fail)
  obtain ⟨W1, hW1⟩ : ∃ W1, w.alloc (.cells #[.slice qa ars.length ca, .slice qp ps.length cp] 32) = W1 := ⟨_, rfl⟩
  have E1 : Hid (Ext w W1) := Lib.hid (by rw [← hW1]; exact (Ext.refl w).alloc _)
  try rw [hW1]
  clear hW1
  refine (graphOf_any _ ars ps _ (HP.out.ext E1.out)).mono ?_
  rintro e w2 ⟨⟨v2, rfl, hd⟩, hE2⟩
  obtain ⟨p2, c2, rfl⟩ := hd.form
  have HD2 := Lib.hid hd; have E2 := Lib.hid (E1.out.trans hE2)
  clear hd hE2
  go_wp2_with (fail)
  refine (connected_any _ (cntB ars ps) _ c2 p2 (depsB ars ps) _ HD2.out rfl (depsB_len ars ps) (cntB_120 ars ps) (fun d hd => depsB_mem hd)).mono ?_
  rintro e w3 ⟨⟨v3, rfl, hl⟩, hE3⟩
  have HL := Lib.hid (hl.weak E2.out.size_le); have E3 := Lib.hid (E2.out.trans hE3)
  clear hl hE3
  go_wp2
  go_ret
  exact ⟨⟨_, rfl, HL.out⟩, E3.out⟩
end Go.Proofs.YtbcjllanigmioaaGreat

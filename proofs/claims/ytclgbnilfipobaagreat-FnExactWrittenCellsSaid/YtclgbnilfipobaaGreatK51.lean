/- The texts G34, joined. No statement is proved here. -/
import Derived.Test.YtclgbnilfipobaaGreatK44
import Derived.Test.YtclgbnilfipobaaGreatK41
/- What a program writes, in ascending order: the model's l5Flagged and WrittenCells. No statement is proved here. -/
namespace Go.Proofs.YtclgbnilfipobaaGreat
open Go.RowKit Go.Maps

/-- The numbers below n that are in s, in ascending order. -/
def fl (n : Nat) (s : List Int) : List Int := ((List.range n).filter (fun (j : Nat) => decide ((j : Int) ∈ s))).map (fun (j : Nat) => (j : Int))
theorem fl_yes {k : Nat} {s : List Int} (h : (k : Int) ∈ s) : fl (k + 1) s = fl k s ++ [(k : Int)] := by simp [fl, List.range_succ, List.filter_append, h]
theorem fl_no {k : Nat} {s : List Int} (h : (k : Int) ∉ s) : fl (k + 1) s = fl k s := by simp [fl, List.range_succ, List.filter_append, h]
theorem fl_len (k : Nat) (s : List Int) : (fl k s).length ≤ k := by
  unfold fl
  rw [List.length_map]
  exact Nat.le_trans (List.length_filter_le _ _) (by simp)
def wrS (ars : List Arr) (ps : List Pt) : List Int := (insM ps).map (fun y => writeCell ars y.2 y.1.2.2)
def wrB (ars : List Arr) (ps : List Pt) : List Int := if progB ars ps = true then fl (totN ars).toNat (wrS ars ps) else []

set_option linter.unusedVariables false in
set_option linter.unusedSimpArgs false in
set_option maxRecDepth 100000 in
set_option maxHeartbeats 2000000 in
theorem l5Flagged_any (L N : Nat) (s : List Int) (w : World) (hF : FlgAt w L (flg N s)) (hN : N ≤ 1048576) :
    Calls Tryz.prog 87 #[.slice (some ⟨L, 0, none⟩) N N] w fun e w' => (∃ v, e = .returned v ∧ IntsOwn w.heap.size w' v (fl N s)) ∧ Ext w w' := by
  obtain ⟨i0, hi, hz0, hz1, hz2⟩ := info_parts infoInt
  have HF := Lib.hid hF; clear hF
  go_enter Tryz.func87, Tryz.ntmps87
  go_wp2
  obtain ⟨W0, hW0⟩ : ∃ W0, w.alloc (.cells #[] 3) = W0 := ⟨_, rfl⟩
  have E0 : Hid (Ext w W0) := Lib.hid (by rw [← hW0]; exact (Ext.refl w).alloc _)
  have O0 : Hid (W0.ownsRow w.heap.size 3 1 (.slice (some ⟨w.heap.size, 0, none⟩) 0 0) 0 []) := Lib.hid (by rw [← hW0]; exact World.ownsRow_made w #[] 0 (Nat.le_refl _) (Nat.zero_le _) rfl)
  try rw [hW0]
  clear hW0
  go_loopw [3, 4] (fun ov iv wr => ∃ (k m : Nat) (po : Option Addr) (co : Nat), k ≤ N ∧ iv = .int .i64 k ∧ ov = .slice po m co ∧ (fl k s).length = m ∧ wr.ownsRow w.heap.size 3 1 (.slice po m co) m ((fl k s).map (Value.int .i64)) ∧ Ext w wr) (fun _ iv _ => N - (intOf iv).toNat)
  case atStart => exact ⟨0, 0, _, _, by omega, rfl, rfl, rfl, O0.out, E0.out⟩
  case round =>
    obtain ⟨k, m, po, co, hk, rfl, rfl, hm, ho, hE⟩ := hrel
    have HM := Lib.hid hm; have HO := Lib.hid ho; have HE := Lib.hid hE
    have hmk : m ≤ k := by rw [← hm]; exact fl_len k s
    clear hm ho hE
    by_cases hlt : k < N
    · have hfl := (show FlgAt wr L (flg N s) from HE.out.blk HF.out).cell (flg_get s hlt)
      obtain ⟨sb, hsb⟩ : ∃ sb, decide ((k : Int) ∈ s) = sb := ⟨_, rfl⟩
      rw [hsb] at hfl
      have HSB := Lib.hid hsb
      clear hsb
      cases sb with
      | false =>
        have HN1 := Lib.hid (fl_no (of_decide_eq_false HSB.out))
        go_wp2
        go_roundw
        case rel => exact ⟨k + 1, m, po, co, by omega, by go_num, rfl, by rw [HN1.out]; exact HM.out, by rw [HN1.out]; exact HO.out, HE.out⟩
        case measure => simp [intOf]; omega
      | true =>
        have HN1 := Lib.hid (fl_yes (of_decide_eq_true HSB.out))
        have HOX := Lib.hid (ownsRow_ext HO.out ((Ext.refl wr).alloc (.cells #[.int .i64 (k : Int)] 3)))
        have hsz : w.heap.size ≤ wr.heap.size := HE.out.size_le
        go_wp2_with (at_builtin; refine wpList_append_own_at _ rfl (.tmp 16) (.tmp 18) 39 rfl w.heap.size 3 i0 (.int .i64 0) 1 8 underSliceInt hi hz0 hz1 hz2 rfl (by decide) (.slice po m co) m _ rfl HOX.out ⟨wr.heap.size, 0, none⟩ 1 1 [.int .i64 (k : Int)] rfl rfl ?c1 ?c2 ?c3 ?c4 ?c5 ?_)
        case c1 => exact one_cell rfl
        case c2 => intro u hu; simp at hu; subst hu; rfl
        case c3 => unfold maxLen; omega
        case c4 => omega
        case c5 => simp; omega
        intro v' w5 hown' hgrow _ hat
        obtain ⟨po', co', rfl⟩ : ∃ po' co', v' = .slice po' (m + 1) co' := by
          rcases hown'.2 with ⟨rfl, hn0⟩ | ⟨g, cap, cur, e, _⟩
          · exact absurd hn0 (by omega)
          · exact ⟨_, cap, e⟩
        have HRW' : Hid (w5.ownsRow w.heap.size 3 1 (.slice po' (m + 1) co') (m + 1) ((fl (k + 1) s).map (Value.int .i64))) := Lib.hid (by rw [HN1.out, List.map_append]; simpa using hown')
        have HE5 := Lib.hid ((HE.out.alloc (.cells #[.int .i64 (k : Int)] 3)).grown hgrow (fun b hb => (HOX.out.lt b hb).1))
        clear hown' hgrow hat
        go_wp2
        go_roundw
        case rel => exact ⟨k + 1, m + 1, _, _, by omega, by go_num, rfl, by rw [HN1.out, List.length_append, HM.out]; rfl, HRW'.out, HE5.out⟩
        case measure => simp [intOf]; omega
    · obtain rfl : k = N := by omega
      go_wp2
      go_ret
      exact ⟨⟨_, rfl, IntsOwn.mk HO.out HM.out⟩, HE.out⟩

theorem InssOwn.setOld {B : Nat} {w : World} {v : Value} {l : List In3} (h : InssOwn B w v l) {p : Addr} (hp : p.block < B) (u : Value) : InssOwn B (w.setCell p u) v l := by
  obtain ⟨vs, ho, he⟩ := h
  refine ⟨vs, ownsRow_setCell_below ho hp u, fun i x hi => ?_⟩
  obtain ⟨u0, u1, u2, a0, a1, a2, b0, b1, b2⟩ := he i x hi
  exact ⟨u0, u1, u2, a0, a1, a2, b0, b1, b2.setOld hp u⟩
theorem wrS_len (ars : List Arr) (ps : List Pt) : (wrS ars ps).length = (insM ps).length := by simp [wrS]
theorem write_bd {ars : List Arr} {s : St} {pt : List Int} (hok : ∀ a ∈ ars, arrOkB a = true) (h : cellsOk ars s pt = true) : 0 ≤ writeCell ars s pt ∧ writeCell ars s pt < totN ars := by
  simp only [cellsOk, Bool.and_eq_true, decide_eq_true_eq] at h
  have h1 := cellI_bd s.1 s.2.1 pt (base := 0) hok
  have h2 : cellI s.1 s.2.1 pt 0 ars = writeCell ars s pt := rfl
  rw [h2] at h1
  omega

set_option linter.unusedVariables false in
set_option linter.unusedSimpArgs false in
set_option maxRecDepth 100000 in
set_option maxHeartbeats 4000000 in
theorem specWrittenCells_any (v : Value) (ars : List Arr) (ps : List Pt) (w : World) (hp : PrR w v ars ps) :
    Calls Tryz.prog 47 #[v] w fun e w' => (∃ v', e = .returned v' ∧ IntsOwn w.heap.size w' v' (wrB ars ps)) ∧ Ext w w' := by
  obtain ⟨qa, ca, qp, cp, rfl, hla, hlp, ha, hps⟩ := hp.parts
  obtain ⟨na, hna⟩ : ∃ n, ars.length = n := ⟨_, rfl⟩
  obtain ⟨np, hnp⟩ : ∃ n, ps.length = n := ⟨_, rfl⟩
  obtain ⟨M, hM⟩ : ∃ M, (insM ps).length = M := ⟨_, rfl⟩
  rw [hna] at hla ha
  rw [hnp] at hps hlp
  rw [hna, hnp] at hp ⊢
  obtain ⟨pb, hpb⟩ : ∃ a, progB ars ps = a := ⟨_, rfl⟩
  have HP := Lib.hid hp; have HA := Lib.hid ha; have HPS := Lib.hid hps; have HNA := Lib.hid hna; have HNP := Lib.hid hnp; have HPB := Lib.hid hpb; have HM := Lib.hid hM
  clear hp ha hps hna hnp hpb hM
  go_enter Tryz.func47, Tryz.ntmps47
  go_wp2_with (fail)
  obtain ⟨W1, hW1⟩ : ∃ W1, w.alloc (.cells #[.slice qa na ca, .slice qp np cp] 31) = W1 := ⟨_, rfl⟩
  have E1 : Hid (Ext w W1) := Lib.hid (by rw [← hW1]; exact (Ext.refl w).alloc _)
  have B1 := Lib.hid (show W1.heap[w.heap.size]? = some (.cells #[.slice qa na ca, .slice qp np cp] 31 (0, 0)) by rw [← hW1]; exact blk_at rfl)
  have HZ1 : Hid (W1.heap.size = w.heap.size + 1) := Lib.hid (by rw [← hW1]; simp)
  try rw [hW1]
  clear hW1
  refine (specProgramValid_any _ ars ps _ (HP.out.ext E1.out)).mono ?_
  rw [HPB.out]
  rintro e w2 ⟨rfl, hE2⟩
  have E2 := Lib.hid hE2; have B2 := Lib.hid (hE2.blk B1.out)
  clear hE2
  cases pb with
  | false =>
    have HR : Hid (wrB ars ps = []) := Lib.hid (by unfold wrB; rw [HPB.out]; rfl)
    go_wp2
    go_ret
    refine ⟨⟨_, rfl, ?_⟩, (E1.out.trans E2.out).alloc _⟩
    rw [HR.out]
    exact World.ownsRow_made w2 #[] 0 (by have := (E1.out.trans E2.out).size_le; omega) (Nat.zero_le _) rfl
  | true =>
    obtain ⟨hab, hp4, hpo, hin⟩ := progB_inv HPB.out
    have hn4' : na ≤ 4 := by have := arrs_len hab; have := HNA.out; omega
    have HOK : Hid (∀ a ∈ ars, arrOkB a = true) := Lib.hid (by have h := hab; simp only [arrsB, Bool.and_eq_true, List.all_eq_true] at h; exact h.1)
    have hM120 : M ≤ 120 := by have := insM_120 HPB.out; have := HM.out; omega
    have hnp4 : np ≤ 4 := by have := HNP.out; omega
    obtain ⟨N, hN⟩ : ∃ N : Nat, totN ars = (N : Int) := ⟨(totN ars).toNat, by have := (totN_bd HOK.out).1; omega⟩
    have hN2 : N ≤ 1048576 := by have := (totN_bd HOK.out).2; have := HNA.out; omega
    have HTN := Lib.hid hN
    have HWB : Hid (wrB ars ps = fl N (wrS ars ps)) := Lib.hid (by unfold wrB; rw [if_pos HPB.out, hN]; rfl)
    have HAB := Lib.hid hab
    clear hab hp4 hpo hin hN
    obtain ⟨y0, y1, -, -⟩ := blk2 B2.out
    have hmk := make_flags N hN2
    go_wp2_with (fail)
    refine (l4Total_any _ ars ps _ (HP.out.ext (E1.out.trans E2.out)) HAB.out).mono ?_
    rw [HTN.out]
    rintro e w3 ⟨rfl, hE3⟩
    have E3 := Lib.hid (E2.out.trans hE3); have B3 := Lib.hid (hE3.blk B2.out)
    clear hE3 y0 y1
    obtain ⟨y0, y1, -, -⟩ := blk2 B3.out
    have hgl : w.heap.size < w3.heap.size := lt_of_block B3.out
    go_wp2_with (fail)
    obtain ⟨W4, hW4⟩ : ∃ W4, w3.alloc (.cells ((flg N []).map Value.bool).toArray 4) = W4 := ⟨_, rfl⟩
    have E4 : Hid (Ext W1 W4) := Lib.hid (by rw [← hW4]; exact E3.out.alloc _)
    have F4 : Hid (FlgAt W4 w3.heap.size (flg N [])) := Lib.hid (by rw [← hW4]; exact blk_at rfl)
    have HZ4 : Hid (W4.heap.size = w3.heap.size + 1) := Lib.hid (by rw [← hW4]; simp)
    try rw [hW4]
    clear hW4 y0 y1 hmk hgl
    refine (l4Instances_any _ ars ps _ (HP.out.ext (E1.out.trans E4.out)) HPB.out).mono ?_
    rintro e w5 ⟨⟨q, c, rfl, hio⟩, hE5⟩
    rw [HM.out] at hio ⊢
    have HIO := Lib.hid hio; have E5 := Lib.hid (E4.out.trans hE5); have F5 : Hid (FlgAt w5 w3.heap.size (flg N [])) := Lib.hid (hE5.blk F4.out)
    have hLF : W1.heap.size ≤ w3.heap.size := E3.out.size_le
    clear hE5 hio
    obtain ⟨L, hL⟩ : ∃ L, w3.heap.size = L := ⟨_, rfl⟩
    rw [hL] at F5 hLF HZ4 ⊢
    clear F4 hL
    go_wp2
    go_loopw [5] (fun iv wr => ∃ m : Nat, m ≤ M ∧ iv = .int .i64 m ∧ FlgAt wr L (flg N ((wrS ars ps).take m)) ∧ InssOwn W4.heap.size wr (.slice q M c) ((insM ps).map (·.1)) ∧ Ext W1 wr) (fun iv _ => M - (intOf iv).toNat)
    case atStart => exact ⟨0, by omega, rfl, by simpa using F5.out, HIO.out, E5.out⟩
    case round =>
      obtain ⟨m, hm, rfl, hf, hio, hE⟩ := hrel
      clear HIO F5
      have HF := Lib.hid hf; have HIO := Lib.hid hio; have HE := Lib.hid hE; have HEW := Lib.hid (E1.out.trans hE)
      obtain ⟨y0, y1, -, -⟩ := blk2 (hE.blk B1.out)
      clear hf hio hE
      by_cases hkM : m < M
      · obtain ⟨y, hy⟩ := get_some (xs := insM ps) (k := m) (by rw [HM.out]; exact hkM)
        obtain ⟨x, hx, hst, hpt, hnb, hvb, hck⟩ := insM_good HPB.out (List.mem_of_getElem? hy)
        have hpw := (nptsL_W hnb hpt).1
        have HYU : Hid ((wrS ars ps)[m]? = some (writeCell ars y.2 y.1.2.2)) := Lib.hid (by unfold wrS; rw [List.getElem?_map, hy]; rfl)
        obtain ⟨o, r, ri, rfl, hol, i0, i1, i2, hip⟩ := HIO.out.elem (i := m) (x := y.1) (by rw [List.getElem?_map, hy]; rfl)
        obtain ⟨⟨i, j, pt⟩, s⟩ := y
        dsimp only at hx hst hpt hvb hck hpw i0 i1 i2 hip
        obtain ⟨b, off, qn, mn, qb, m2, rfl, -, c1, hbb, -, hss⟩ := (HPS.out.ext HEW.out).elem hx
        obtain ⟨nb, hnbl⟩ : ∃ n, x.2.length = n := ⟨_, rfl⟩
        rw [hnbl] at c1 hss
        obtain ⟨bb, bo, q1, d1, q2, d2, q3, d3, q4, d4, rfl, s0, s1, s2, s3, s4, s5, s6, s7, s8, hbb2, hstr, -⟩ := hss.elem' hst
        have hiI : (i : Int) < (np : Int) := by have := (List.getElem?_eq_some_iff.1 hx).1; have := HNP.out; omega
        have hjI : (j : Int) < (nb : Int) := by have := (List.getElem?_eq_some_iff.1 hst).1; omega
        obtain ⟨pl, hpl⟩ : ∃ n, pt.length = n := ⟨_, rfl⟩
        rw [hpl] at i2 hip
        have HY := Lib.hid hy; have HX := Lib.hid hx; have HST := Lib.hid hst; have HVB := Lib.hid hvb; have HCK := Lib.hid hck; have HPW := Lib.hid hpw; have HIP := Lib.hid hip; have HSTR := Lib.hid hstr
        have HPL := Lib.hid hpl
        obtain ⟨wc, hwc⟩ : ∃ z, writeCell ars s pt = z := ⟨_, rfl⟩
        have HWC := Lib.hid hwc
        have hmI : (m : Int) < (M : Int) := by omega
        clear hy hx hst hpt hnb hvb hck hpw hip hstr hss hpl hwc
        have hwb := write_bd HOK.out HCK.out
        rw [HWC.out, HTN.out] at hwb
        obtain ⟨wm, rfl⟩ : ∃ wm : Nat, wc = (wm : Int) := ⟨wc.toNat, by omega⟩
        have hwm : wm < N := by omega
        clear hwb
        go_wp2_with (fail)
        go_region_held3 (fun W => W.cell? ⟨w.heap.size, 0, none⟩ = some (.slice qa na ca) ∧ W.cell? ⟨w.heap.size, 1, none⟩ = some (.slice (some ⟨b, off, none⟩) np cp) ∧ W.cell? ⟨o, m * 3, none⟩ = some (.int .i64 (i : Int)) ∧ W.cell? ⟨o, m * 3 + 1, none⟩ = some (.int .i64 (j : Int)) ∧ W.cell? ⟨o, m * 3 + 2, none⟩ = some (.slice r pl ri) ∧ W.cell? ⟨b, off + i * 2 + 1, none⟩ = some (.slice (some ⟨bb, bo, none⟩) nb m2) ∧ W.cell? ⟨bb, bo + j * 9, none⟩ = some (.string s.1) ∧ W.cell? ⟨bb, bo + j * 9 + 1, none⟩ = some (.slice q1 s.2.1.length d1) ∧ W.cell? ⟨bb, bo + j * 9 + 2, none⟩ = some (.int .i64 s.2.2.kind) ∧ W.cell? ⟨bb, bo + j * 9 + 3, none⟩ = some (.int .i64 s.2.2.num) ∧ W.cell? ⟨bb, bo + j * 9 + 4, none⟩ = some (.slice q2 s.2.2.ix.1.length d2) ∧ W.cell? ⟨bb, bo + j * 9 + 5, none⟩ = some (.int .i64 s.2.2.ix.2) ∧ W.cell? ⟨bb, bo + j * 9 + 6, none⟩ = some (.string s.2.2.arr) ∧ W.cell? ⟨bb, bo + j * 9 + 7, none⟩ = some (.slice q3 s.2.2.subs.length d3) ∧ W.cell? ⟨bb, bo + j * 9 + 8, none⟩ = some (.slice q4 s.2.2.kids.length d4))
          (first | exact ⟨y0, y1, i0, i1, i2, c1, s0, s1, s2, s3, s4, s5, s6, s7, s8⟩ | exact ⟨g3.keep y0, g3.keep y1, g3.keep i0, g3.keep i1, g3.keep i2, g3.keep c1, g3.keep s0, g3.keep s1, g3.keep s2, g3.keep s3, g3.keep s4, g3.keep s5, g3.keep s6, g3.keep s7, g3.keep s8⟩ | fail)
          (first | (go_at_call 82; (with_reducible refine (l4Cells_any qa na ca ars _ _ s pt (x.1.length : Int) _ HNA.out ((HA.out.ext HEW.out).ext (Ext.refl wr).drew) HOK.out hn4' (HSTR.out.ext (Ext.refl wr).drew) HVB.out (IntsAt.ext (IntsOwn.at HIP.out) (Ext.refl wr).drew) HPW.out).mono ?_); rw [HCK.out, HWC.out]; rintro e w5' ⟨⟨v5, cw5, rfl, hok5, -⟩, hE5⟩; have g3 := (Ext.refl wr).drew.trans hE5) | fail)
        obtain ⟨hcw, hrd⟩ := hok5 (by trivial)
        subst hcw
        obtain ⟨p5, c5, rfl⟩ := ints_form hrd
        have E5' := Lib.hid (HE.out.trans g3); have HF5 : Hid (FlgAt w5' L (flg N ((wrS ars ps).take m))) := Lib.hid (g3.blk HF.out); have HIO5 := Lib.hid (HIO.out.ext g3)
        have hfz : w5'.frozen? ⟨L, wm, none⟩ = false := HF5.out.frozen
        have hcl := HF5.out.cell (flg_get ((wrS ars ps).take m) hwm)
        have HF6 : Hid (FlgAt (w5'.setCell ⟨L, wm, none⟩ (.bool true)) L (flg N ((wrS ars ps).take (m + 1)))) := Lib.hid (by rw [take_next HYU.out]; show FlgAt _ L (flg N (_ ++ [writeCell ars s pt])); rw [HWC.out, ← flg_set]; exact HF5.out.set true)
        have HI6 := Lib.hid (HIO5.out.setOld (p := ⟨L, wm, none⟩) (by show L < _; have := HZ4.out; omega) (.bool true))
        have E6 := Lib.hid (E5'.out.setCell (p := ⟨L, wm, none⟩) hLF (.bool true))
        clear y0 y1 i0 i1 i2 c1 s0 s1 s2 s3 s4 s5 s6 s7 s8 g3 hrd hok5
        go_wp2
        go_roundw
        case rel => exact ⟨m + 1, by omega, by go_num, HF6.out, HI6.out, E6.out⟩
        case measure => simp [intOf]; omega
      · obtain rfl : m = M := by omega
        have HF2 : Hid (FlgAt wr L (flg N (wrS ars ps))) := Lib.hid (by
          have h := HF.out
          rwa [List.take_of_length_le (by rw [wrS_len, HM.out]; omega)] at h)
        go_wp2_with (fail)
        refine (l5Flagged_any L N (wrS ars ps) _ HF2.out hN2).mono ?_
        rintro e w7 ⟨⟨v7, rfl, hv7⟩, hE7⟩
        have HV7 := Lib.hid hv7; have E7 := Lib.hid (HEW.out.trans hE7)
        have hsz := HEW.out.size_le
        clear hE7 hv7 y0 y1
        go_wp2
        go_ret
        exact ⟨⟨_, rfl, by rw [HWB.out]; exact HV7.out.weak hsz⟩, E7.out⟩
end Go.Proofs.YtclgbnilfipobaaGreat

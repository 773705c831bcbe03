/- The texts G51, joined. No statement is proved here. -/
import Derived.Test.YtbcjllanigmioaaGreatK47
import Derived.Test.YtbcjllanigmioaaGreatK45
import Derived.StillTailTactics
/- The model's InputCells. No statement is proved here. -/
namespace Go.Proofs.YtbcjllanigmioaaGreat
open Go.RowKit Go.Maps

/-- The cells that an instance reads which are not among those written. -/
def inRow (reads W : List Int) : List Int := reads.filter (fun c => decide (c ∉ W))
def inTo (us : List Us) (i : Nat) : List Int := (List.range i).flatMap (fun j => inRow (us.getD j ([], 0)).1 ((us.take j).map (fun u => u.2)))
theorem inTo_next {us : List Us} {i : Nat} {u : Us} (h : us[i]? = some u) : inTo us (i + 1) = inTo us i ++ inRow u.1 ((us.take i).map (fun u => u.2)) := by
  simp [inTo, List.range_succ, List.getD_eq_getElem?_getD, h]
theorem wrS_uses (ars : List Arr) (ps : List Pt) (m : Nat) : ((usesM ars ps).take m).map (fun u => u.2) = (wrS ars ps).take m := by
  rw [List.map_take]; simp [usesM, wrS, useOf, Function.comp_def]
theorem reads_bd {ars : List Arr} {s : St} {pt : List Int} (hok : ∀ a ∈ ars, arrOkB a = true) (h : cellsOk ars s pt = true) : ∀ c ∈ readCells ars s pt, 0 ≤ c ∧ c < totN ars := by
  intro c hc
  simp only [cellsOk, Bool.and_eq_true, List.all_eq_true, decide_eq_true_eq] at h
  have h0 := h.1 c hc
  simp only [readCells, List.mem_map] at hc
  obtain ⟨a, -, rfl⟩ := hc
  have h1 := cellI_bd a.1 a.2 pt (base := 0) hok
  omega
theorem fl_same {N : Nat} {s t : List Int} (h : ∀ c, c ∈ s ↔ c ∈ t) : fl N s = fl N t := by
  unfold fl
  congr 1
  refine List.filter_congr (fun j _ => ?_)
  simp [h]
theorem flg_same {N m : Nat} {s : List Int} {b : Bool} (h : decide ((m : Int) ∈ s) = b) : (flg N s).set m b = flg N s := by
  refine List.ext_getElem? (fun j => ?_)
  rw [List.getElem?_set]
  by_cases e : m = j
  · subst e
    by_cases hj : m < N
    · rw [if_pos rfl, if_pos (by simp [flg]; exact hj), flg_get _ hj, h]
    · rw [if_pos rfl, if_neg (by simp [flg]; omega), List.getElem?_eq_none (by simp [flg]; omega)]
  · rw [if_neg e]
def icB (ars : List Arr) (ps : List Pt) : List Int := if progB ars ps = true then fl (totN ars).toNat (inTo (usesM ars ps) (insM ps).length) else []
theorem inRow_next {rs W : List Int} {k : Nat} {x : Int} (h : rs[k]? = some x) : inRow (rs.take (k + 1)) W = inRow (rs.take k) W ++ (if x ∈ W then [] else [x]) := by
  unfold inRow
  rw [take_next h, List.filter_append]
  by_cases e : x ∈ W <;> simp [e]
/-- One read: what the flags say behind it. -/
theorem ic_step {N xm : Nat} {S A W rs : List Int} {k : Nat} {b1 b2 : Bool} (hx : rs[k]? = some (xm : Int)) (h1 : decide ((xm : Int) ∈ S) = b1) (h2 : decide ((xm : Int) ∈ W) = b2) (hS : ∀ c, c ∈ S ↔ c ∈ A ++ inRow (rs.take k) W) :
    ∃ S', (flg N S).set xm (b1 || !b2) = flg N S' ∧ ∀ c, c ∈ S' ↔ c ∈ A ++ inRow (rs.take (k + 1)) W := by
  have e := inRow_next (W := W) hx
  cases b1 with
  | true =>
    refine ⟨S, flg_same h1, fun c => ?_⟩
    rw [e, hS c, ← List.append_assoc, List.mem_append (s := A ++ inRow (rs.take k) W)]
    refine ⟨.inl, fun h => ?_⟩
    rcases h with h | h
    · exact h
    · split at h
      · cases h
      · simp only [List.mem_singleton] at h; subst h; exact (hS _).1 (of_decide_eq_true h1)
  | false =>
    cases b2 with
    | true =>
      refine ⟨S, flg_same h1, fun c => ?_⟩
      rw [e, if_pos (of_decide_eq_true h2), List.append_nil]; exact hS c
    | false =>
      refine ⟨S ++ [(xm : Int)], flg_set N xm S, fun c => ?_⟩
      rw [e, if_neg (of_decide_eq_false h2), List.mem_append, hS c, ← List.append_assoc, List.mem_append (t := [(xm : Int)])]
set_option linter.unusedVariables false in
set_option linter.unusedSimpArgs false in
set_option maxRecDepth 100000 in
set_option maxHeartbeats 4000000 in
theorem specInputCells_any (v : Value) (ars : List Arr) (ps : List Pt) (w : World) (hp : PrR w v ars ps) :
    Calls Tryz.prog 16 #[v] w fun e w' => (∃ v', e = .returned v' ∧ IntsOwn w.heap.size w' v' (icB ars ps)) ∧ Ext w w' := by
  obtain ⟨qa, ca, qp, cp, rfl, hla, hlp, ha, hps⟩ := hp.parts
  obtain ⟨na, hna⟩ : ∃ n, ars.length = n := ⟨_, rfl⟩
  obtain ⟨np, hnp⟩ : ∃ n, ps.length = n := ⟨_, rfl⟩
  obtain ⟨M, hM⟩ : ∃ M, (insM ps).length = M := ⟨_, rfl⟩
  rw [hna] at hla ha
  rw [hnp] at hps hlp
  rw [hna, hnp] at hp ⊢
  obtain ⟨pb, hpb⟩ : ∃ a, progB ars ps = a := ⟨_, rfl⟩
  have HP := Lib.hid hp; have HA := Lib.hid ha; have HPS := Lib.hid hps; have HNA := Lib.hid hna; have HNP := Lib.hid hnp; have HPB := Lib.hid hpb; have HM := Lib.hid hM
  clear hp ha hps hna hnp hpb hM
  go_enter Tryz.func16, Tryz.ntmps16
  go_wp2_with (fail)
  obtain ⟨W1, hW1⟩ : ∃ W1, w.alloc (.cells #[.slice qa na ca, .slice qp np cp] 32) = W1 := ⟨_, rfl⟩
  have E1 : Hid (Ext w W1) := Lib.hid (by rw [← hW1]; exact (Ext.refl w).alloc _)
  have B1 := Lib.hid (show W1.heap[w.heap.size]? = some (.cells #[.slice qa na ca, .slice qp np cp] 32 (0, 0)) by rw [← hW1]; exact blk_at rfl)
  have HZ1 : Hid (W1.heap.size = w.heap.size + 1) := Lib.hid (by rw [← hW1]; simp)
  try rw [hW1]
  clear hW1
  refine (specProgramValid_any _ ars ps _ (HP.out.ext E1.out)).mono ?_
  rw [HPB.out]
  rintro e w2 ⟨rfl, hE2⟩
  have E2 := Lib.hid hE2; have B2 := Lib.hid (hE2.blk B1.out)
  clear hE2
  cases pb with
  | false =>
    have HR : Hid (icB ars ps = []) := Lib.hid (by unfold icB; rw [HPB.out]; rfl)
    go_wp2
    go_ret
    refine ⟨⟨_, rfl, ?_⟩, (E1.out.trans E2.out).alloc _⟩
    rw [HR.out]
    exact World.ownsRow_made w2 #[] 0 (by have := (E1.out.trans E2.out).size_le; omega) (Nat.zero_le _) rfl
  | true =>
    obtain ⟨hab, hp4, hpo, hin⟩ := progB_inv HPB.out
    have hn4' : na ≤ 4 := by have := arrs_len hab; have := HNA.out; omega
    have HOK : Hid (∀ a ∈ ars, arrOkB a = true) := Lib.hid (by have h := hab; simp only [arrsB, Bool.and_eq_true, List.all_eq_true] at h; exact h.1)
    have hM120 : M ≤ 120 := by have := insM_120 HPB.out; have := HM.out; omega
    have hnp4 : np ≤ 4 := by have := HNP.out; omega
    obtain ⟨N, hN⟩ : ∃ N : Nat, totN ars = (N : Int) := ⟨(totN ars).toNat, by have := (totN_bd HOK.out).1; omega⟩
    have hN2 : N ≤ 1048576 := by have := (totN_bd HOK.out).2; have := HNA.out; omega
    have HTN := Lib.hid hN
    have HWB : Hid (icB ars ps = fl N (inTo (usesM ars ps) M)) := Lib.hid (by unfold icB; rw [if_pos HPB.out, hN, HM.out]; rfl)
    have HAB := Lib.hid hab
    clear hab hp4 hpo hin hN
    obtain ⟨y0, y1, -, -⟩ := blk2 B2.out
    have hmk := make_flags N hN2
    go_wp2_with (fail)
    refine (l4Total_any _ ars ps _ (HP.out.ext (E1.out.trans E2.out)) HAB.out).mono ?_
    rw [HTN.out]
    rintro e w3 ⟨rfl, hE3⟩
    have E3 := Lib.hid (E2.out.trans hE3); have B3 := Lib.hid (hE3.blk B2.out)
    clear hE3 y0 y1
    obtain ⟨y0, y1, -, -⟩ := blk2 B3.out
    have hgl : w.heap.size < w3.heap.size := lt_of_block B3.out
    go_wp2_with (fail)
    obtain ⟨W4a, hW4a⟩ : ∃ W4a, w3.alloc (.cells ((flg N []).map Value.bool).toArray 4) = W4a := ⟨_, rfl⟩
    have E4a : Hid (Ext W1 W4a) := Lib.hid (by rw [← hW4a]; exact E3.out.alloc _)
    have F4a : Hid (FlgAt W4a w3.heap.size (flg N [])) := Lib.hid (by rw [← hW4a]; exact blk_at rfl)
    try rw [hW4a]
    clear hW4a y0 y1 hgl
    obtain ⟨L1, hL1⟩ : ∃ L1, w3.heap.size = L1 := ⟨_, rfl⟩
    have HLF1 : Hid (W1.heap.size ≤ L1) := Lib.hid (by rw [← hL1]; exact E3.out.size_le)
    rw [hL1] at F4a ⊢
    clear hL1
    have B4a := Lib.hid (E4a.out.blk B1.out)
    obtain ⟨y0, y1, -, -⟩ := blk2 B4a.out
    refine (l4Total_any _ ars ps _ (HP.out.ext (E1.out.trans E4a.out)) HAB.out).mono ?_
    rw [HTN.out]
    rintro e w3 ⟨rfl, hE3⟩
    have E3 := Lib.hid (E4a.out.trans hE3); have B3 := Lib.hid (hE3.blk B4a.out); have F3 : Hid (FlgAt w3 L1 (flg N [])) := Lib.hid (hE3.blk F4a.out)
    have HL12 : Hid (L1 < w3.heap.size) := Lib.hid (lt_of_block F3.out)
    clear hE3 y0 y1
    obtain ⟨y0, y1, -, -⟩ := blk2 B3.out
    have hgl : w.heap.size < w3.heap.size := lt_of_block B3.out
    go_wp2_with (fail)
    obtain ⟨W4, hW4⟩ : ∃ W4, w3.alloc (.cells ((flg N []).map Value.bool).toArray 4) = W4 := ⟨_, rfl⟩
    have X4 : Ext w3 W4 := by rw [← hW4]; exact (Ext.refl w3).alloc _
    have E4 : Hid (Ext W1 W4) := Lib.hid (E3.out.trans X4)
    have F4 : Hid (FlgAt W4 w3.heap.size (flg N [])) := Lib.hid (by rw [← hW4]; exact blk_at rfl)
    have F41 : Hid (FlgAt W4 L1 (flg N [])) := Lib.hid (X4.blk F3.out)
    have HZ4 : Hid (W4.heap.size = w3.heap.size + 1) := Lib.hid (by rw [← hW4]; simp)
    try rw [hW4]
    clear hW4 y0 y1 hmk hgl X4
    refine (l4Instances_any _ ars ps _ (HP.out.ext (E1.out.trans E4.out)) HPB.out).mono ?_
    rintro e w5 ⟨⟨q, c, rfl, hio⟩, hE5⟩
    rw [HM.out] at hio ⊢
    have HIO := Lib.hid hio; have E5 := Lib.hid (E4.out.trans hE5); have F5 : Hid (FlgAt w5 w3.heap.size (flg N [])) := Lib.hid (hE5.blk F4.out); have F51 : Hid (FlgAt w5 L1 (flg N [])) := Lib.hid (hE5.blk F41.out)
    have hLF : W1.heap.size ≤ w3.heap.size := E3.out.size_le
    clear hE5 hio
    obtain ⟨L, hL⟩ : ∃ L, w3.heap.size = L := ⟨_, rfl⟩
    rw [hL] at F5 hLF HZ4 HL12 ⊢
    clear F4 hL
    go_wp2
    go_loopw [6] (fun iv wr => ∃ (m : Nat) (S : List Int), m ≤ M ∧ iv = .int .i64 m ∧ FlgAt wr L1 (flg N S) ∧ (∀ c, c ∈ S ↔ c ∈ inTo (usesM ars ps) m) ∧ FlgAt wr L (flg N ((wrS ars ps).take m)) ∧ InssOwn W4.heap.size wr (.slice q M c) ((insM ps).map (·.1)) ∧ Ext W1 wr) (fun iv _ => M - (intOf iv).toNat)
    case atStart => exact ⟨0, [], by omega, rfl, F51.out, by simp [inTo], by simpa using F5.out, HIO.out, E5.out⟩
    case round =>
      obtain ⟨m, S, hm, rfl, hf1, hS, hf, hio, hE⟩ := hrel
      clear HIO F5 F51
      have HF1 := Lib.hid hf1; have HS := Lib.hid hS; have HF := Lib.hid hf; have HIO := Lib.hid hio; have HE := Lib.hid hE; have HEW := Lib.hid (E1.out.trans hE)
      obtain ⟨y0, y1, -, -⟩ := blk2 (hE.blk B1.out)
      clear hf1 hS hf hio hE
      by_cases hkM : m < M
      · obtain ⟨y, hy⟩ := get_some (xs := insM ps) (k := m) (by rw [HM.out]; exact hkM)
        obtain ⟨x, hx, hst, hpt, hnb, hvb, hck⟩ := insM_good HPB.out (List.mem_of_getElem? hy)
        have hpw := (nptsL_W hnb hpt).1
        have HYU : Hid ((wrS ars ps)[m]? = some (writeCell ars y.2 y.1.2.2)) := Lib.hid (by unfold wrS; rw [List.getElem?_map, hy]; rfl)
        have HYR : Hid ((usesM ars ps)[m]? = some (useOf ars y)) := Lib.hid (by unfold usesM; rw [List.getElem?_map, hy]; rfl)
        obtain ⟨o, r, ri, rfl, hol, i0, i1, i2, hip⟩ := HIO.out.elem (i := m) (x := y.1) (by rw [List.getElem?_map, hy]; rfl)
        obtain ⟨⟨i, j, pt⟩, s⟩ := y
        dsimp only at hx hst hpt hvb hck hpw i0 i1 i2 hip
        obtain ⟨b, off, qn, mn, qb, m2, rfl, -, c1, hbb, -, hss⟩ := (HPS.out.ext HEW.out).elem hx
        obtain ⟨nb, hnbl⟩ : ∃ n, x.2.length = n := ⟨_, rfl⟩
        rw [hnbl] at c1 hss
        obtain ⟨bb, bo, q1, d1, q2, d2, q3, d3, q4, d4, rfl, s0, s1, s2, s3, s4, s5, s6, s7, s8, hbb2, hstr, -⟩ := hss.elem' hst
        have hiI : (i : Int) < (np : Int) := by have := (List.getElem?_eq_some_iff.1 hx).1; have := HNP.out; omega
        have hjI : (j : Int) < (nb : Int) := by have := (List.getElem?_eq_some_iff.1 hst).1; omega
        obtain ⟨pl, hpl⟩ : ∃ n, pt.length = n := ⟨_, rfl⟩
        rw [hpl] at i2 hip
        have HY := Lib.hid hy; have HX := Lib.hid hx; have HST := Lib.hid hst; have HVB := Lib.hid hvb; have HCK := Lib.hid hck; have HPW := Lib.hid hpw; have HIP := Lib.hid hip; have HSTR := Lib.hid hstr
        have HPL := Lib.hid hpl
        obtain ⟨wc, hwc⟩ : ∃ z, writeCell ars s pt = z := ⟨_, rfl⟩
        have HWC := Lib.hid hwc
        have hmI : (m : Int) < (M : Int) := by omega
        clear hy hx hst hpt hnb hvb hck hpw hip hstr hss hpl hwc
        have hwb := write_bd HOK.out HCK.out
        rw [HWC.out, HTN.out] at hwb
        obtain ⟨wm, rfl⟩ : ∃ wm : Nat, wc = (wm : Int) := ⟨wc.toNat, by omega⟩
        have hwm : wm < N := by omega
        clear hwb
        go_wp2_with (fail)
        go_region_held3 (fun W => W.cell? ⟨w.heap.size, 0, none⟩ = some (.slice qa na ca) ∧ W.cell? ⟨w.heap.size, 1, none⟩ = some (.slice (some ⟨b, off, none⟩) np cp) ∧ W.cell? ⟨o, m * 3, none⟩ = some (.int .i64 (i : Int)) ∧ W.cell? ⟨o, m * 3 + 1, none⟩ = some (.int .i64 (j : Int)) ∧ W.cell? ⟨o, m * 3 + 2, none⟩ = some (.slice r pl ri) ∧ W.cell? ⟨b, off + i * 2 + 1, none⟩ = some (.slice (some ⟨bb, bo, none⟩) nb m2) ∧ W.cell? ⟨bb, bo + j * 9, none⟩ = some (.string s.1) ∧ W.cell? ⟨bb, bo + j * 9 + 1, none⟩ = some (.slice q1 s.2.1.length d1) ∧ W.cell? ⟨bb, bo + j * 9 + 2, none⟩ = some (.int .i64 s.2.2.kind) ∧ W.cell? ⟨bb, bo + j * 9 + 3, none⟩ = some (.int .i64 s.2.2.num) ∧ W.cell? ⟨bb, bo + j * 9 + 4, none⟩ = some (.slice q2 s.2.2.ix.1.length d2) ∧ W.cell? ⟨bb, bo + j * 9 + 5, none⟩ = some (.int .i64 s.2.2.ix.2) ∧ W.cell? ⟨bb, bo + j * 9 + 6, none⟩ = some (.string s.2.2.arr) ∧ W.cell? ⟨bb, bo + j * 9 + 7, none⟩ = some (.slice q3 s.2.2.subs.length d3) ∧ W.cell? ⟨bb, bo + j * 9 + 8, none⟩ = some (.slice q4 s.2.2.kids.length d4))
          (first | exact ⟨y0, y1, i0, i1, i2, c1, s0, s1, s2, s3, s4, s5, s6, s7, s8⟩ | exact ⟨g3.keep y0, g3.keep y1, g3.keep i0, g3.keep i1, g3.keep i2, g3.keep c1, g3.keep s0, g3.keep s1, g3.keep s2, g3.keep s3, g3.keep s4, g3.keep s5, g3.keep s6, g3.keep s7, g3.keep s8⟩ | fail)
          (first | (go_at_call 56; (with_reducible refine (l4Cells_any qa na ca ars _ _ s pt (x.1.length : Int) _ HNA.out ((HA.out.ext HEW.out).ext (Ext.refl wr).drew) HOK.out hn4' (HSTR.out.ext (Ext.refl wr).drew) HVB.out (IntsAt.ext (IntsOwn.at HIP.out) (Ext.refl wr).drew) HPW.out).mono ?_); rw [HCK.out, HWC.out]; rintro e w5' ⟨⟨v5, cw5, rfl, hok5, -⟩, hE5⟩; have g3 := (Ext.refl wr).drew.trans hE5) | fail)
        obtain ⟨hcw, hrd⟩ := hok5 (by trivial)
        subst hcw
        obtain ⟨p5, c5, rfl⟩ := ints_form hrd
        obtain ⟨rs, hrs⟩ : ∃ rs, readCells ars s pt = rs := ⟨_, rfl⟩
        have hrb : ∀ c ∈ rs, 0 ≤ c ∧ c < (N : Int) := fun c hc => by rw [← HTN.out]; exact reads_bd HOK.out HCK.out c (by rw [hrs]; exact hc)
        rw [hrs] at hrd ⊢
        obtain ⟨R, hR⟩ : ∃ R, rs.length = R := ⟨_, rfl⟩
        rw [hR] at hrd ⊢
        have hR63 : R ≤ 9223372036854775807 := by
          rcases hrd.2 with ⟨e, h0⟩ | ⟨g, cap, cur, e, _, _, h1, h2, _⟩
          · omega
          · unfold maxLen at h2; omega
        have HNX : Hid (inTo (usesM ars ps) (m + 1) = inTo (usesM ars ps) m ++ inRow rs ((wrS ars ps).take m)) := Lib.hid (by rw [inTo_next HYR.out, ← hrs, wrS_uses]; rfl)
        have HRB := Lib.hid hrb; have HRL := Lib.hid hR
        have HQ : Hid (wr.drew.heap.size ≤ w5'.heap.size) := Lib.hid (by have := g3.size_le; simpa using this)
        have HRD := Lib.hid (show IntsOwn wr.drew.heap.size w5' (.slice p5 R c5) rs from hrd)
        have E5' := Lib.hid (HE.out.trans g3); have HF5 : Hid (FlgAt w5' L (flg N ((wrS ars ps).take m))) := Lib.hid (g3.blk HF.out); have HF15 : Hid (FlgAt w5' L1 (flg N S)) := Lib.hid (g3.blk HF1.out); have HIO5 := Lib.hid (HIO.out.ext g3)
        have HLwr : Hid (L < wr.drew.heap.size) := Lib.hid (lt_of_block HF.out)
        obtain ⟨W, hW⟩ : ∃ W, (wrS ars ps).take m = W := ⟨_, rfl⟩
        rw [hW] at HF5 HNX
        have HWW := Lib.hid hW
        obtain ⟨BQ, hBQ⟩ : ∃ BQ, wr.drew.heap.size = BQ := ⟨_, rfl⟩
        rw [hBQ] at HRD HLwr
        have HS0 : Hid (∀ c, c ∈ S ↔ c ∈ inTo (usesM ars ps) m ++ inRow (rs.take 0) W) := Lib.hid (fun c => by simpa [inRow] using HS.out c)
        clear y0 y1 i0 i1 i2 c1 s0 s1 s2 s3 s4 s5 s6 s7 s8 g3 hrd hok5 hrs hrb hR hW hBQ HF HF1 HIO HE HEW HQ
        go_wp2
        go_loopw [10] (fun kv wr => ∃ (k : Nat) (S : List Int), k ≤ R ∧ kv = .int .i64 k ∧ FlgAt wr L1 (flg N S) ∧ (∀ c, c ∈ S ↔ c ∈ inTo (usesM ars ps) m ++ inRow (rs.take k) W) ∧ FlgAt wr L (flg N W) ∧ IntsOwn BQ wr (.slice p5 R c5) rs ∧ InssOwn W4.heap.size wr (.slice (some ⟨o, 0, none⟩) M c) ((insM ps).map (·.1)) ∧ Ext W1 wr) (fun kv _ => R - (intOf kv).toNat)
        case atStart => exact ⟨0, S, by omega, rfl, HF15.out, HS0.out, HF5.out, HRD.out, HIO5.out, E5'.out⟩
        case round =>
          obtain ⟨k, S, hk, rfl, hf1, hS, hf, hrd, hio, hE⟩ := hrel
          clear HF15 HS0 HF5 HRD HIO5 E5'
          have HF1 := Lib.hid hf1; have HS := Lib.hid hS; have HF := Lib.hid hf; have HRD := Lib.hid hrd; have HIO := Lib.hid hio; have HE := Lib.hid hE
          clear hf1 hS hf hrd hio hE
          by_cases hkR : k < R
          · obtain ⟨x, hx⟩ := get_some (xs := rs) (k := k) (by rw [HRL.out]; exact hkR)
            obtain ⟨x0, x1⟩ := HRB.out x (List.mem_of_getElem? hx)
            obtain ⟨xm, rfl⟩ : ∃ xm : Nat, x = xm := ⟨x.toNat, by omega⟩
            have hxm : xm < N := by omega
            obtain ⟨gr, rfl⟩ := HRD.out.atBlock hx
            have hcx := HRD.out.cellI hx
            have hc1 := HF1.out.cell (flg_get S hxm)
            have hc2 := HF.out.cell (flg_get W hxm)
            have HX := Lib.hid hx
            have hkI : (k : Int) < (R : Int) := by omega
            have hxI : (xm : Int) < (N : Int) := by omega
            obtain ⟨b1, hb1⟩ : ∃ b, decide ((xm : Int) ∈ S) = b := ⟨_, rfl⟩
            obtain ⟨b2, hb2⟩ : ∃ b, decide ((xm : Int) ∈ W) = b := ⟨_, rfl⟩
            rw [hb1] at hc1; rw [hb2] at hc2
            have HB1 := Lib.hid hb1; have HB2 := Lib.hid hb2
            obtain ⟨wd, hwd⟩ : ∃ wd, wr.drew = wd := ⟨_, rfl⟩
            have ED : Ext wr wd := by rw [← hwd]; exact (Ext.refl wr).drew
            have HWD := Lib.hid hwd
            have HF1d : Hid (FlgAt wd L1 (flg N S)) := Lib.hid (ED.blk HF1.out); have HFd : Hid (FlgAt wd L (flg N W)) := Lib.hid (ED.blk HF.out); have HRDd := Lib.hid (HRD.out.ext ED); have HIOd := Lib.hid (HIO.out.ext ED); have HEd := Lib.hid (HE.out.trans ED)
            have hcx0 := hcx; have hc20 := hc2
            replace hcx := ED.keep hcx; replace hc1 := ED.keep hc1; replace hc2 := ED.keep hc2
            have hfz : wd.frozen? ⟨L1, xm, none⟩ = false := HF1d.out.frozen
            clear hx hb1 hb2 hwd ED
            go_wp2_with (fail)
            cases b1 with
            | true =>
              obtain ⟨S2, hS1, hS2⟩ := ic_step (N := N) HX.out HB1.out HB2.out HS.out
              have HS2 := Lib.hid hS2
              have HFN : Hid (FlgAt (wd.setCell ⟨L1, xm, none⟩ (.bool true)) L1 (flg N S2)) := Lib.hid (by rw [← hS1]; exact HF1d.out.set true)
              have HFW : Hid (FlgAt (wd.setCell ⟨L1, xm, none⟩ (.bool true)) L (flg N W)) := Lib.hid ((lv_set wd L1 xm (.bool true)).heap HFd.out (by have := HL12.out; omega))
              have HRN := Lib.hid (HRDd.out.setOld (p := ⟨L1, xm, none⟩) (by show L1 < _; have h1 := HL12.out; have h2 := HLwr.out; omega) (.bool true))
              have HIN := Lib.hid (HIOd.out.setOld (p := ⟨L1, xm, none⟩) (by show L1 < _; have h1 := HL12.out; have h2 := HZ4.out; omega) (.bool true))
              have HEN := Lib.hid (HEd.out.setCell (p := ⟨L1, xm, none⟩) HLF1.out (.bool true))
              have hc2W := (flg_get W hxm).trans (congrArg some HB2.out)
              clear hS1 hS2
              refine wp_region_held_drew (S := (fun W => W.cell? ⟨gr, k, none⟩ = some (.int .i64 (xm : Int)) ∧ W.cell? ⟨L, xm, none⟩ = some (.bool b2))) (by kernel_rfl) ⟨hcx0, hc20⟩ (fun hHeld => ?_)
              rw [HWD.out] at hHeld ⊢
              refine wpAnyH_takeD (some 64) (i := 0) (v := ?vp0) rfl (by kernel_rfl) (by kernel_rfl) (by kernel_rfl) (by kernel_rfl) (fun _ _ _ h => h) (Or.inl ⟨by rfl, ?hyp0⟩) (by assumption) ?rp0
              case hyp0 => intro w hSw; (try dsimp only at hSw); go_simp; first | done | with_reducible rfl
              case' rp0 => try simp only [Act.put, List.setIfInBounds_toArray, List.set_cons_zero, List.set_cons_succ]
              refine wpAnyH_takeD (some 65) (i := 1) (v := ?vp1) rfl (by kernel_rfl) (by kernel_rfl) (by kernel_rfl) (by kernel_rfl) (fun _ _ _ h => h) (Or.inl ⟨by rfl, ?hyp1⟩) (by assumption) ?rp1
              case hyp1 => intro w hSw; (try dsimp only at hSw); go_simp; first | done | with_reducible rfl
              case' rp1 => try simp only [Act.put, List.setIfInBounds_toArray, List.set_cons_zero, List.set_cons_succ]
              refine wpAnyH_takeD (some 66) (i := 2) (v := ?vp2) rfl (by kernel_rfl) (by kernel_rfl) (by kernel_rfl) (by kernel_rfl) (fun _ _ _ h => h) (Or.inl ⟨by rfl, ?hyp2⟩) (by assumption) ?rp2
              case hyp2 => intro w hSw; (try dsimp only at hSw); go_simp; first | done | with_reducible rfl
              case' rp2 => try simp only [Act.put, List.setIfInBounds_toArray, List.set_cons_zero, List.set_cons_succ]
              refine wpAnyH_takeD (some 67) (i := 3) (v := ?vp3) rfl (by kernel_rfl) (by kernel_rfl) (by kernel_rfl) (by kernel_rfl) (fun _ _ _ h => h) (Or.inl ⟨by rfl, ?hyp3⟩) (by assumption) ?rp3
              case hyp3 => intro w hSw; (try dsimp only at hSw); go_simp; first | done | with_reducible rfl
              case' rp3 => try simp only [Act.put, List.setIfInBounds_toArray, List.set_cons_zero, List.set_cons_succ]
              refine wpAnyH_takeD (some 68) (i := 4) (v := ?vp4) rfl (by kernel_rfl) (by kernel_rfl) (by kernel_rfl) (by kernel_rfl) (fun _ _ _ h => h) (Or.inl ⟨by rfl, ?hyp4⟩) (by assumption) ?rp4
              case hyp4 => intro w hSw; (try dsimp only at hSw); go_simp; first | done | with_reducible rfl
              case' rp4 => try simp only [Act.put, List.setIfInBounds_toArray, List.set_cons_zero, List.set_cons_succ]
              refine wpAnyH_takeD (some 69) (i := 5) (v := ?vp5) rfl (by kernel_rfl) (by kernel_rfl) (by kernel_rfl) (by kernel_rfl) (fun _ _ _ h => h) (Or.inl ⟨by rfl, ?hyp5⟩) (by assumption) ?rp5
              case hyp5 => intro w hSw; (try dsimp only at hSw); go_simp; first | done | with_reducible rfl
              case' rp5 => try simp only [Act.put, List.setIfInBounds_toArray, List.set_cons_zero, List.set_cons_succ]
              refine wpAnyH_takeD (some 70) (i := 6) (v := ?vp6) rfl (by kernel_rfl) (by kernel_rfl) (by kernel_rfl) (by kernel_rfl) (fun _ _ _ h => h) (Or.inl ⟨by rfl, ?hyp6⟩) (by assumption) ?rp6
              case hyp6 => intro w hSw; (try dsimp only at hSw); go_simp; first | done | with_reducible rfl
              case' rp6 => try simp only [Act.put, List.setIfInBounds_toArray, List.set_cons_zero, List.set_cons_succ]
              refine wpAnyH_takeD (some 71) (i := 7) (v := ?vp7) rfl (by kernel_rfl) (by kernel_rfl) (by kernel_rfl) (by kernel_rfl) (fun _ _ _ h => h) (Or.inl ⟨by rfl, ?hyp7⟩) (by assumption) ?rp7
              case hyp7 => intro w hSw; (try dsimp only at hSw); go_simp; first | done | with_reducible rfl
              case' rp7 => try simp only [Act.put, List.setIfInBounds_toArray, List.set_cons_zero, List.set_cons_succ]
              refine wpAnyH_takeD (some 72) (i := 8) (v := ?vp8) rfl (by kernel_rfl) (by kernel_rfl) (by kernel_rfl) (by kernel_rfl) (fun _ _ _ h => h) (Or.inl ⟨by rfl, ?hyp8⟩) (by assumption) ?rp8
              case hyp8 => intro w hSw; (try dsimp only at hSw); go_simp; first | done | with_reducible rfl
              case' rp8 => try simp only [Act.put, List.setIfInBounds_toArray, List.set_cons_zero, List.set_cons_succ]
              refine wpAnyH_takeD (some 73) (i := 9) (v := ?vp9) rfl (by kernel_rfl) (by kernel_rfl) (by kernel_rfl) (by kernel_rfl) (fun _ _ _ h => h) (Or.inl ⟨by rfl, ?hyp9⟩) (by assumption) ?rp9
              case hyp9 => intro w hSw; (try dsimp only at hSw); go_simp; first | done | with_reducible rfl
              case' rp9 => try simp only [Act.put, List.setIfInBounds_toArray, List.set_cons_zero, List.set_cons_succ]
              refine wpAnyH_takeD (some 74) (i := 10) (v := ?vp10) rfl (by kernel_rfl) (by kernel_rfl) (by kernel_rfl) (by kernel_rfl) (fun _ _ _ h => h) (Or.inl ⟨by rfl, ?hyp10⟩) (by assumption) ?rp10
              case hyp10 => intro w hSw; (try dsimp only at hSw); go_simp; first | done | with_reducible rfl
              case' rp10 => try simp only [Act.put, List.setIfInBounds_toArray, List.set_cons_zero, List.set_cons_succ]
              refine wpAnyH_ready (rs := [11]) (by kernel_rfl) (by simp) ?_
              refine AllReadyH.cons rfl (fun K9 hK => ?_) AllReadyH.nil
              go_simp
              skip
              refine hK.out _ _ hHeld (fun hHp11 => ?_)
              clear hK K9
              try simp only [Act.put, List.setIfInBounds_toArray, List.set_cons_zero, List.set_cons_succ]
              refine wpAnyH_takeD (some 76) (i := 12) (v := ?vp12) rfl (by kernel_rfl) (by kernel_rfl) (by kernel_rfl) (by kernel_rfl) (fun _ _ _ h => h) (Or.inl ⟨by rfl, ?hyp12⟩) (by assumption) ?rp12
              case hyp12 => intro w hSw; (try dsimp only at hSw); go_simp; first | done | with_reducible rfl
              case' rp12 => try simp only [Act.put, List.setIfInBounds_toArray, List.set_cons_zero, List.set_cons_succ]
              refine wpAnyH_takeD (some 77) (i := 13) (v := undef) rfl (by kernel_rfl) (by kernel_rfl) (by kernel_rfl) (by kernel_rfl) (fun _ _ _ h => h) (Or.inr ⟨by kernel_rfl, rfl⟩) (by assumption) ?_
              try simp only [Act.put, List.setIfInBounds_toArray, List.set_cons_zero, List.set_cons_succ]
              refine wpAnyH_takeD (some 78) (i := 14) (v := undef) rfl (by kernel_rfl) (by kernel_rfl) (by kernel_rfl) (by kernel_rfl) (fun _ _ _ h => h) (Or.inr ⟨by kernel_rfl, rfl⟩) (by assumption) ?_
              try simp only [Act.put, List.setIfInBounds_toArray, List.set_cons_zero, List.set_cons_succ]
              refine wpAnyH_takeD (some 79) (i := 15) (v := undef) rfl (by kernel_rfl) (by kernel_rfl) (by kernel_rfl) (by kernel_rfl) (fun _ _ _ h => h) (Or.inr ⟨by kernel_rfl, rfl⟩) (by assumption) ?_
              try simp only [Act.put, List.setIfInBounds_toArray, List.set_cons_zero, List.set_cons_succ]
              refine wpAnyH_takeD (some 80) (i := 16) (v := undef) rfl (by kernel_rfl) (by kernel_rfl) (by kernel_rfl) (by kernel_rfl) (fun _ _ _ h => h) (Or.inr ⟨by kernel_rfl, rfl⟩) (by assumption) ?_
              try simp only [Act.put, List.setIfInBounds_toArray, List.set_cons_zero, List.set_cons_succ]
              refine wpAnyH_takeD (some 81) (i := 17) (v := undef) rfl (by kernel_rfl) (by kernel_rfl) (by kernel_rfl) (by kernel_rfl) (fun _ _ _ h => h) (Or.inr ⟨by kernel_rfl, rfl⟩) (by assumption) ?_
              try simp only [Act.put, List.setIfInBounds_toArray, List.set_cons_zero, List.set_cons_succ]
              refine wpAnyH_takeD (some 82) (i := 18) (v := undef) rfl (by kernel_rfl) (by kernel_rfl) (by kernel_rfl) (by kernel_rfl) (fun _ _ _ h => h) (Or.inr ⟨by kernel_rfl, rfl⟩) (by assumption) ?_
              try simp only [Act.put, List.setIfInBounds_toArray, List.set_cons_zero, List.set_cons_succ]
              refine wpAnyH_takeD (some 83) (i := 19) (v := undef) rfl (by kernel_rfl) (by kernel_rfl) (by kernel_rfl) (by kernel_rfl) (fun _ _ _ h => h) (Or.inr ⟨by kernel_rfl, rfl⟩) (by assumption) ?_
              try simp only [Act.put, List.setIfInBounds_toArray, List.set_cons_zero, List.set_cons_succ]
              refine wpAnyH_takeD (some 84) (i := 20) (v := undef) rfl (by kernel_rfl) (by kernel_rfl) (by kernel_rfl) (by kernel_rfl) (fun _ _ _ h => h) (Or.inr ⟨by kernel_rfl, rfl⟩) (by assumption) ?_
              try simp only [Act.put, List.setIfInBounds_toArray, List.set_cons_zero, List.set_cons_succ]
              refine wpAnyH_takeD (some 85) (i := 21) (v := ?vp21) rfl (by kernel_rfl) (by kernel_rfl) (by kernel_rfl) (by kernel_rfl) (fun _ _ _ h => h) (Or.inl ⟨by rfl, ?hyp21⟩) (by assumption) ?rp21
              case hyp21 => intro w hSw; (try dsimp only at hSw); go_simp; first | done | with_reducible rfl
              case' rp21 => try simp only [Act.put, List.setIfInBounds_toArray, List.set_cons_zero, List.set_cons_succ]
              refine wpAnyH_takeD (some 86) (i := 22) (v := ?vp22) rfl (by kernel_rfl) (by kernel_rfl) (by kernel_rfl) (by kernel_rfl) (fun _ _ _ h => h) (Or.inl ⟨by rfl, ?hyp22⟩) (by assumption) ?rp22
              case hyp22 => intro w hSw; (try dsimp only at hSw); go_simp; first | done | with_reducible rfl
              case' rp22 => try simp only [Act.put, List.setIfInBounds_toArray, List.set_cons_zero, List.set_cons_succ]
              refine wpAnyH_ready (rs := [23]) (by kernel_rfl) (by simp) ?_
              refine AllReadyH.cons rfl (fun K9 hK => ?_) AllReadyH.nil
              go_simp
              skip
              refine hK.out _ _ ⟨HRN.out.cellI HX.out, HFW.out.cell (hc2W)⟩ (fun hHp23 => ?_)
              clear hK K9
              try simp only [Act.put, List.setIfInBounds_toArray, List.set_cons_zero, List.set_cons_succ]
              refine wpAnyH_done (by kernel_rfl) ?_ _
              clear hHeld hc1 hc2 hcx hfz hc2W hcx0 hc20
              go_wp2
              go_roundw
              case rel => exact ⟨k + 1, S2, by omega, by go_num, HFN.out, HS2.out, HFW.out, HRN.out, HIN.out, HEN.out⟩
              case measure => simp [intOf]; omega
            | false =>
              cases b2 with
              | true =>
                obtain ⟨S2, hS1, hS2⟩ := ic_step (N := N) HX.out HB1.out HB2.out HS.out
                have HS2 := Lib.hid hS2
                have HFN : Hid (FlgAt (wd.setCell ⟨L1, xm, none⟩ (.bool false)) L1 (flg N S2)) := Lib.hid (by rw [← hS1]; exact HF1d.out.set false)
                have HFW : Hid (FlgAt (wd.setCell ⟨L1, xm, none⟩ (.bool false)) L (flg N W)) := Lib.hid ((lv_set wd L1 xm (.bool false)).heap HFd.out (by have := HL12.out; omega))
                have HRN := Lib.hid (HRDd.out.setOld (p := ⟨L1, xm, none⟩) (by show L1 < _; have h1 := HL12.out; have h2 := HLwr.out; omega) (.bool false))
                have HIN := Lib.hid (HIOd.out.setOld (p := ⟨L1, xm, none⟩) (by show L1 < _; have h1 := HL12.out; have h2 := HZ4.out; omega) (.bool false))
                have HEN := Lib.hid (HEd.out.setCell (p := ⟨L1, xm, none⟩) HLF1.out (.bool false))
                have hc2W := (flg_get W hxm).trans (congrArg some HB2.out)
                clear hS1 hS2
                refine wp_region_held_drew (S := (fun W => W.cell? ⟨gr, k, none⟩ = some (.int .i64 (xm : Int)) ∧ W.cell? ⟨L, xm, none⟩ = some (.bool true))) (by kernel_rfl) ⟨hcx0, hc20⟩ (fun hHeld => ?_)
                rw [HWD.out] at hHeld ⊢
                refine wpAnyH_takeD (some 64) (i := 0) (v := ?vq0) rfl (by kernel_rfl) (by kernel_rfl) (by kernel_rfl) (by kernel_rfl) (fun _ _ _ h => h) (Or.inl ⟨by rfl, ?hyq0⟩) (by assumption) ?rq0
                case hyq0 => intro w hSw; (try dsimp only at hSw); go_simp; first | done | with_reducible rfl
                case' rq0 => try simp only [Act.put, List.setIfInBounds_toArray, List.set_cons_zero, List.set_cons_succ]
                refine wpAnyH_takeD (some 65) (i := 1) (v := ?vq1) rfl (by kernel_rfl) (by kernel_rfl) (by kernel_rfl) (by kernel_rfl) (fun _ _ _ h => h) (Or.inl ⟨by rfl, ?hyq1⟩) (by assumption) ?rq1
                case hyq1 => intro w hSw; (try dsimp only at hSw); go_simp; first | done | with_reducible rfl
                case' rq1 => try simp only [Act.put, List.setIfInBounds_toArray, List.set_cons_zero, List.set_cons_succ]
                refine wpAnyH_takeD (some 66) (i := 2) (v := ?vq2) rfl (by kernel_rfl) (by kernel_rfl) (by kernel_rfl) (by kernel_rfl) (fun _ _ _ h => h) (Or.inl ⟨by rfl, ?hyq2⟩) (by assumption) ?rq2
                case hyq2 => intro w hSw; (try dsimp only at hSw); go_simp; first | done | with_reducible rfl
                case' rq2 => try simp only [Act.put, List.setIfInBounds_toArray, List.set_cons_zero, List.set_cons_succ]
                refine wpAnyH_takeD (some 67) (i := 3) (v := ?vq3) rfl (by kernel_rfl) (by kernel_rfl) (by kernel_rfl) (by kernel_rfl) (fun _ _ _ h => h) (Or.inl ⟨by rfl, ?hyq3⟩) (by assumption) ?rq3
                case hyq3 => intro w hSw; (try dsimp only at hSw); go_simp; first | done | with_reducible rfl
                case' rq3 => try simp only [Act.put, List.setIfInBounds_toArray, List.set_cons_zero, List.set_cons_succ]
                refine wpAnyH_takeD (some 68) (i := 4) (v := ?vq4) rfl (by kernel_rfl) (by kernel_rfl) (by kernel_rfl) (by kernel_rfl) (fun _ _ _ h => h) (Or.inl ⟨by rfl, ?hyq4⟩) (by assumption) ?rq4
                case hyq4 => intro w hSw; (try dsimp only at hSw); go_simp; first | done | with_reducible rfl
                case' rq4 => try simp only [Act.put, List.setIfInBounds_toArray, List.set_cons_zero, List.set_cons_succ]
                refine wpAnyH_takeD (some 69) (i := 5) (v := ?vq5) rfl (by kernel_rfl) (by kernel_rfl) (by kernel_rfl) (by kernel_rfl) (fun _ _ _ h => h) (Or.inl ⟨by rfl, ?hyq5⟩) (by assumption) ?rq5
                case hyq5 => intro w hSw; (try dsimp only at hSw); go_simp; first | done | with_reducible rfl
                case' rq5 => try simp only [Act.put, List.setIfInBounds_toArray, List.set_cons_zero, List.set_cons_succ]
                refine wpAnyH_takeD (some 70) (i := 6) (v := ?vq6) rfl (by kernel_rfl) (by kernel_rfl) (by kernel_rfl) (by kernel_rfl) (fun _ _ _ h => h) (Or.inl ⟨by rfl, ?hyq6⟩) (by assumption) ?rq6
                case hyq6 => intro w hSw; (try dsimp only at hSw); go_simp; first | done | with_reducible rfl
                case' rq6 => try simp only [Act.put, List.setIfInBounds_toArray, List.set_cons_zero, List.set_cons_succ]
                refine wpAnyH_takeD (some 71) (i := 7) (v := ?vq7) rfl (by kernel_rfl) (by kernel_rfl) (by kernel_rfl) (by kernel_rfl) (fun _ _ _ h => h) (Or.inl ⟨by rfl, ?hyq7⟩) (by assumption) ?rq7
                case hyq7 => intro w hSw; (try dsimp only at hSw); go_simp; first | done | with_reducible rfl
                case' rq7 => try simp only [Act.put, List.setIfInBounds_toArray, List.set_cons_zero, List.set_cons_succ]
                refine wpAnyH_takeD (some 72) (i := 8) (v := ?vq8) rfl (by kernel_rfl) (by kernel_rfl) (by kernel_rfl) (by kernel_rfl) (fun _ _ _ h => h) (Or.inl ⟨by rfl, ?hyq8⟩) (by assumption) ?rq8
                case hyq8 => intro w hSw; (try dsimp only at hSw); go_simp; first | done | with_reducible rfl
                case' rq8 => try simp only [Act.put, List.setIfInBounds_toArray, List.set_cons_zero, List.set_cons_succ]
                refine wpAnyH_takeD (some 73) (i := 9) (v := ?vq9) rfl (by kernel_rfl) (by kernel_rfl) (by kernel_rfl) (by kernel_rfl) (fun _ _ _ h => h) (Or.inl ⟨by rfl, ?hyq9⟩) (by assumption) ?rq9
                case hyq9 => intro w hSw; (try dsimp only at hSw); go_simp; first | done | with_reducible rfl
                case' rq9 => try simp only [Act.put, List.setIfInBounds_toArray, List.set_cons_zero, List.set_cons_succ]
                refine wpAnyH_takeD (some 74) (i := 10) (v := ?vq10) rfl (by kernel_rfl) (by kernel_rfl) (by kernel_rfl) (by kernel_rfl) (fun _ _ _ h => h) (Or.inl ⟨by rfl, ?hyq10⟩) (by assumption) ?rq10
                case hyq10 => intro w hSw; (try dsimp only at hSw); go_simp; first | done | with_reducible rfl
                case' rq10 => try simp only [Act.put, List.setIfInBounds_toArray, List.set_cons_zero, List.set_cons_succ]
                refine wpAnyH_ready (rs := [11]) (by kernel_rfl) (by simp) ?_
                refine AllReadyH.cons rfl (fun K9 hK => ?_) AllReadyH.nil
                go_simp
                skip
                refine hK.out _ _ hHeld (fun hHq11 => ?_)
                clear hK K9
                try simp only [Act.put, List.setIfInBounds_toArray, List.set_cons_zero, List.set_cons_succ]
                refine wpAnyH_takeD (some 76) (i := 12) (v := ?vq12) rfl (by kernel_rfl) (by kernel_rfl) (by kernel_rfl) (by kernel_rfl) (fun _ _ _ h => h) (Or.inl ⟨by rfl, ?hyq12⟩) (by assumption) ?rq12
                case hyq12 => intro w hSw; (try dsimp only at hSw); go_simp; first | done | with_reducible rfl
                case' rq12 => try simp only [Act.put, List.setIfInBounds_toArray, List.set_cons_zero, List.set_cons_succ]
                refine wpAnyH_takeD (some 77) (i := 13) (v := ?vq13) rfl (by kernel_rfl) (by kernel_rfl) (by kernel_rfl) (by kernel_rfl) (fun _ _ _ h => h) (Or.inl ⟨by rfl, ?hyq13⟩) (by assumption) ?rq13
                case hyq13 => intro w hSw; (try dsimp only at hSw); go_simp; first | done | with_reducible rfl
                case' rq13 => try simp only [Act.put, List.setIfInBounds_toArray, List.set_cons_zero, List.set_cons_succ]
                refine wpAnyH_takeD (some 78) (i := 14) (v := ?vq14) rfl (by kernel_rfl) (by kernel_rfl) (by kernel_rfl) (by kernel_rfl) (fun _ _ _ h => h) (Or.inl ⟨by rfl, ?hyq14⟩) (by assumption) ?rq14
                case hyq14 => intro w hSw; (try dsimp only at hSw); go_simp; first | done | with_reducible rfl
                case' rq14 => try simp only [Act.put, List.setIfInBounds_toArray, List.set_cons_zero, List.set_cons_succ]
                refine wpAnyH_takeD (some 79) (i := 15) (v := ?vq15) rfl (by kernel_rfl) (by kernel_rfl) (by kernel_rfl) (by kernel_rfl) (fun _ _ _ h => h) (Or.inl ⟨by rfl, ?hyq15⟩) (by assumption) ?rq15
                case hyq15 => intro w hSw; (try dsimp only at hSw); go_simp; first | done | with_reducible rfl
                case' rq15 => try simp only [Act.put, List.setIfInBounds_toArray, List.set_cons_zero, List.set_cons_succ]
                refine wpAnyH_takeD (some 80) (i := 16) (v := ?vq16) rfl (by kernel_rfl) (by kernel_rfl) (by kernel_rfl) (by kernel_rfl) (fun _ _ _ h => h) (Or.inl ⟨by rfl, ?hyq16⟩) (by assumption) ?rq16
                case hyq16 => intro w hSw; (try dsimp only at hSw); go_simp; first | done | with_reducible rfl
                case' rq16 => try simp only [Act.put, List.setIfInBounds_toArray, List.set_cons_zero, List.set_cons_succ]
                refine wpAnyH_takeD (some 81) (i := 17) (v := ?vq17) rfl (by kernel_rfl) (by kernel_rfl) (by kernel_rfl) (by kernel_rfl) (fun _ _ _ h => h) (Or.inl ⟨by rfl, ?hyq17⟩) (by assumption) ?rq17
                case hyq17 => intro w hSw; (try dsimp only at hSw); go_simp; first | done | with_reducible rfl
                case' rq17 => try simp only [Act.put, List.setIfInBounds_toArray, List.set_cons_zero, List.set_cons_succ]
                refine wpAnyH_takeD (some 82) (i := 18) (v := ?vq18) rfl (by kernel_rfl) (by kernel_rfl) (by kernel_rfl) (by kernel_rfl) (fun _ _ _ h => h) (Or.inl ⟨by rfl, ?hyq18⟩) (by assumption) ?rq18
                case hyq18 => intro w hSw; (try dsimp only at hSw); go_simp; first | done | with_reducible rfl
                case' rq18 => try simp only [Act.put, List.setIfInBounds_toArray, List.set_cons_zero, List.set_cons_succ]
                refine wpAnyH_takeD (some 83) (i := 19) (v := ?vq19) rfl (by kernel_rfl) (by kernel_rfl) (by kernel_rfl) (by kernel_rfl) (fun _ _ _ h => h) (Or.inl ⟨by rfl, ?hyq19⟩) (by assumption) ?rq19
                case hyq19 => intro w hSw; (try dsimp only at hSw); go_simp; first | done | with_reducible rfl
                case' rq19 => try simp only [Act.put, List.setIfInBounds_toArray, List.set_cons_zero, List.set_cons_succ]
                refine wpAnyH_takeD (some 84) (i := 20) (v := ?vq20) rfl (by kernel_rfl) (by kernel_rfl) (by kernel_rfl) (by kernel_rfl) (fun _ _ _ h => h) (Or.inl ⟨by rfl, ?hyq20⟩) (by assumption) ?rq20
                case hyq20 => intro w hSw; (try dsimp only at hSw); go_simp; first | done | with_reducible rfl
                case' rq20 => try simp only [Act.put, List.setIfInBounds_toArray, List.set_cons_zero, List.set_cons_succ]
                refine wpAnyH_takeD (some 85) (i := 21) (v := ?vq21) rfl (by kernel_rfl) (by kernel_rfl) (by kernel_rfl) (by kernel_rfl) (fun _ _ _ h => h) (Or.inl ⟨by rfl, ?hyq21⟩) (by assumption) ?rq21
                case hyq21 => intro w hSw; (try dsimp only at hSw); go_simp; first | done | with_reducible rfl
                case' rq21 => try simp only [Act.put, List.setIfInBounds_toArray, List.set_cons_zero, List.set_cons_succ]
                refine wpAnyH_takeD (some 86) (i := 22) (v := ?vq22) rfl (by kernel_rfl) (by kernel_rfl) (by kernel_rfl) (by kernel_rfl) (fun _ _ _ h => h) (Or.inl ⟨by rfl, ?hyq22⟩) (by assumption) ?rq22
                case hyq22 => intro w hSw; (try dsimp only at hSw); go_simp; first | done | with_reducible rfl
                case' rq22 => try simp only [Act.put, List.setIfInBounds_toArray, List.set_cons_zero, List.set_cons_succ]
                refine wpAnyH_ready (rs := [23]) (by kernel_rfl) (by simp) ?_
                refine AllReadyH.cons rfl (fun K9 hK => ?_) AllReadyH.nil
                go_simp
                skip
                refine hK.out _ _ ⟨HRN.out.cellI HX.out, HFW.out.cell (hc2W)⟩ (fun hHq23 => ?_)
                clear hK K9
                try simp only [Act.put, List.setIfInBounds_toArray, List.set_cons_zero, List.set_cons_succ]
                refine wpAnyH_done (by kernel_rfl) ?_ _
                clear hHeld hc1 hc2 hcx hfz hc2W hcx0 hc20
                go_wp2
                go_roundw
                case rel => exact ⟨k + 1, S2, by omega, by go_num, HFN.out, HS2.out, HFW.out, HRN.out, HIN.out, HEN.out⟩
                case measure => simp [intOf]; omega
              | false =>
                obtain ⟨S2, hS1, hS2⟩ := ic_step (N := N) HX.out HB1.out HB2.out HS.out
                have HS2 := Lib.hid hS2
                have HFN : Hid (FlgAt (wd.setCell ⟨L1, xm, none⟩ (.bool true)) L1 (flg N S2)) := Lib.hid (by rw [← hS1]; exact HF1d.out.set true)
                have HFW : Hid (FlgAt (wd.setCell ⟨L1, xm, none⟩ (.bool true)) L (flg N W)) := Lib.hid ((lv_set wd L1 xm (.bool true)).heap HFd.out (by have := HL12.out; omega))
                have HRN := Lib.hid (HRDd.out.setOld (p := ⟨L1, xm, none⟩) (by show L1 < _; have h1 := HL12.out; have h2 := HLwr.out; omega) (.bool true))
                have HIN := Lib.hid (HIOd.out.setOld (p := ⟨L1, xm, none⟩) (by show L1 < _; have h1 := HL12.out; have h2 := HZ4.out; omega) (.bool true))
                have HEN := Lib.hid (HEd.out.setCell (p := ⟨L1, xm, none⟩) HLF1.out (.bool true))
                have hc2W := (flg_get W hxm).trans (congrArg some HB2.out)
                clear hS1 hS2
                refine wp_region_held_drew (S := (fun W => W.cell? ⟨gr, k, none⟩ = some (.int .i64 (xm : Int)) ∧ W.cell? ⟨L, xm, none⟩ = some (.bool false))) (by kernel_rfl) ⟨hcx0, hc20⟩ (fun hHeld => ?_)
                rw [HWD.out] at hHeld ⊢
                refine wpAnyH_takeD (some 64) (i := 0) (v := ?vr0) rfl (by kernel_rfl) (by kernel_rfl) (by kernel_rfl) (by kernel_rfl) (fun _ _ _ h => h) (Or.inl ⟨by rfl, ?hyr0⟩) (by assumption) ?rr0
                case hyr0 => intro w hSw; (try dsimp only at hSw); go_simp; first | done | with_reducible rfl
                case' rr0 => try simp only [Act.put, List.setIfInBounds_toArray, List.set_cons_zero, List.set_cons_succ]
                refine wpAnyH_takeD (some 65) (i := 1) (v := ?vr1) rfl (by kernel_rfl) (by kernel_rfl) (by kernel_rfl) (by kernel_rfl) (fun _ _ _ h => h) (Or.inl ⟨by rfl, ?hyr1⟩) (by assumption) ?rr1
                case hyr1 => intro w hSw; (try dsimp only at hSw); go_simp; first | done | with_reducible rfl
                case' rr1 => try simp only [Act.put, List.setIfInBounds_toArray, List.set_cons_zero, List.set_cons_succ]
                refine wpAnyH_takeD (some 66) (i := 2) (v := ?vr2) rfl (by kernel_rfl) (by kernel_rfl) (by kernel_rfl) (by kernel_rfl) (fun _ _ _ h => h) (Or.inl ⟨by rfl, ?hyr2⟩) (by assumption) ?rr2
                case hyr2 => intro w hSw; (try dsimp only at hSw); go_simp; first | done | with_reducible rfl
                case' rr2 => try simp only [Act.put, List.setIfInBounds_toArray, List.set_cons_zero, List.set_cons_succ]
                refine wpAnyH_takeD (some 67) (i := 3) (v := ?vr3) rfl (by kernel_rfl) (by kernel_rfl) (by kernel_rfl) (by kernel_rfl) (fun _ _ _ h => h) (Or.inl ⟨by rfl, ?hyr3⟩) (by assumption) ?rr3
                case hyr3 => intro w hSw; (try dsimp only at hSw); go_simp; first | done | with_reducible rfl
                case' rr3 => try simp only [Act.put, List.setIfInBounds_toArray, List.set_cons_zero, List.set_cons_succ]
                refine wpAnyH_takeD (some 68) (i := 4) (v := ?vr4) rfl (by kernel_rfl) (by kernel_rfl) (by kernel_rfl) (by kernel_rfl) (fun _ _ _ h => h) (Or.inl ⟨by rfl, ?hyr4⟩) (by assumption) ?rr4
                case hyr4 => intro w hSw; (try dsimp only at hSw); go_simp; first | done | with_reducible rfl
                case' rr4 => try simp only [Act.put, List.setIfInBounds_toArray, List.set_cons_zero, List.set_cons_succ]
                refine wpAnyH_takeD (some 69) (i := 5) (v := ?vr5) rfl (by kernel_rfl) (by kernel_rfl) (by kernel_rfl) (by kernel_rfl) (fun _ _ _ h => h) (Or.inl ⟨by rfl, ?hyr5⟩) (by assumption) ?rr5
                case hyr5 => intro w hSw; (try dsimp only at hSw); go_simp; first | done | with_reducible rfl
                case' rr5 => try simp only [Act.put, List.setIfInBounds_toArray, List.set_cons_zero, List.set_cons_succ]
                refine wpAnyH_takeD (some 70) (i := 6) (v := ?vr6) rfl (by kernel_rfl) (by kernel_rfl) (by kernel_rfl) (by kernel_rfl) (fun _ _ _ h => h) (Or.inl ⟨by rfl, ?hyr6⟩) (by assumption) ?rr6
                case hyr6 => intro w hSw; (try dsimp only at hSw); go_simp; first | done | with_reducible rfl
                case' rr6 => try simp only [Act.put, List.setIfInBounds_toArray, List.set_cons_zero, List.set_cons_succ]
                refine wpAnyH_takeD (some 71) (i := 7) (v := ?vr7) rfl (by kernel_rfl) (by kernel_rfl) (by kernel_rfl) (by kernel_rfl) (fun _ _ _ h => h) (Or.inl ⟨by rfl, ?hyr7⟩) (by assumption) ?rr7
                case hyr7 => intro w hSw; (try dsimp only at hSw); go_simp; first | done | with_reducible rfl
                case' rr7 => try simp only [Act.put, List.setIfInBounds_toArray, List.set_cons_zero, List.set_cons_succ]
                refine wpAnyH_takeD (some 72) (i := 8) (v := ?vr8) rfl (by kernel_rfl) (by kernel_rfl) (by kernel_rfl) (by kernel_rfl) (fun _ _ _ h => h) (Or.inl ⟨by rfl, ?hyr8⟩) (by assumption) ?rr8
                case hyr8 => intro w hSw; (try dsimp only at hSw); go_simp; first | done | with_reducible rfl
                case' rr8 => try simp only [Act.put, List.setIfInBounds_toArray, List.set_cons_zero, List.set_cons_succ]
                refine wpAnyH_takeD (some 73) (i := 9) (v := ?vr9) rfl (by kernel_rfl) (by kernel_rfl) (by kernel_rfl) (by kernel_rfl) (fun _ _ _ h => h) (Or.inl ⟨by rfl, ?hyr9⟩) (by assumption) ?rr9
                case hyr9 => intro w hSw; (try dsimp only at hSw); go_simp; first | done | with_reducible rfl
                case' rr9 => try simp only [Act.put, List.setIfInBounds_toArray, List.set_cons_zero, List.set_cons_succ]
                refine wpAnyH_takeD (some 74) (i := 10) (v := ?vr10) rfl (by kernel_rfl) (by kernel_rfl) (by kernel_rfl) (by kernel_rfl) (fun _ _ _ h => h) (Or.inl ⟨by rfl, ?hyr10⟩) (by assumption) ?rr10
                case hyr10 => intro w hSw; (try dsimp only at hSw); go_simp; first | done | with_reducible rfl
                case' rr10 => try simp only [Act.put, List.setIfInBounds_toArray, List.set_cons_zero, List.set_cons_succ]
                refine wpAnyH_ready (rs := [11]) (by kernel_rfl) (by simp) ?_
                refine AllReadyH.cons rfl (fun K9 hK => ?_) AllReadyH.nil
                go_simp
                skip
                refine hK.out _ _ hHeld (fun hHr11 => ?_)
                clear hK K9
                try simp only [Act.put, List.setIfInBounds_toArray, List.set_cons_zero, List.set_cons_succ]
                refine wpAnyH_takeD (some 76) (i := 12) (v := ?vr12) rfl (by kernel_rfl) (by kernel_rfl) (by kernel_rfl) (by kernel_rfl) (fun _ _ _ h => h) (Or.inl ⟨by rfl, ?hyr12⟩) (by assumption) ?rr12
                case hyr12 => intro w hSw; (try dsimp only at hSw); go_simp; first | done | with_reducible rfl
                case' rr12 => try simp only [Act.put, List.setIfInBounds_toArray, List.set_cons_zero, List.set_cons_succ]
                refine wpAnyH_takeD (some 77) (i := 13) (v := ?vr13) rfl (by kernel_rfl) (by kernel_rfl) (by kernel_rfl) (by kernel_rfl) (fun _ _ _ h => h) (Or.inl ⟨by rfl, ?hyr13⟩) (by assumption) ?rr13
                case hyr13 => intro w hSw; (try dsimp only at hSw); go_simp; first | done | with_reducible rfl
                case' rr13 => try simp only [Act.put, List.setIfInBounds_toArray, List.set_cons_zero, List.set_cons_succ]
                refine wpAnyH_takeD (some 78) (i := 14) (v := ?vr14) rfl (by kernel_rfl) (by kernel_rfl) (by kernel_rfl) (by kernel_rfl) (fun _ _ _ h => h) (Or.inl ⟨by rfl, ?hyr14⟩) (by assumption) ?rr14
                case hyr14 => intro w hSw; (try dsimp only at hSw); go_simp; first | done | with_reducible rfl
                case' rr14 => try simp only [Act.put, List.setIfInBounds_toArray, List.set_cons_zero, List.set_cons_succ]
                refine wpAnyH_takeD (some 79) (i := 15) (v := ?vr15) rfl (by kernel_rfl) (by kernel_rfl) (by kernel_rfl) (by kernel_rfl) (fun _ _ _ h => h) (Or.inl ⟨by rfl, ?hyr15⟩) (by assumption) ?rr15
                case hyr15 => intro w hSw; (try dsimp only at hSw); go_simp; first | done | with_reducible rfl
                case' rr15 => try simp only [Act.put, List.setIfInBounds_toArray, List.set_cons_zero, List.set_cons_succ]
                refine wpAnyH_takeD (some 80) (i := 16) (v := ?vr16) rfl (by kernel_rfl) (by kernel_rfl) (by kernel_rfl) (by kernel_rfl) (fun _ _ _ h => h) (Or.inl ⟨by rfl, ?hyr16⟩) (by assumption) ?rr16
                case hyr16 => intro w hSw; (try dsimp only at hSw); go_simp; first | done | with_reducible rfl
                case' rr16 => try simp only [Act.put, List.setIfInBounds_toArray, List.set_cons_zero, List.set_cons_succ]
                refine wpAnyH_takeD (some 81) (i := 17) (v := ?vr17) rfl (by kernel_rfl) (by kernel_rfl) (by kernel_rfl) (by kernel_rfl) (fun _ _ _ h => h) (Or.inl ⟨by rfl, ?hyr17⟩) (by assumption) ?rr17
                case hyr17 => intro w hSw; (try dsimp only at hSw); go_simp; first | done | with_reducible rfl
                case' rr17 => try simp only [Act.put, List.setIfInBounds_toArray, List.set_cons_zero, List.set_cons_succ]
                refine wpAnyH_takeD (some 82) (i := 18) (v := ?vr18) rfl (by kernel_rfl) (by kernel_rfl) (by kernel_rfl) (by kernel_rfl) (fun _ _ _ h => h) (Or.inl ⟨by rfl, ?hyr18⟩) (by assumption) ?rr18
                case hyr18 => intro w hSw; (try dsimp only at hSw); go_simp; first | done | with_reducible rfl
                case' rr18 => try simp only [Act.put, List.setIfInBounds_toArray, List.set_cons_zero, List.set_cons_succ]
                refine wpAnyH_takeD (some 83) (i := 19) (v := ?vr19) rfl (by kernel_rfl) (by kernel_rfl) (by kernel_rfl) (by kernel_rfl) (fun _ _ _ h => h) (Or.inl ⟨by rfl, ?hyr19⟩) (by assumption) ?rr19
                case hyr19 => intro w hSw; (try dsimp only at hSw); go_simp; first | done | with_reducible rfl
                case' rr19 => try simp only [Act.put, List.setIfInBounds_toArray, List.set_cons_zero, List.set_cons_succ]
                refine wpAnyH_takeD (some 84) (i := 20) (v := ?vr20) rfl (by kernel_rfl) (by kernel_rfl) (by kernel_rfl) (by kernel_rfl) (fun _ _ _ h => h) (Or.inl ⟨by rfl, ?hyr20⟩) (by assumption) ?rr20
                case hyr20 => intro w hSw; (try dsimp only at hSw); go_simp; first | done | with_reducible rfl
                case' rr20 => try simp only [Act.put, List.setIfInBounds_toArray, List.set_cons_zero, List.set_cons_succ]
                refine wpAnyH_takeD (some 85) (i := 21) (v := ?vr21) rfl (by kernel_rfl) (by kernel_rfl) (by kernel_rfl) (by kernel_rfl) (fun _ _ _ h => h) (Or.inl ⟨by rfl, ?hyr21⟩) (by assumption) ?rr21
                case hyr21 => intro w hSw; (try dsimp only at hSw); go_simp; first | done | with_reducible rfl
                case' rr21 => try simp only [Act.put, List.setIfInBounds_toArray, List.set_cons_zero, List.set_cons_succ]
                refine wpAnyH_takeD (some 86) (i := 22) (v := ?vr22) rfl (by kernel_rfl) (by kernel_rfl) (by kernel_rfl) (by kernel_rfl) (fun _ _ _ h => h) (Or.inl ⟨by rfl, ?hyr22⟩) (by assumption) ?rr22
                case hyr22 => intro w hSw; (try dsimp only at hSw); go_simp; first | done | with_reducible rfl
                case' rr22 => try simp only [Act.put, List.setIfInBounds_toArray, List.set_cons_zero, List.set_cons_succ]
                refine wpAnyH_ready (rs := [23]) (by kernel_rfl) (by simp) ?_
                refine AllReadyH.cons rfl (fun K9 hK => ?_) AllReadyH.nil
                go_simp
                skip
                refine hK.out _ _ ⟨HRN.out.cellI HX.out, HFW.out.cell (hc2W)⟩ (fun hHr23 => ?_)
                clear hK K9
                try simp only [Act.put, List.setIfInBounds_toArray, List.set_cons_zero, List.set_cons_succ]
                refine wpAnyH_done (by kernel_rfl) ?_ _
                clear hHeld hc1 hc2 hcx hfz hc2W hcx0 hc20
                go_wp2
                go_roundw
                case rel => exact ⟨k + 1, S2, by omega, by go_num, HFN.out, HS2.out, HFW.out, HRN.out, HIN.out, HEN.out⟩
                case measure => simp [intOf]; omega
          · obtain rfl : k = R := by omega
            have hfz : wr.frozen? ⟨L, wm, none⟩ = false := HF.out.frozen
            have hcl := HF.out.cell (flg_get W hwm)
            have HF6 : Hid (FlgAt (wr.setCell ⟨L, wm, none⟩ (.bool true)) L (flg N ((wrS ars ps).take (m + 1)))) := Lib.hid (by rw [take_next HYU.out, HWW.out]; show FlgAt _ L (flg N (_ ++ [writeCell ars s pt])); rw [HWC.out, ← flg_set]; exact HF.out.set true)
            have HF16 : Hid (FlgAt (wr.setCell ⟨L, wm, none⟩ (.bool true)) L1 (flg N S)) := Lib.hid ((lv_set wr L wm (.bool true)).heap HF1.out (by have := HL12.out; omega))
            have HI6 := Lib.hid (HIO.out.setOld (p := ⟨L, wm, none⟩) (by show L < _; have := HZ4.out; omega) (.bool true))
            have E6 := Lib.hid (HE.out.setCell (p := ⟨L, wm, none⟩) hLF (.bool true))
            have HS6 : Hid (∀ c, c ∈ S ↔ c ∈ inTo (usesM ars ps) (m + 1)) := Lib.hid (fun c => by rw [HNX.out, HS.out c, List.take_of_length_le (by rw [HRL.out]; exact Nat.le_refl _)])
            go_wp2
            go_roundw
            case rel => exact ⟨m + 1, S, by omega, by go_num, HF16.out, HS6.out, HF6.out, HI6.out, E6.out⟩
            case measure => simp [intOf]; omega
      · obtain rfl : m = M := by omega
        have HFL : Hid (fl N (inTo (usesM ars ps) m) = fl N S) := Lib.hid (fl_same (fun c => (HS.out c).symm))
        go_wp2_with (fail)
        refine (l5Flagged_any L1 N S _ HF1.out hN2).mono ?_
        rintro e w7 ⟨⟨v7, rfl, hv7⟩, hE7⟩
        have HV7 := Lib.hid hv7; have E7 := Lib.hid (HEW.out.trans hE7)
        have hsz := HEW.out.size_le
        clear hE7 hv7 y0 y1
        go_wp2
        go_ret
        exact ⟨⟨_, rfl, by rw [HWB.out, HFL.out]; exact HV7.out.weak hsz⟩, E7.out⟩
end Go.Proofs.YtbcjllanigmioaaGreat

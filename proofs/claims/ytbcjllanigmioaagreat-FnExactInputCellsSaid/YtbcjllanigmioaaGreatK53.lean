/- The texts G52, joined. No statement is proved here. -/
import Derived.Test.YtbcjllanigmioaaGreatK48
import Derived.Test.YtbcjllanigmioaaGreatK49
import Derived.Test.YtbcjllanigmioaaGreatK52
/- The program's InputCells. No statement is proved here. -/
namespace Go.Proofs.YtbcjllanigmioaaGreat
open Go.RowKit Go.Maps

theorem zeroB (w : World) : (zeroValue 4).run Tryz.prog w = .ok (.bool false) w := by kernel_rfl
/-- A set of ints as a map to true. -/
def setFn (ws : List Int) : Int → Option Value := fun c => if c ∈ ws then some (.bool true) else none
theorem setFn_upd (ws : List Int) (c : Int) : updF (setFn ws) c (.bool true) = setFn (ws ++ [c]) := by
  funext x
  unfold updF setFn
  by_cases e : x = c
  · subst e; simp
  · simp [e]
theorem setFn_get (ws : List Int) (c : Int) : (setFn ws c).getD (.bool false) = .bool (decide (c ∈ ws)) := by
  unfold setFn
  by_cases h : c ∈ ws
  · rw [if_pos h, decide_eq_true h]; rfl
  · rw [if_neg h, decide_eq_false h]; rfl
theorem upd_I {ops : Array Oper} {rest : List Oper} {o : Oper} {a : Act} {Q : Exit → Act → World → Prop} (w : World) (hg : o.guard = none) (m x v : Operand) (t e : TypeId) (hop : o.op = Op.mapUpdate t m x v)
    (ht : Tryz.prog.underlying t = some (.map 3 e)) {b n : Nat} {F : Int → Option Value} (hm : a.eval m = .map (some b)) (h : IMp w b n F) (hn : n < maxLen) {c : Int} {val : Value} (hx : a.eval x = .int .i64 c) (hv : a.eval v = val)
    (hc : (Lit.int .i64 c).wf = true) (hK : ∀ w', IMp w' b (n + 1) (updF F c val) → w.grownBy w' (some b) → wpList Tryz.prog ops Q rest (a.put o.dst undef) w') :
    wpList Tryz.prog ops Q (o :: rest) a w := by
  refine wpList_plain hg fun K' hK' => ?_
  obtain ⟨w', hrun, r1, r2⟩ := h.upd ht hn hc val
  unfold Oper.wp
  simp [execOp, hop, hm, hx, hv, hrun, Result.andThen]
  exact hK' _ _ (hK w' r1 r2)
theorem row_ne5' {B gr m : Nat} {w : World} {v : Value} {xs : List Value} {u0 u1 u2 u3 u4 : Value} (h : w.ownsRow B 3 1 v m xs) (hb : w.heap[gr]? = some (.cells #[u0, u1, u2, u3, u4] 93 (0, 0))) {b : Nat} (e : v.ownBlock = some b) : b ≠ gr := by
  rintro rfl
  rcases h.2 with ⟨rfl, _⟩ | ⟨g', cap', cur, rfl, _, hg, _⟩
  · cases e
  · cases e
    rw [hb] at hg
    simp at hg
theorem inRow_len (rs W : List Int) (j : Nat) : (inRow (rs.take j) W).length ≤ j := by
  unfold inRow
  exact Nat.le_trans (List.length_filter_le _ _) (by rw [List.length_take]; omega)
theorem inTo_len {us : List Us} {K : Nat} (h : ∀ u ∈ us, u.1.length ≤ K) : ∀ i, (inTo us i).length ≤ i * K
  | 0 => by simp [inTo]
  | i + 1 => by
    have ih := inTo_len h i
    rw [Nat.succ_mul]
    cases e : us[i]? with
    | none =>
      have : inTo us (i + 1) = inTo us i := by simp [inTo, List.range_succ, List.getD_eq_getElem?_getD, e, inRow]
      rw [this]; omega
    | some u =>
      rw [inTo_next e, List.length_append]
      have h1 : (inRow u.1 ((us.take i).map (fun u => u.2))).length ≤ u.1.length := List.length_filter_le _ _
      have h2 := h u (List.mem_of_getElem? e)
      omega

theorem ev_of {ars : List Arr} {ps : List Pt} {u : Us} (h : u ∈ (evsOf ars ps).map (·.2)) : ∃ y ∈ insM ps, u = useOf ars y := by
  rw [← usesM_ev] at h
  unfold usesM at h
  obtain ⟨y, hy, rfl⟩ := List.mem_map.1 h
  exact ⟨y, hy, rfl⟩
theorem ev_reads {ars : List Arr} {ps : List Pt} (hb : progB ars ps = true) : ∀ u ∈ (evsOf ars ps).map (·.2), u.1.length ≤ 1000 := by
  intro u hu
  obtain ⟨y, hy, rfl⟩ := ev_of hu
  obtain ⟨x, -, -, -, -, hvb, -⟩ := insM_good hb hy
  show (readCells ars y.2 y.1.2.2).length ≤ 1000
  unfold readCells
  rw [List.length_map]
  obtain ⟨-, -, hcnt⟩ := valid_shape hvb
  have h3 := reads_len 5 y.2.2.2
  omega
theorem ev_cells {ars : List Arr} {ps : List Pt} (hb : progB ars ps = true) : ∀ u ∈ (evsOf ars ps).map (·.2), (∀ c ∈ u.1, 0 ≤ c ∧ c < ((totN ars).toNat : Int)) ∧ 0 ≤ u.2 ∧ u.2 < ((totN ars).toNat : Int) := by
  intro u hu
  obtain ⟨y, hy, rfl⟩ := ev_of hu
  obtain ⟨x, -, -, -, -, -, hck⟩ := insM_good hb hy
  have hab := progB_arrs hb
  have hok : ∀ a ∈ ars, arrOkB a = true := by have h := hab; simp only [arrsB, Bool.and_eq_true, List.all_eq_true] at h; exact h.1
  have ht := (totN_bd hok).1
  refine ⟨fun c hc => ?_, ?_⟩
  · have := reads_bd hok hck c hc; omega
  · have h1 := write_bd hok hck
    have h2 : (useOf ars y).2 = writeCell ars y.2 y.1.2.2 := rfl
    rw [h2]; omega
theorem tot_lt {ars : List Arr} {ps : List Pt} (hb : progB ars ps = true) : (totN ars).toNat ≤ 1048576 := by
  have hab := progB_arrs hb
  have hok : ∀ a ∈ ars, arrOkB a = true := by have h := hab; simp only [arrsB, Bool.and_eq_true, List.all_eq_true] at h; exact h.1
  have := (totN_bd hok).2
  have := arrs_len hab
  omega
theorem inTo_mem {us : List Us} {i : Nat} {c : Int} (h : c ∈ inTo us i) : ∃ u ∈ us, c ∈ u.1 := by
  simp only [inTo, List.mem_flatMap, List.mem_range] at h
  obtain ⟨j, -, h⟩ := h
  have h2 := (List.mem_filter.1 h).1
  rw [List.getD_eq_getElem?_getD] at h2
  cases e : us[j]? with
  | none => rw [e] at h2; simp at h2
  | some u => rw [e] at h2; exact ⟨u, List.mem_of_getElem? e, h2⟩
theorem inTo_bd {ars : List Arr} {ps : List Pt} (hb : progB ars ps = true) {i : Nat} : ∀ x ∈ inTo (usesM ars ps) i, 0 ≤ x ∧ x < ((totN ars).toNat : Int) := by
  intro x hx
  obtain ⟨u, hu, hc⟩ := inTo_mem hx
  rw [usesM_ev] at hu
  exact (ev_cells hb u hu).1 x hc

set_option linter.unusedVariables false in
set_option linter.unusedSimpArgs false in
set_option maxRecDepth 100000 in
set_option maxHeartbeats 4000000 in
theorem InputCells_any (v : Value) (ars : List Arr) (ps : List Pt) (w : World) (hp : PrR w v ars ps) :
    Calls Tryz.prog 18 #[v] w fun e w' => (∃ v', e = .returned v' ∧ IntsOwn w.heap.size w' v' (icB ars ps)) ∧ Ext w w' := by
  obtain ⟨i0, hi, hz0, hz1, hz2⟩ := info_parts infoInt
  obtain ⟨qa, ca, qp, cp, rfl, -, -, ha, hps⟩ := hp.parts
  have HA := Lib.hid ha; have HPS := Lib.hid hps
  have hmm := @run_makeMap Tryz.prog
  clear hp ha hps
  go_enter Tryz.func18, Tryz.ntmps18
  go_wp2_with (fail)
  refine (programOf_any qa qp _ ca _ cp ars ps _ rfl rfl (HA.out.ext ((Ext.refl w).alloc _)) (HPS.out.ext ((Ext.refl w).alloc _))).mono ?_
  rintro e w1 ⟨⟨v, rfl, h0, h1⟩, hE⟩
  have HE := Lib.hid (((Ext.refl w).alloc _).trans hE)
  clear hE
  obtain ⟨B0, hB0⟩ : ∃ B0, (w.alloc (.cells #[.slice qa ars.length ca, .slice qp ps.length cp] 32)).heap.size = B0 := ⟨_, rfl⟩
  rw [hB0] at h1
  have hform : ∃ mo T q1 n1 c1 q2 M c2, ∃ es : List Ev, v = .agg #[.map mo, .int .i64 T, .slice q1 n1 c1, .slice q2 M c2] ∧ es.length = M ∧ M ≤ 120 ∧ EvsOwn B0 w1 (.slice q2 M c2) es ∧ (∀ u ∈ es.map (·.2), u.1.length ≤ 1000) ∧ (∀ u ∈ es.map (·.2), (∀ c ∈ u.1, 0 ≤ c ∧ c ≤ 1048576) ∧ 0 ≤ u.2 ∧ u.2 ≤ 1048576) ∧ ascL (inTo (es.map (·.2)) M) = icB ars ps := by
    cases hb : progB ars ps with
    | false => exact ⟨_, _, _, _, _, _, _, _, [], h0 hb, rfl, by omega, ⟨[], World.ownsRow_nil _ _ _ _, fun i x h => by simp at h⟩, by simp, by simp, by unfold icB; rw [hb]; simp [inTo, ascL, Lib.compact, Lib.compactUpTo]⟩
    | true =>
      obtain ⟨Bm, D, q1, c1, q2, c2, rfl, -, -, -, -, he⟩ := h1 hb
      exact ⟨_, _, _, _, _, _, _, _, evsOf ars ps, rfl, rfl, by have := insM_120 hb; simpa [evsOf] using this, he, ev_reads hb, fun u hu => by
        have h1 := ev_cells hb u hu
        have h2 := tot_lt hb
        exact ⟨fun c hc => by have := h1.1 c hc; omega, by omega, by omega⟩, by rw [← usesM_ev, ascL_fl (inTo_bd hb)]; unfold icB; rw [if_pos hb]; simp [evsOf]⟩
  obtain ⟨mo, T, q1, n1, c1, q2, M, c2, es, rfl, hM, hM120, hev, hrl, hcb, hans⟩ := hform
  obtain ⟨us, hus⟩ : ∃ us, es.map (·.2) = us := ⟨_, rfl⟩
  rw [hus] at hrl hcb hans
  have HM := Lib.hid hM; have HEV := Lib.hid hev; have HANS := Lib.hid hans; have HUS := Lib.hid hus; have HRL := Lib.hid hrl; have HCB := Lib.hid hcb
  have HIL : Hid (∀ i, (inTo us i).length ≤ i * 1000) := Lib.hid (inTo_len hrl)
  clear h0 h1 hM hev hans hB0 hrl hcb hus
  go_wp2
  clear hmm
  obtain ⟨W0, hW0⟩ : ∃ W0, w1.alloc (.cells #[.map mo, .int .i64 T, .slice q1 n1 c1, .slice q2 M c2] 88) = W0 := ⟨_, rfl⟩
  have X0 : Ext w1 W0 := by rw [← hW0]; exact (Ext.refl w1).alloc _
  have hs0 : W0.heap.size = w1.heap.size + 1 := by rw [← hW0]; simp
  have E0 : Hid (Ext w W0) := Lib.hid (HE.out.trans X0)
  have HEV0 := Lib.hid (HEV.out.ext X0)
  obtain ⟨W2, hW2⟩ : ∃ W2, W0.alloc (.map #[] 0) = W2 := ⟨_, rfl⟩
  have X2 : Hid (Ext W0 W2) := Lib.hid (by rw [← hW2]; exact (Ext.refl W0).alloc _)
  have hs2 : W2.heap.size = w1.heap.size + 1 + 1 := by rw [← hW2]; simp [hs0]
  have M2 : Hid (IMp W2 (w1.heap.size + 1) 0 (setFn [])) := Lib.hid (by
    have h := IMp.made W0
    rw [hs0] at h
    rw [← hW2]
    have e : setFn [] = (fun _ => none) := by funext x; simp [setFn]
    rw [e]; exact h)
  have HS2 := Lib.hid hs2; have HS0 := Lib.hid hs0
  try rw [hW0]
  try rw [hW2]
  clear hW0 hW2 X0 hs2 hs0
  obtain ⟨MB, hMB⟩ : ∃ MB, w1.heap.size + 1 = MB := ⟨_, rfl⟩
  rw [hMB] at M2 HS2 HS0 ⊢
  clear hMB
  go_loopw [6, 20] (fun ov iv wr => ∃ (k m nM : Nat) (po : Option Addr) (co : Nat), k ≤ M ∧ iv = .int .i64 k ∧ ov = .slice po m co ∧ (inTo us k).length = m ∧ nM ≤ k ∧ wr.ownsRow W2.heap.size 3 1 (.slice po m co) m ((inTo us k).map (Value.int .i64)) ∧ IMp wr MB nM (setFn ((us.take k).map (fun u => u.2))) ∧ Ext W0 wr ∧ W2.heap.size ≤ wr.heap.size) (fun _ iv _ => M - (intOf iv).toNat)
  case atStart => exact ⟨0, 0, 0, none, 0, by omega, rfl, rfl, rfl, by omega, World.ownsRow_nil _ _ _ _, by simpa using M2.out, X2.out, Nat.le_refl _⟩
  case round =>
    obtain ⟨k, m, nM, po, co, hk, rfl, rfl, hm, hnM, ho, hmp, hE, hsz⟩ := hrel
    have HMM := Lib.hid hm; have HO := Lib.hid ho; have HMP := Lib.hid hmp; have HE2 := Lib.hid hE; have HSZ := Lib.hid hsz
    clear hm ho hmp hE hsz
    by_cases hlt : k < M
    · obtain ⟨e, he⟩ := get_some (xs := es) (k := k) (by rw [HM.out]; exact hlt)
      have hue : us[k]? = some e.2 := by rw [← HUS.out, List.getElem?_map, he]; rfl
      obtain ⟨o, g, d1, r, kk, rfl, hol, c0, c1', c2', c3, c4, -, hrd⟩ := HEV0.out.elem he
      obtain ⟨hcr, hw0, hw1⟩ := HCB.out e.2 (List.mem_of_getElem? hue)
      have hR1000 := HRL.out e.2 (List.mem_of_getElem? hue)
      obtain ⟨⟨ei, ej, ept⟩, rs, wv⟩ := e
      dsimp only at c0 c1' c2' c3 c4 hrd hcr hw0 hw1 hR1000
      obtain ⟨R, hR⟩ : ∃ R, rs.length = R := ⟨_, rfl⟩
      obtain ⟨pl, hpl⟩ : ∃ pl, ept.length = pl := ⟨_, rfl⟩
      rw [hR] at c3 hrd hR1000
      rw [hpl] at c2'
      replace c0 := HE2.out.keep c0; replace c1' := HE2.out.keep c1'; replace c2' := HE2.out.keep c2'; replace c3 := HE2.out.keep c3; replace c4 := HE2.out.keep c4
      obtain ⟨W, hW⟩ : ∃ W, (us.take k).map (fun u => u.2) = W := ⟨_, rfl⟩
      rw [hW] at HMP
      have HNX : Hid (inTo us (k + 1) = inTo us k ++ inRow rs W) := Lib.hid (by rw [inTo_next hue, hW])
      have HWN : Hid ((us.take (k + 1)).map (fun u => u.2) = W ++ [wv]) := Lib.hid (by rw [take_next hue, List.map_append, hW]; rfl)
      have HRS := Lib.hid hrd.at; have HCR := Lib.hid hcr; have HRR := Lib.hid hR
      have hmb := HIL.out k
      have hm0 : m ≤ 120000 := by have := HMM.out; omega
      have HO0 : Hid (wr.ownsRow W2.heap.size 3 1 (.slice po m co) m ((inTo us k ++ inRow (rs.take 0) W).map (Value.int .i64))) := Lib.hid (by simpa [inRow] using HO.out)
      have HM0 : Hid ((inTo us k ++ inRow (rs.take 0) W).length = m) := Lib.hid (by simpa [inRow] using HMM.out)
      have hkI : (k : Int) < (M : Int) := by omega
      clear he hue hrd hcr hR hpl hW hmb
      go_wp2_with (fail)
      obtain ⟨wx, hwx⟩ : ∃ wx, wr.alloc (.cells #[.int .i64 (ei : Int), .int .i64 (ej : Int), .slice (some ⟨g, 0, none⟩) pl d1, .slice r R kk, .int .i64 wv] 93) = wx := ⟨_, rfl⟩
      have EX : Ext wr wx := by rw [← hwx]; exact (Ext.refl wr).alloc _
      have BX := Lib.hid (show wx.heap[wr.heap.size]? = some (.cells #[.int .i64 (ei : Int), .int .i64 (ej : Int), .slice (some ⟨g, 0, none⟩) pl d1, .slice r R kk, .int .i64 wv] 93 (0, 0)) by rw [← hwx]; exact blk_at rfl)
      have HEx := Lib.hid (HE2.out.trans EX); have HOx := Lib.hid (ownsRow_ext HO0.out EX); have HMx := Lib.hid (HMP.out.ext EX)
      have HSx : Hid (W2.heap.size ≤ wx.heap.size) := Lib.hid (Nat.le_trans HSZ.out EX.size_le)
      obtain ⟨e0, e1, e2, e3, e4, -⟩ := blk5e BX.out
      obtain ⟨EB, hEB⟩ : ∃ EB, wr.heap.size = EB := ⟨_, rfl⟩
      have HEBM : Hid (MB < EB ∧ W2.heap.size ≤ EB) := Lib.hid (by have h1 := HMP.out.lt; have h2 := HSZ.out; omega)
      try rw [hwx]
      try rw [hEB]
      rw [hEB] at BX e0 e1 e2 e3 e4
      clear hwx EX HE2 HO HO0 HMP HSZ c0 c1' c2' c3 c4 hEB HMM
      go_wp2
      clear e0 e1 e2 e3 e4
      go_loopw [6, 27] (fun ov jv wr => ∃ (j m : Nat) (po : Option Addr) (co : Nat), j ≤ R ∧ jv = .int .i64 j ∧ ov = .slice po m co ∧ (inTo us k ++ inRow (rs.take j) W).length = m ∧ wr.ownsRow W2.heap.size 3 1 (.slice po m co) m ((inTo us k ++ inRow (rs.take j) W).map (Value.int .i64)) ∧ IMp wr MB nM (setFn W) ∧ wr.heap[EB]? = some (.cells #[.int .i64 (ei : Int), .int .i64 (ej : Int), .slice (some ⟨g, 0, none⟩) pl d1, .slice r R kk, .int .i64 wv] 93 (0, 0)) ∧ Ext W0 wr ∧ W2.heap.size ≤ wr.heap.size) (fun _ jv _ => R - (intOf jv).toNat)
      case atStart => exact ⟨0, m, po, co, by omega, rfl, rfl, HM0.out, HOx.out, HMx.out, BX.out, HEx.out, HSx.out⟩
      case round =>
        obtain ⟨j, m, po, co, hj, rfl, rfl, hm, ho, hmp, hbx, hE, hsz⟩ := hrel
        have hm2 : m ≤ 121000 := by
          have h1 := HIL.out k
          have h2 := inRow_len rs W j
          rw [List.length_append] at hm
          omega
        clear HM0 HOx HMx BX HEx HSx
        have HMM := Lib.hid hm; have HO := Lib.hid ho; have HMP := Lib.hid hmp; have HBX := Lib.hid hbx; have HE2 := Lib.hid hE; have HSZ := Lib.hid hsz
        clear hm ho hmp hbx hE hsz
        by_cases hlt2 : j < R
        · obtain ⟨x, hx⟩ := get_some (xs := rs) (k := j) (by rw [HRR.out]; exact hlt2)
          obtain ⟨x0, x1⟩ := HCR.out x (List.mem_of_getElem? hx)
          obtain ⟨-, hcc⟩ := (HRS.out.ext HE2.out).cl
          obtain ⟨b, off, rfl, hcell⟩ := hcc j x hx
          have HNI := Lib.hid (inRow_next (W := W) hx)
          have hlk := HMP.out.look (T := 91) (e := 4) Tryz.underlying91 (zeroB _) (wfI (c := x) (by omega) (by omega))
          rw [setFn_get] at hlk
          have hjI : (j : Int) < (R : Int) := by omega
          by_cases hin : x ∈ W
          · rw [decide_eq_true hin] at hlk
            rw [if_pos hin, List.append_nil] at HNI
            clear hx hcc hin
            go_wp2
            go_roundw
            case rel => exact ⟨j + 1, m, po, co, by omega, by go_num, rfl, by rw [HNI.out]; exact HMM.out, by rw [HNI.out]; exact HO.out, HMP.out, HBX.out, HE2.out, HSZ.out⟩
            case measure => simp [intOf]; omega
          · rw [decide_eq_false hin] at hlk
            rw [if_neg hin] at HNI
            have HN1 : Hid (inTo us k ++ inRow (rs.take (j + 1)) W = (inTo us k ++ inRow (rs.take j) W) ++ [x]) := Lib.hid (by rw [HNI.out, List.append_assoc])
            obtain ⟨X, hX⟩ : ∃ X, inTo us k ++ inRow (rs.take j) W = X := ⟨_, rfl⟩
            rw [hX] at HMM HO HN1
            have HOX := Lib.hid (ownsRow_ext HO.out ((Ext.refl wr).alloc (.cells #[.int .i64 x] 3)))
            have HBA := Lib.hid (((Ext.refl wr).alloc (.cells #[.int .i64 x] 3)).blk HBX.out)
            have HMA := Lib.hid (HMP.out.ext ((Ext.refl wr).alloc (.cells #[.int .i64 x] 3)))
            have hsz : W2.heap.size ≤ wr.heap.size := HSZ.out
            clear hX hx hin hcc
            go_wp2_with (at_builtin; refine wpList_append_own_at _ rfl (.tmp 35) (.tmp 37) 27 rfl W2.heap.size 3 i0 (.int .i64 0) 1 8 Tryz.underlying27 hi hz0 hz1 hz2 rfl (by decide) (.slice po m co) m _ rfl HOX.out ⟨wr.heap.size, 0, none⟩ 1 1 [.int .i64 x] rfl rfl ?c1 ?c2 ?c3 ?c4 ?c5 ?_)
            case c1 => exact one_cell (by simp)
            case c2 => intro u hu; simp at hu; subst hu; rfl
            case c3 => unfold maxLen; omega
            case c4 => omega
            case c5 => simp; omega
            intro v' w5 hown' hgrow _ hat
            obtain ⟨po', co', rfl⟩ : ∃ po' co', v' = .slice po' (m + 1) co' := by
              rcases hown'.2 with ⟨rfl, hn0⟩ | ⟨g', cap, cur, e, _⟩
              · exact absurd hn0 (by omega)
              · exact ⟨_, cap, e⟩
            have HRW' : Hid (w5.ownsRow W2.heap.size 3 1 (.slice po' (m + 1) co') (m + 1) ((inTo us k ++ inRow (rs.take (j + 1)) W).map (Value.int .i64))) := Lib.hid (by rw [HN1.out, List.map_append]; simpa using hown')
            have HM1 : Hid ((inTo us k ++ inRow (rs.take (j + 1)) W).length = m + 1) := Lib.hid (by rw [HN1.out, List.length_append, HMM.out]; rfl)
            have HE5 := Lib.hid ((HE2.out.alloc (.cells #[.int .i64 x] 3)).grown hgrow (fun b hb => Nat.le_trans (by have := HS0.out; have := HS2.out; omega) (HOX.out.lt b hb).1))
            have HMP5 := Lib.hid (HMA.out.kept hgrow (fun e => by have h1 := (HOX.out.lt _ e.symm).1; have h2 := HS2.out; omega))
            have HBX5 := Lib.hid ((Lv.grown (D := fun b => b ≠ EB) hgrow (fun r hr _ => row_ne5' HOX.out HBA.out hr)).heap HBA.out (fun h => h rfl))
            have hsz5 : W2.heap.size ≤ w5.heap.size := Nat.le_trans hsz (Nat.le_trans ((Ext.refl wr).alloc (.cells #[.int .i64 x] 3)).size_le hgrow.size)
            clear hown' hgrow hat hcell hlk
            go_wp2
            go_roundw
            case rel => exact ⟨j + 1, m + 1, _, _, by omega, by go_num, rfl, HM1.out, HRW'.out, HMP5.out, HBX5.out, HE5.out, hsz5⟩
            case measure => simp [intOf]; omega
        · obtain rfl : j = R := by omega
          obtain ⟨e0, e1, e2, e3, e4, -⟩ := blk5e HBX.out
          have HTK : Hid (inTo us (k + 1) = inTo us k ++ inRow (rs.take j) W) := Lib.hid (by rw [HNX.out, List.take_of_length_le (by rw [HRR.out]; exact Nat.le_refl _)])
          go_wp2_with (first | (at_mapUpdate; refine upd_I _ rfl _ _ _ _ _ rfl rfl rfl HMP.out (by unfold maxLen; omega) rfl rfl (wfI (by omega) (by omega)) ?_; intro w6 hmp6 hgrow6) | fail)
          have HMP6 : Hid (IMp w6 MB (nM + 1) (setFn ((us.take (k + 1)).map (fun u => u.2)))) := Lib.hid (by rw [HWN.out, ← setFn_upd]; exact hmp6)
          have HO6 : Hid (w6.ownsRow W2.heap.size 3 1 (.slice po m co) m ((inTo us (k + 1)).map (Value.int .i64))) := Lib.hid (by
            rw [HTK.out]
            have h := row_lv (IntsOwn.mk HO.out HMM.out) (grown_lv hgrow6) (fun b hb hd => by have h1 := (HO.out.lt b hb).1; have h2 := HS2.out; omega)
            unfold IntsOwn at h
            rw [HMM.out] at h
            exact h)
          have HE6 := Lib.hid (HE2.out.grown hgrow6 (fun b e => by have e2 := Option.some.inj e; have := HS0.out; omega))
          have hsz6 : W2.heap.size ≤ w6.heap.size := Nat.le_trans HSZ.out hgrow6.size
          clear hmp6 hgrow6 e0 e1 e2 e3 e4
          go_wp2
          go_roundw
          case rel => exact ⟨k + 1, m, nM + 1, _, _, by omega, by go_num, rfl, by rw [HTK.out]; exact HMM.out, by omega, HO6.out, HMP6.out, HE6.out, hsz6⟩
          case measure => simp [intOf]; omega
    · obtain rfl : k = M := by omega
      have HI : Hid (IntsOwn W2.heap.size wr (.slice po m co) (inTo us k)) := Lib.hid (IntsOwn.mk HO.out HMM.out)
      have hmb := HIL.out k
      have hm0 : m ≤ 1048576 := by have := HMM.out; omega
      go_wp2_with (fail)
      refine (ascending_any W2.heap.size po m co (inTo us k) _ HMM.out HI.out hm0).mono ?_
      rintro e w7 ⟨⟨v7, rfl, hv7⟩, hl7⟩
      have hsz1 : w.heap.size ≤ W2.heap.size := by have h1 := E0.out.size_le; have h2 := X2.out.size_le; omega
      have HV7 : Hid (IntsOwn w.heap.size w7 v7 (icB ars ps)) := Lib.hid (by rw [← HANS.out]; exact hv7.weak hsz1)
      have E7 := Lib.hid (Ext.lvOld hl7 (E0.out.trans HE2.out) hsz1)
      clear hl7 hv7
      go_wp2
      go_ret
      exact ⟨⟨_, rfl, HV7.out⟩, E7.out⟩
end Go.Proofs.YtbcjllanigmioaaGreat

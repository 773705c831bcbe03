/- The texts G54, joined. No statement is proved here. -/
import Derived.Test.YtbcjllanigmioaaGreatK50
/- The program's DeadInstances. No statement is proved here. -/
namespace Go.Proofs.YtbcjllanigmioaaGreat
open Go.RowKit Go.Maps

theorem zeroIn (w : World) : (zeroValue 3).run Tryz.prog w = .ok (.int .i64 0) w := by kernel_rfl
theorem underWr : Tryz.prog.underlying 102 = some (.map 3 3) := by kernel_rfl
theorem del_I {ops : Array Oper} {rest : List Oper} {o : Oper} {a : Act} {Q : Exit → Act → World → Prop} (w : World) (hg : o.guard = none) (m x : Operand) (t e : TypeId) (hop : o.op = Op.call { callee := Callee.builtin Builtin.delete, args := #[m, x], argTypes := #[t, 3] })
    (ht : Tryz.prog.underlying t = some (.map 3 e)) {b n : Nat} {F : Int → Option Value} (hm : a.eval m = .map (some b)) (h : IMp w b n F) {c : Int} (hx : a.eval x = .int .i64 c)
    (hc : (Lit.int .i64 c).wf = true) (hK : ∀ w', IMp w' b n (delF F c) → w.grownBy w' (some b) → wpList Tryz.prog ops Q rest (a.put o.dst (.tuple #[])) w') :
    wpList Tryz.prog ops Q (o :: rest) a w := by
  refine wpList_plain hg fun K' hK' => ?_
  obtain ⟨w', hrun, r1, r2⟩ := h.del ht hc o.type
  unfold Oper.wp
  simp [execOp, hop, resolve, invoke, builtin, hm, hx, hrun, Result.andThen]
  exact hK' _ _ (hK w' r1 r2)

def unF (us : List Us) : Nat → Int → Option Nat
  | 0, _ => none
  | k + 1, c => match us[k]? with
    | none => unF us k c
    | some u => if c = u.2 then some k else if c ∈ u.1 then none else unF us k c
def vF (f : Int → Option Nat) : Int → Option Value := fun c => (f c).map (fun (n : Nat) => .int .i64 (n : Int))
def rdF (f : Int → Option Nat) (l : List Int) : Int → Option Nat := fun c => if c ∈ l then none else f c
def ddL (us : List Us) : Nat → List Int
  | 0 => []
  | k + 1 => match us[k]? with
    | none => ddL us k
    | some u => match rdF (unF us k) u.1 u.2 with
      | none => ddL us k
      | some n => ddL us k ++ [(n : Int)]
theorem rdF_nil (f : Int → Option Nat) : rdF f [] = f := by funext c; simp [rdF]
theorem rdF_del (f : Int → Option Nat) (l : List Int) (c : Int) : delF (vF (rdF f l)) c = vF (rdF f (l ++ [c])) := by
  funext x
  unfold delF vF rdF
  by_cases e : x = c
  · subst e; simp
  · simp [e]
theorem rdF_some {f : Int → Option Nat} {l : List Int} {c : Int} {n : Nat} : rdF f l c = some n ↔ c ∉ l ∧ f c = some n := by
  unfold rdF
  by_cases e : c ∈ l <;> simp [e]
theorem unF_next {us : List Us} {k : Nat} {u : Us} (h : us[k]? = some u) : vF (unF us (k + 1)) = updF (vF (rdF (unF us k) u.1)) u.2 (.int .i64 (k : Int)) := by
  funext x
  unfold updF vF rdF
  simp only [unF, h]
  by_cases e : x = u.2
  · simp [e]
  · simp [e]
theorem unF_lt {us : List Us} : ∀ {k : Nat} {c : Int} {n : Nat}, unF us k c = some n → n < k ∧ ∃ x, us[n]? = some x ∧ x.2 = c := by
  intro k
  induction k with
  | zero => intro c n h; simp [unF] at h
  | succ k ih =>
    intro c n h
    unfold unF at h
    cases hu : us[k]? with
    | none => rw [hu] at h; obtain ⟨h1, h2⟩ := ih h; exact ⟨by omega, h2⟩
    | some u =>
      rw [hu] at h
      dsimp only at h
      by_cases e : c = u.2
      · rw [if_pos e] at h; cases h; exact ⟨by omega, u, hu, e.symm⟩
      · rw [if_neg e] at h
        by_cases e2 : c ∈ u.1
        · rw [if_pos e2] at h; cases h
        · rw [if_neg e2] at h; obtain ⟨h1, h2⟩ := ih h; exact ⟨by omega, h2⟩
theorem ddL_some {us : List Us} {k n : Nat} {u : Us} (h : us[k]? = some u) (e : rdF (unF us k) u.1 u.2 = some n) : ddL us (k + 1) = ddL us k ++ [(n : Int)] := by simp only [ddL, h, e]
theorem ddL_none {us : List Us} {k : Nat} {u : Us} (h : us[k]? = some u) (e : rdF (unF us k) u.1 u.2 = none) : ddL us (k + 1) = ddL us k := by simp only [ddL, h, e]
theorem ddL_lt {us : List Us} : ∀ (k : Nat) (m : Int), m ∈ ddL us k → ∃ n : Nat, m = n ∧ n + 1 < k := by
  intro k
  induction k with
  | zero => intro m h; simp [ddL] at h
  | succ k ih =>
    intro m h
    cases hu : us[k]? with
    | none =>
      simp only [ddL, hu] at h
      obtain ⟨n, e, h2⟩ := ih m h
      exact ⟨n, e, by omega⟩
    | some u =>
      cases e : rdF (unF us k) u.1 u.2 with
      | none =>
        rw [ddL_none hu e] at h
        obtain ⟨n, e, h2⟩ := ih m h
        exact ⟨n, e, by omega⟩
      | some n =>
        rw [ddL_some hu e, List.mem_append, List.mem_singleton] at h
        rcases h with h | h
        · obtain ⟨n, e, h2⟩ := ih m h
          exact ⟨n, e, by omega⟩
        · exact ⟨n, h, by have := (unF_lt (rdF_some.1 e).2).1; omega⟩
theorem ddL_len (us : List Us) : ∀ k, (ddL us k).length ≤ k
  | 0 => by simp [ddL]
  | k + 1 => by
    have ih := ddL_len us k
    cases hu : us[k]? with
    | none => simp only [ddL, hu]; omega
    | some u =>
      cases e : rdF (unF us k) u.1 u.2 with
      | none => rw [ddL_none hu e]; omega
      | some n => rw [ddL_some hu e, List.length_append]; simp; exact ih
theorem dd_inv {us : List Us} {n : Nat} {x : Us} (hx : us[n]? = some x) : ∀ d, n + 1 + d ≤ us.length → (unF us (n + 1 + d) x.2 = some n ∧ (n : Int) ∉ ddL us (n + 1 + d) ∧ deadR x.2 (us.drop (n + 1)) = deadR x.2 (us.drop (n + 1 + d))) ∨ (unF us (n + 1 + d) x.2 ≠ some n ∧ ((n : Int) ∈ ddL us (n + 1 + d) ↔ deadR x.2 (us.drop (n + 1)) = true)) := by
  intro d
  induction d with
  | zero =>
    intro _
    exact .inl ⟨by simp [unF, hx], fun h => by obtain ⟨m, e, h2⟩ := ddL_lt _ _ h; omega, rfl⟩
  | succ d ih =>
    intro hd
    have ih := ih (by omega)
    have ek : n + 1 + (d + 1) = (n + 1 + d) + 1 := rfl
    rw [ek]
    obtain ⟨k, hk⟩ : ∃ k, n + 1 + d = k := ⟨_, rfl⟩
    rw [hk] at ih ⊢
    obtain ⟨u, hu⟩ := get_some (xs := us) (k := k) (by omega)
    have hnext : ∀ c, unF us (k + 1) c = if c = u.2 then some k else if c ∈ u.1 then none else unF us k c := fun c => by simp only [unF, hu]
    have hU : unF us k u.2 = some n → u.2 = x.2 := fun h => by
      obtain ⟨-, y, hy, e⟩ := unF_lt h
      rw [hx] at hy; cases hy; exact e.symm
    have happ : (n : Int) ∈ ddL us (k + 1) ↔ (n : Int) ∈ ddL us k ∨ (u.2 ∉ u.1 ∧ unF us k u.2 = some n) := by
      cases e : rdF (unF us k) u.1 u.2 with
      | none =>
        rw [ddL_none hu e]
        refine ⟨.inl, ?_⟩
        rintro (h | h)
        · exact h
        · have := rdF_some.2 h; rw [e] at this; cases this
      | some m =>
        rw [ddL_some hu e, List.mem_append, List.mem_singleton]
        constructor
        · rintro (h | h)
          · exact .inl h
          · obtain rfl : n = m := by omega
            exact .inr (rdF_some.1 e)
        · rintro (h | h)
          · exact .inl h
          · have := rdF_some.2 h; rw [e] at this; cases this; exact .inr rfl
    rcases ih with ⟨a1, a2, a3⟩ | ⟨b1, b2⟩
    · by_cases c1 : x.2 ∈ u.1
      · refine .inr ⟨?_, ?_⟩
        · rw [hnext]
          by_cases e : x.2 = u.2
          · rw [if_pos e]; intro h; have := Option.some.inj h; omega
          · rw [if_neg e, if_pos c1]; simp
        · rw [happ, a3, deadR_next hu, if_pos c1]
          refine ⟨?_, fun h => by cases h⟩
          rintro (h | ⟨h1, h2⟩)
          · exact absurd h a2
          · exact absurd (by rw [hU h2]; exact c1) h1
      · by_cases c2 : u.2 = x.2
        · refine .inr ⟨?_, ?_⟩
          · rw [hnext, if_pos c2.symm]; intro h; have := Option.some.inj h; omega
          · rw [happ, a3, deadR_next hu, if_neg c1, if_pos c2]
            exact ⟨fun _ => rfl, fun _ => .inr ⟨by rw [c2]; exact c1, by rw [c2]; exact a1⟩⟩
        · refine .inl ⟨?_, fun h => ?_, ?_⟩
          · rw [hnext, if_neg (Ne.symm c2), if_neg c1]; exact a1
          · rcases happ.1 h with h | ⟨-, h⟩
            · exact a2 h
            · exact c2 (hU h)
          · rw [a3, deadR_next hu, if_neg c1, if_neg c2]
    · refine .inr ⟨?_, ?_⟩
      · rw [hnext]
        by_cases e : x.2 = u.2
        · rw [if_pos e]; intro h; have := Option.some.inj h; omega
        · rw [if_neg e]
          by_cases c1 : x.2 ∈ u.1
          · rw [if_pos c1]; simp
          · rw [if_neg c1]; exact b1
      · rw [happ, ← b2]
        refine ⟨?_, .inl⟩
        rintro (h | ⟨-, h⟩)
        · exact h
        · exact absurd (hU h ▸ h) b1
theorem dd_mem {us : List Us} {n : Nat} (hn : n < us.length) : (n : Int) ∈ ddL us us.length ↔ deadB us n = true := by
  obtain ⟨x, hx⟩ := get_some (xs := us) (k := n) hn
  have h := dd_inv hx (us.length - (n + 1)) (by omega)
  rw [show n + 1 + (us.length - (n + 1)) = us.length by omega] at h
  have e : deadB us n = deadR x.2 (us.drop (n + 1)) := by unfold deadB; rw [hx]
  rw [e]
  rcases h with ⟨-, a2, a3⟩ | ⟨-, b2⟩
  · rw [a3, List.drop_eq_nil_of_le (Nat.le_refl _)]
    exact ⟨fun h => absurd h a2, fun h => by cases h⟩
  · exact b2
theorem asc_dd (us : List Us) : ascL (ddL us us.length) = ddTo us us.length := by
  rw [ascL_fl (N := us.length) (fun x hx => by obtain ⟨n, rfl, h⟩ := ddL_lt _ _ hx; omega)]
  unfold fl ddTo
  congr 1
  refine List.filter_congr (fun j hj => ?_)
  rw [Bool.eq_iff_iff, decide_eq_true_eq]
  exact dd_mem (List.mem_range.1 hj)

set_option linter.unusedVariables false in
set_option linter.unusedSimpArgs false in
set_option maxRecDepth 100000 in
set_option maxHeartbeats 4000000 in
theorem DeadInstances_any (v : Value) (ars : List Arr) (ps : List Pt) (w : World) (hp : PrR w v ars ps) :
    Calls Tryz.prog 25 #[v] w fun e w' => (∃ v', e = .returned v' ∧ IntsOwn w.heap.size w' v' (ddB ars ps)) ∧ Ext w w' := by
  obtain ⟨i0, hi, hz0, hz1, hz2⟩ := info_parts infoInt
  obtain ⟨qa, ca, qp, cp, rfl, -, -, ha, hps⟩ := hp.parts
  have HA := Lib.hid ha; have HPS := Lib.hid hps
  have hmm := @run_makeMap Tryz.prog
  clear hp ha hps
  go_enter Tryz.func25, Tryz.ntmps25
  go_wp2_with (fail)
  refine (programOf_any qa qp _ ca _ cp ars ps _ rfl rfl (HA.out.ext ((Ext.refl w).alloc _)) (HPS.out.ext ((Ext.refl w).alloc _))).mono ?_
  rintro e w1 ⟨⟨v, rfl, h0, h1⟩, hE⟩
  have HE := Lib.hid (((Ext.refl w).alloc _).trans hE)
  clear hE
  obtain ⟨B0, hB0⟩ : ∃ B0, (w.alloc (.cells #[.slice qa ars.length ca, .slice qp ps.length cp] 32)).heap.size = B0 := ⟨_, rfl⟩
  rw [hB0] at h1
  have hform : ∃ mo T q1 n1 c1 q2 M c2, ∃ es : List Ev, v = .agg #[.map mo, .int .i64 T, .slice q1 n1 c1, .slice q2 M c2] ∧ es.length = M ∧ M ≤ 120 ∧ EvsOwn B0 w1 (.slice q2 M c2) es ∧ (∀ u ∈ es.map (·.2), u.1.length ≤ 1000) ∧ (∀ u ∈ es.map (·.2), (∀ c ∈ u.1, 0 ≤ c ∧ c ≤ 1048576) ∧ 0 ≤ u.2 ∧ u.2 ≤ 1048576) ∧ ascL (ddL (es.map (·.2)) M) = ddB ars ps := by
    cases hb : progB ars ps with
    | false => exact ⟨_, _, _, _, _, _, _, _, [], h0 hb, rfl, by omega, ⟨[], World.ownsRow_nil _ _ _ _, fun i x h => by simp at h⟩, by simp, by simp, by unfold ddB; rw [hb]; simp [ddL, ascL, Lib.compact, Lib.compactUpTo]⟩
    | true =>
      obtain ⟨Bm, D, q1, c1, q2, c2, rfl, -, -, -, -, he⟩ := h1 hb
      exact ⟨_, _, _, _, _, _, _, _, evsOf ars ps, rfl, rfl, by have := insM_120 hb; simpa [evsOf] using this, he, ev_reads hb, fun u hu => by
        have h1 := ev_cells hb u hu
        have h2 := tot_lt hb
        exact ⟨fun c hc => by have := h1.1 c hc; omega, by omega, by omega⟩, by rw [← usesM_ev, show (evsOf ars ps).length = (usesM ars ps).length by rw [usesM_ev, List.length_map], asc_dd]; unfold ddB; rw [if_pos hb, usesM_len]⟩
  obtain ⟨mo, T, q1, n1, c1, q2, M, c2, es, rfl, hM, hM120, hev, hrl, hcb, hans⟩ := hform
  obtain ⟨us, hus⟩ : ∃ us, es.map (·.2) = us := ⟨_, rfl⟩
  rw [hus] at hrl hcb hans
  have HM := Lib.hid hM; have HEV := Lib.hid hev; have HANS := Lib.hid hans; have HUS := Lib.hid hus; have HRL := Lib.hid hrl; have HCB := Lib.hid hcb
  clear h0 h1 hM hev hans hB0 hrl hcb hus
  go_wp2
  clear hmm
  obtain ⟨W0, hW0⟩ : ∃ W0, w1.alloc (.cells #[.map mo, .int .i64 T, .slice q1 n1 c1, .slice q2 M c2] 88) = W0 := ⟨_, rfl⟩
  have X0 : Ext w1 W0 := by rw [← hW0]; exact (Ext.refl w1).alloc _
  have hs0 : W0.heap.size = w1.heap.size + 1 := by rw [← hW0]; simp
  have E0 : Hid (Ext w W0) := Lib.hid (HE.out.trans X0)
  have HEV0 := Lib.hid (HEV.out.ext X0)
  obtain ⟨W2, hW2⟩ : ∃ W2, W0.alloc (.map #[] 0) = W2 := ⟨_, rfl⟩
  have X2 : Hid (Ext W0 W2) := Lib.hid (by rw [← hW2]; exact (Ext.refl W0).alloc _)
  have hs2 : W2.heap.size = w1.heap.size + 1 + 1 := by rw [← hW2]; simp [hs0]
  have M2 : Hid (IMp W2 (w1.heap.size + 1) 0 (vF (unF us 0))) := Lib.hid (by
    have h := IMp.made W0
    rw [hs0] at h
    rw [← hW2]
    have e : vF (unF us 0) = (fun _ => none) := by funext x; simp [vF, unF]
    rw [e]; exact h)
  have HS2 := Lib.hid hs2; have HS0 := Lib.hid hs0
  try rw [hW0]
  try rw [hW2]
  clear hW0 hW2 X0 hs2 hs0
  obtain ⟨MB, hMB⟩ : ∃ MB, w1.heap.size + 1 = MB := ⟨_, rfl⟩
  rw [hMB] at M2 HS2 HS0 ⊢
  clear hMB
  go_loopw [6, 22] (fun ov iv wr => ∃ (k m nM : Nat) (po : Option Addr) (co : Nat), k ≤ M ∧ iv = .int .i64 k ∧ ov = .slice po m co ∧ (ddL us k).length = m ∧ nM ≤ k ∧ wr.ownsRow W2.heap.size 3 1 (.slice po m co) m ((ddL us k).map (Value.int .i64)) ∧ IMp wr MB nM (vF (unF us k)) ∧ Ext W0 wr ∧ W2.heap.size ≤ wr.heap.size) (fun _ iv _ => M - (intOf iv).toNat)
  case atStart => exact ⟨0, 0, 0, none, 0, by omega, rfl, rfl, rfl, by omega, World.ownsRow_nil _ _ _ _, M2.out, X2.out, Nat.le_refl _⟩
  case round =>
    obtain ⟨k, m, nM, po, co, hk, rfl, rfl, hm, hnM, ho, hmp, hE, hsz⟩ := hrel
    have hm0 := ddL_len us k
    rw [hm] at hm0
    have HMM := Lib.hid hm; have HO := Lib.hid ho; have HMP := Lib.hid hmp; have HE2 := Lib.hid hE; have HSZ := Lib.hid hsz
    clear hm ho hmp hE hsz
    by_cases hlt : k < M
    · obtain ⟨e, he⟩ := get_some (xs := es) (k := k) (by rw [HM.out]; exact hlt)
      have hue : us[k]? = some e.2 := by rw [← HUS.out, List.getElem?_map, he]; rfl
      obtain ⟨o, g, d1, r, kk, rfl, hol, c0, c1', c2', c3, c4, -, hrd⟩ := HEV0.out.elem he
      obtain ⟨hcr, hw0, hw1⟩ := HCB.out e.2 (List.mem_of_getElem? hue)
      have hR1000 := HRL.out e.2 (List.mem_of_getElem? hue)
      obtain ⟨⟨ei, ej, ept⟩, rs, wv⟩ := e
      dsimp only at c0 c1' c2' c3 c4 hrd hcr hw0 hw1 hR1000
      obtain ⟨R, hR⟩ : ∃ R, rs.length = R := ⟨_, rfl⟩
      obtain ⟨pl, hpl⟩ : ∃ pl, ept.length = pl := ⟨_, rfl⟩
      rw [hR] at c3 hrd hR1000
      rw [hpl] at c2'
      replace c0 := HE2.out.keep c0; replace c1' := HE2.out.keep c1'; replace c2' := HE2.out.keep c2'; replace c3 := HE2.out.keep c3; replace c4 := HE2.out.keep c4
      have HUE := Lib.hid hue
      have HUN : Hid (vF (unF us (k + 1)) = updF (vF (rdF (unF us k) rs)) wv (.int .i64 (k : Int))) := Lib.hid (unF_next hue)
      have HRS := Lib.hid hrd.at; have HCR := Lib.hid hcr; have HRR := Lib.hid hR
      obtain ⟨fk, hfk⟩ : ∃ f, unF us k = f := ⟨_, rfl⟩
      have HFK := Lib.hid hfk
      rw [hfk] at HMP HUN
      have HM0 : Hid (IMp wr MB nM (vF (rdF fk (rs.take 0)))) := Lib.hid (by rw [List.take_zero, rdF_nil]; exact HMP.out)
      have hkI : (k : Int) < (M : Int) := by omega
      clear he hue hrd hcr hR hpl hfk
      go_wp2_with (fail)
      obtain ⟨wx, hwx⟩ : ∃ wx, wr.alloc (.cells #[.int .i64 (ei : Int), .int .i64 (ej : Int), .slice (some ⟨g, 0, none⟩) pl d1, .slice r R kk, .int .i64 wv] 93) = wx := ⟨_, rfl⟩
      have EX : Ext wr wx := by rw [← hwx]; exact (Ext.refl wr).alloc _
      have BX := Lib.hid (show wx.heap[wr.heap.size]? = some (.cells #[.int .i64 (ei : Int), .int .i64 (ej : Int), .slice (some ⟨g, 0, none⟩) pl d1, .slice r R kk, .int .i64 wv] 93 (0, 0)) by rw [← hwx]; exact blk_at rfl)
      have HEx := Lib.hid (HE2.out.trans EX); have HOx := Lib.hid (ownsRow_ext HO.out EX); have HMx := Lib.hid (HM0.out.ext EX)
      have HSx : Hid (W2.heap.size ≤ wx.heap.size) := Lib.hid (Nat.le_trans HSZ.out EX.size_le)
      obtain ⟨e0, e1, e2, e3, e4, -⟩ := blk5e BX.out
      obtain ⟨EB, hEB⟩ : ∃ EB, wr.heap.size = EB := ⟨_, rfl⟩
      have HEBM : Hid (MB < EB ∧ W2.heap.size ≤ EB) := Lib.hid (by have h1 := HMP.out.lt; have h2 := HSZ.out; omega)
      try rw [hwx]
      try rw [hEB]
      rw [hEB] at BX e0 e1 e2 e3 e4
      clear hwx EX HE2 HO HM0 HMP HSZ c0 c1' c2' c3 c4 hEB
      go_wp2
      clear e0 e1 e2 e3 e4
      go_loopw [30] (fun jv wr => ∃ j : Nat, j ≤ R ∧ jv = .int .i64 j ∧ wr.ownsRow W2.heap.size 3 1 (.slice po m co) m ((ddL us k).map (Value.int .i64)) ∧ IMp wr MB nM (vF (rdF fk (rs.take j))) ∧ wr.heap[EB]? = some (.cells #[.int .i64 (ei : Int), .int .i64 (ej : Int), .slice (some ⟨g, 0, none⟩) pl d1, .slice r R kk, .int .i64 wv] 93 (0, 0)) ∧ Ext W0 wr ∧ W2.heap.size ≤ wr.heap.size) (fun jv _ => R - (intOf jv).toNat)
      case atStart => exact ⟨0, by omega, rfl, HOx.out, HMx.out, BX.out, HEx.out, HSx.out⟩
      case round =>
        obtain ⟨j, hj, rfl, ho, hmp, hbx, hE, hsz⟩ := hrel
        clear HOx HMx BX HEx HSx
        have HO := Lib.hid ho; have HMP := Lib.hid hmp; have HBX := Lib.hid hbx; have HE2 := Lib.hid hE; have HSZ := Lib.hid hsz
        clear ho hmp hbx hE hsz
        by_cases hlt2 : j < R
        · obtain ⟨x, hx⟩ := get_some (xs := rs) (k := j) (by rw [HRR.out]; exact hlt2)
          obtain ⟨x0, x1⟩ := HCR.out x (List.mem_of_getElem? hx)
          obtain ⟨-, hcc⟩ := (HRS.out.ext HE2.out).cl
          obtain ⟨b, off, rfl, hcell⟩ := hcc j x hx
          have HNI : Hid (delF (vF (rdF fk (rs.take j))) x = vF (rdF fk (rs.take (j + 1)))) := Lib.hid (by rw [rdF_del, take_next hx])
          have hjI : (j : Int) < (R : Int) := by omega
          clear hx hcc
          go_wp2_with (first | (at_delete; refine del_I _ rfl _ _ _ _ rfl underWr rfl HMP.out rfl (wfI (by omega) (by omega)) ?_; intro w6 hmp6 hgrow6) | fail)
          have HMP6 : Hid (IMp w6 MB nM (vF (rdF fk (rs.take (j + 1))))) := Lib.hid (by rw [← HNI.out]; exact hmp6)
          have HO6 : Hid (w6.ownsRow W2.heap.size 3 1 (.slice po m co) m ((ddL us k).map (Value.int .i64))) := Lib.hid (row_lv HO.out (grown_lv hgrow6) (fun b hb hd => by have h1 := (HO.out.lt b hb).1; have h2 := HS2.out; omega))
          have HBX6 := Lib.hid ((grown_lv hgrow6).heap HBX.out (fun h => by have := HEBM.out; omega))
          have HE6 := Lib.hid (HE2.out.grown hgrow6 (fun b e => by have e2 := Option.some.inj e; have := HS0.out; omega))
          have hsz6 : W2.heap.size ≤ w6.heap.size := Nat.le_trans HSZ.out hgrow6.size
          clear hmp6 hgrow6 hcell
          go_wp2
          go_roundw
          case rel => exact ⟨j + 1, by omega, by go_num, HO6.out, HMP6.out, HBX6.out, HE6.out, hsz6⟩
          case measure => simp [intOf]; omega
        · obtain rfl : j = R := by omega
          obtain ⟨e0, e1, e2, e3, e4, -⟩ := blk5e HBX.out
          have HMR : Hid (IMp wr MB nM (vF (rdF fk rs))) := Lib.hid (by have h := HMP.out; rwa [List.take_of_length_le (by rw [HRR.out]; exact Nat.le_refl _)] at h)
          have hlk0 := HMR.out.lookOk (T := 102) (e := 3) underWr (zeroIn _) (wfI (c := wv) (by omega) (by omega))
          obtain ⟨gv, hgv⟩ : ∃ gv, rdF fk rs wv = gv := ⟨_, rfl⟩
          rw [show vF (rdF fk rs) wv = gv.map (fun (n : Nat) => .int .i64 (n : Int)) by unfold vF; rw [hgv]] at hlk0
          have HGV : Hid (rdF (unF us k) rs wv = gv) := Lib.hid (by rw [HFK.out]; exact hgv)
          clear hgv
          cases gv with
          | none =>
            have hlk : (Instr.lookup 102 (.map (some MB)) (.int .i64 wv) true).run Tryz.prog wr = .ok (.tuple #[.int .i64 0, .bool false]) wr := hlk0
            have HDL : Hid (ddL us (k + 1) = ddL us k) := Lib.hid (ddL_none HUE.out HGV.out)
            clear hlk0
            go_wp2_with (first | (at_mapUpdate; refine upd_I _ rfl _ _ _ _ _ rfl underWr rfl HMR.out (by unfold maxLen; omega) rfl rfl (wfI (by omega) (by omega)) ?_; intro w6 hmp6 hgrow6) | fail)
            have HMP6 : Hid (IMp w6 MB (nM + 1) (vF (unF us (k + 1)))) := Lib.hid (by rw [HUN.out]; exact hmp6)
            have HO6 : Hid (w6.ownsRow W2.heap.size 3 1 (.slice po m co) m ((ddL us (k + 1)).map (Value.int .i64))) := Lib.hid (by
              rw [HDL.out]
              exact row_lv HO.out (grown_lv hgrow6) (fun b hb hd => by have h1 := (HO.out.lt b hb).1; have h2 := HS2.out; omega))
            have HE6 := Lib.hid (HE2.out.grown hgrow6 (fun b e => by have e2 := Option.some.inj e; have := HS0.out; omega))
            have hsz6 : W2.heap.size ≤ w6.heap.size := Nat.le_trans HSZ.out hgrow6.size
            clear hmp6 hgrow6 e0 e1 e2 e3 e4 hlk
            go_wp2
            go_roundw
            case rel => exact ⟨k + 1, m, nM + 1, _, _, by omega, by go_num, rfl, by rw [HDL.out]; exact HMM.out, by omega, HO6.out, HMP6.out, HE6.out, hsz6⟩
            case measure => simp [intOf]; omega
          | some nn =>
            have hlk : (Instr.lookup 102 (.map (some MB)) (.int .i64 wv) true).run Tryz.prog wr = .ok (.tuple #[.int .i64 (nn : Int), .bool true]) wr := hlk0
            have HDL : Hid (ddL us (k + 1) = ddL us k ++ [(nn : Int)]) := Lib.hid (ddL_some HUE.out HGV.out)
            have hnn : nn < k := (unF_lt (rdF_some.1 HGV.out).2).1
            obtain ⟨X, hX⟩ : ∃ X, ddL us k = X := ⟨_, rfl⟩
            rw [hX] at HMM HO HDL
            have HOX := Lib.hid (ownsRow_ext HO.out ((Ext.refl wr).alloc (.cells #[.int .i64 (nn : Int)] 3)))
            have HBA := Lib.hid (((Ext.refl wr).alloc (.cells #[.int .i64 (nn : Int)] 3)).blk HBX.out)
            have HMA := Lib.hid (HMR.out.ext ((Ext.refl wr).alloc (.cells #[.int .i64 (nn : Int)] 3)))
            have hsz : W2.heap.size ≤ wr.heap.size := HSZ.out
            clear hX hlk0
            go_wp2_with (at_builtin; refine wpList_append_own_at _ rfl (.tmp 45) (.tmp 47) 27 rfl W2.heap.size 3 i0 (.int .i64 0) 1 8 Tryz.underlying27 hi hz0 hz1 hz2 rfl (by decide) (.slice po m co) m _ rfl HOX.out ⟨wr.heap.size, 0, none⟩ 1 1 [.int .i64 (nn : Int)] rfl rfl ?c1 ?c2 ?c3 ?c4 ?c5 ?_)
            case c1 => exact one_cell (by simp)
            case c2 => intro u hu; simp at hu; subst hu; rfl
            case c3 => unfold maxLen; omega
            case c4 => omega
            case c5 => simp; omega
            intro v' w5 hown' hgrow _ hat
            obtain ⟨po', co', rfl⟩ : ∃ po' co', v' = .slice po' (m + 1) co' := by
              rcases hown'.2 with ⟨rfl, hn0⟩ | ⟨g', cap, cur, e, _⟩
              · exact absurd hn0 (by omega)
              · exact ⟨_, cap, e⟩
            have HRW' : Hid (w5.ownsRow W2.heap.size 3 1 (.slice po' (m + 1) co') (m + 1) ((ddL us (k + 1)).map (Value.int .i64))) := Lib.hid (by rw [HDL.out, List.map_append]; simpa using hown')
            have HM1 : Hid ((ddL us (k + 1)).length = m + 1) := Lib.hid (by rw [HDL.out, List.length_append, HMM.out]; rfl)
            have HE5 := Lib.hid ((HE2.out.alloc (.cells #[.int .i64 (nn : Int)] 3)).grown hgrow (fun b hb => Nat.le_trans (by have := HS0.out; have := HS2.out; omega) (HOX.out.lt b hb).1))
            have HMP5 := Lib.hid (HMA.out.kept hgrow (fun e => by have h1 := (HOX.out.lt _ e.symm).1; have h2 := HS2.out; omega))
            have HBX5 := Lib.hid ((Lv.grown (D := fun b => b ≠ EB) hgrow (fun r hr _ => row_ne5' HOX.out HBA.out hr)).heap HBA.out (fun h => h rfl))
            have hsz5 : W2.heap.size ≤ w5.heap.size := Nat.le_trans hsz (Nat.le_trans ((Ext.refl wr).alloc (.cells #[.int .i64 (nn : Int)] 3)).size_le hgrow.size)
            clear hown' hgrow hat hlk e0 e1 e2 e3 e4
            obtain ⟨e0, e1, e2, e3, e4, -⟩ := blk5e HBX5.out
            go_wp2_with (first | (at_mapUpdate; refine upd_I _ rfl _ _ _ _ _ rfl underWr rfl HMP5.out (by unfold maxLen; omega) rfl rfl (wfI (by omega) (by omega)) ?_; intro w6 hmp6 hgrow6) | fail)
            have HMP6 : Hid (IMp w6 MB (nM + 1) (vF (unF us (k + 1)))) := Lib.hid (by rw [HUN.out]; exact hmp6)
            have HO6 : Hid (w6.ownsRow W2.heap.size 3 1 (.slice po' (m + 1) co') (m + 1) ((ddL us (k + 1)).map (Value.int .i64))) := Lib.hid (row_lv HRW'.out (grown_lv hgrow6) (fun b hb hd => by have h1 := (HRW'.out.lt b hb).1; have h2 := HS2.out; omega))
            have HE6 := Lib.hid (HE5.out.grown hgrow6 (fun b e => by have e2 := Option.some.inj e; have := HS0.out; omega))
            have hsz6 : W2.heap.size ≤ w6.heap.size := Nat.le_trans hsz5 hgrow6.size
            clear hmp6 hgrow6 e0 e1 e2 e3 e4
            go_wp2
            go_roundw
            case rel => exact ⟨k + 1, m + 1, nM + 1, _, _, by omega, by go_num, rfl, HM1.out, by omega, HO6.out, HMP6.out, HE6.out, hsz6⟩
            case measure => simp [intOf]; omega
    · obtain rfl : k = M := by omega
      have HI : Hid (IntsOwn W2.heap.size wr (.slice po m co) (ddL us k)) := Lib.hid (IntsOwn.mk HO.out HMM.out)
      go_wp2_with (fail)
      refine (ascending_any W2.heap.size po m co (ddL us k) _ HMM.out HI.out (by omega)).mono ?_
      rintro e w7 ⟨⟨v7, rfl, hv7⟩, hl7⟩
      have hsz1 : w.heap.size ≤ W2.heap.size := by have h1 := E0.out.size_le; have h2 := X2.out.size_le; omega
      have HV7 : Hid (IntsOwn w.heap.size w7 v7 (ddB ars ps)) := Lib.hid (by rw [← HANS.out]; exact hv7.weak hsz1)
      have E7 := Lib.hid (Ext.lvOld hl7 (E0.out.trans HE2.out) hsz1)
      clear hl7 hv7
      go_wp2
      go_ret
      exact ⟨⟨_, rfl, HV7.out⟩, E7.out⟩
end Go.Proofs.YtbcjllanigmioaaGreat

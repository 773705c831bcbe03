/- The texts G54 G56 I3, joined. No statement is proved here. -/
import Derived.Test.YtmhldhjpfeageabGreatK47
import Derived.Test.YtmhldhjpfeageabGreatK51
import Derived.Test.YtmhldhjpfeageabGreatK21
import Derived.Test.YtmhldhjpfeageabGreatK48
import Derived.BigQuiet
import Derived.Deep.QuietTactic
/- The program's DeadInstances. No statement is proved here. -/
namespace Go.Proofs.YtmhldhjpfeageabGreat
open Go.RowKit Go.Maps
theorem zeroIn (w : World) : (zeroValue 3).run Tryz.prog w = .ok (.int .i64 0) w := by kernel_rfl
theorem underWr : Tryz.prog.underlying 126 = some (.map 3 3) := by kernel_rfl
theorem del_I {ops : Array Oper} {rest : List Oper} {o : Oper} {a : Act} {Q : Exit → Act → World → Prop} (w : World) (hg : o.guard = none) (m x : Operand) (t e : TypeId) (hop : o.op = Op.call { callee := Callee.builtin Builtin.delete, args := #[m, x], argTypes := #[t, 3] })
  (ht : Tryz.prog.underlying t = some (.map 3 e)) {b n : Nat} {F : Int → Option Value} (hm : a.eval m = .map (some b)) (h : IMp w b n F) {c : Int} (hx : a.eval x = .int .i64 c)
  (hc : (Lit.int .i64 c).wf = true) (hK : ∀ w', IMp w' b n (delF F c) → w.grownBy w' (some b) → wpList Tryz.prog ops Q rest (a.put o.dst (.tuple #[])) w') :
  wpList Tryz.prog ops Q (o :: rest) a w := by
 refine wpList_plain hg fun K' hK' => ?_
 obtain ⟨w', hrun, r1, r2⟩ := h.del ht hc o.type
 unfold Oper.wp
 simp [execOp, hop, resolve, invoke, builtin, hm, hx, hrun, Result.andThen]
 exact hK' _ _ (hK w' r1 r2)
def vF (f : Int → Option Nat) : Int → Option Value := fun c => (f c).map (fun (n : Nat) => .int .i64 (n : Int))
end Go.Proofs.YtmhldhjpfeageabGreat
/- The program's sources and FlowSources. No statement is proved here. -/
namespace Go.Proofs.YtmhldhjpfeageabGreat
open Go.RowKit Go.Maps
theorem PtsOwn.lvB {B : Nat} {D : Nat → Prop} {w w' : World} {v : Value} {xss : List (List Int)} (h : PtsOwn B w v xss) (hv : Lv D w w') (hD : ∀ b, B ≤ b → b < w.heap.size → ¬ D b) : PtsOwn B w' v xss := by
 obtain ⟨vs, ho, he⟩ := h
 exact ⟨vs, row_lvB ho hv hD, fun i xs hi => by obtain ⟨u, h0, h1⟩ := he i xs hi; exact ⟨u, h0, row_lvB h1 hv hD⟩⟩
theorem lastW_upd {us : List Us} {k : Nat} {u : Us} (h : us[k]? = some u) : vF (lastW us (k + 1)) = updF (vF (lastW us k)) u.2 (.int .i64 (k : Int)) := by
 funext x
 unfold updF vF
 rw [lastW_next x h]
 by_cases e : x = u.2
 ·simp [e]
 ·simp [e]
set_option linter.unusedVariables false in
set_option linter.unusedSimpArgs false in
set_option maxRecDepth 100000 in
set_option maxHeartbeats 2000000 in
theorem of_any (MB nM : Nat) (f : Int → Option Nat) (q : Option Addr) (n c : Nat) (rs : List Int) (w : World) (hn : rs.length = n) (hn2 : n ≤ 1000) (hb : ∀ x ∈ rs, 0 ≤ x ∧ x ≤ 1048576) (hm : IMp w MB nM (vF f)) (hs : IntsAt w (.slice q n c) rs) :
  Calls Tryz.prog 102 #[.map (some MB), .slice q n c] w fun e w' => (∃ v', e = .returned v' ∧ IntsOwn w.heap.size w' v' (rs.map (fun x => srcI (f x)))) ∧ Ext w w' := by
 obtain ⟨i0, hi, hz0, hz1, hz2⟩ := info_parts infoInt
 obtain ⟨L, hL⟩ : ∃ L, rs.map (fun x => srcI (f x)) = L := ⟨_, rfl⟩
 rw [hL]
 have HLL : Hid (L.length = n) := Lib.hid (by rw [← hL, List.length_map, hn])
 have HLG : Hid (∀ (j : Nat) (c : Int), rs[j]? = some c → L[j]? = some (srcI (f c))) := Lib.hid (fun j c h => by rw [← hL, List.getElem?_map, h]; rfl)
 have HN := Lib.hid hn; have HB := Lib.hid hb; have HM := Lib.hid hm; have HS := Lib.hid hs
 clear hn hb hm hs hL
 go_enter Tryz.func102, Tryz.ntmps102
 go_wp2
 go_loopw [5, 12] (fun ov iv wr => ∃ (k : Nat) (po : Option Addr) (co : Nat), k ≤ n ∧ iv = .int .i64 k ∧ ov = .slice po k co ∧ wr.ownsRow w.heap.size 3 1 (.slice po k co) k ((L.take k).map (Value.int .i64)) ∧ Ext w wr) (fun _ iv _ => n - (intOf iv).toNat)
 case atStart => exact ⟨0, none, 0, by omega, rfl, rfl, World.ownsRow_nil _ _ _ _, Ext.refl w⟩
 case round =>
  obtain ⟨k, po, co, hk, rfl, rfl, ho, hE⟩ := hrel
  have HO := Lib.hid ho; have HE := Lib.hid hE
  clear ho hE
  by_cases hlt : k < n
  ·obtain ⟨x, hx⟩ := get_some (xs := rs) (k := k) (by rw [HN.out]; exact hlt)
   obtain ⟨x0, x1⟩ := HB.out x (List.mem_of_getElem? hx)
   obtain ⟨-, hcc⟩ := (HS.out.ext HE.out).cl
   obtain ⟨b, off, rfl, hcell⟩ := hcc k x hx
   have HLK := Lib.hid (HLG.out k x hx)
   have hlk0 := (HM.out.ext HE.out).lookOk (T := 126) (e := 3) underWr (zeroIn _) (wfI (c := x) (by omega) (by omega))
   rw [show vF f x = (f x).map (fun (n : Nat) => .int .i64 (n : Int)) from rfl] at hlk0
   obtain ⟨gv, hgv⟩ : ∃ gv, f x = gv := ⟨_, rfl⟩
   rw [hgv] at hlk0 HLK
   have hkI : (k : Int) < (n : Int) := by omega
   clear hx hcc hgv
   cases gv with
   | none =>
    have hlk : (Instr.lookup 126 (.map (some MB)) (.int .i64 x) true).run Tryz.prog wr = .ok (.tuple #[.int .i64 (0), .bool false]) wr := hlk0
    have HN1 : Hid (L.take (k + 1) = L.take k ++ [(-1 : Int)]) := Lib.hid (by rw [take_next HLK.out]; rfl)
    have HOX := Lib.hid (ownsRow_ext HO.out ((Ext.refl wr).alloc (.cells #[.int .i64 (-1)] 3)))
    have hsz : w.heap.size ≤ wr.heap.size := HE.out.size_le
    clear hlk0
    go_wp2_with (at_builtin; refine wpList_append_own_at _ rfl (.tmp 24) (.tmp 26) 39 rfl w.heap.size 3 i0 (.int .i64 0) 1 8 Tryz.underlying39 hi hz0 hz1 hz2 rfl (by decide) (.slice po k co) k _ rfl HOX.out ⟨wr.heap.size, 0, none⟩ 1 1 [.int .i64 (-1)] rfl rfl ?c1 ?c2 ?c3 ?c4 ?c5 ?_)
    case c1 => exact one_cell (by simp)
    case c2 => intro u hu; simp at hu; subst hu; rfl
    case c3 => unfold maxLen; omega
    case c4 => omega
    case c5 => simp; omega
    intro v' w5 hown' hgrow _ hat
    obtain ⟨po', co', rfl⟩ : ∃ po' co', v' = .slice po' (k + 1) co' := by
     rcases hown'.2 with ⟨rfl, hn0⟩ | ⟨g', cap, cur, e, _⟩
     ·exact absurd hn0 (by omega)
     ·exact ⟨_, cap, e⟩
    have HRW' : Hid (w5.ownsRow w.heap.size 3 1 (.slice po' (k + 1) co') (k + 1) ((L.take (k + 1)).map (Value.int .i64))) := Lib.hid (by rw [HN1.out, List.map_append]; simpa using hown')
    have HE5 := Lib.hid ((HE.out.alloc (.cells #[.int .i64 (-1)] 3)).grown hgrow (fun b hb => (HOX.out.lt b hb).1))
    clear hown' hgrow hat hlk hcell
    go_wp2
    go_roundw
    case rel => exact ⟨k + 1, _, _, by omega, by go_num, rfl, HRW'.out, HE5.out⟩
    case measure => simp [intOf]; omega
   | some nn =>
    have hlk : (Instr.lookup 126 (.map (some MB)) (.int .i64 x) true).run Tryz.prog wr = .ok (.tuple #[.int .i64 ((nn : Int)), .bool true]) wr := hlk0
    have HN1 : Hid (L.take (k + 1) = L.take k ++ [((nn : Int) : Int)]) := Lib.hid (by rw [take_next HLK.out]; rfl)
    have HOX := Lib.hid (ownsRow_ext HO.out ((Ext.refl wr).alloc (.cells #[.int .i64 ((nn : Int))] 3)))
    have hsz : w.heap.size ≤ wr.heap.size := HE.out.size_le
    clear hlk0
    go_wp2_with (at_builtin; refine wpList_append_own_at _ rfl (.tmp 24) (.tmp 26) 39 rfl w.heap.size 3 i0 (.int .i64 0) 1 8 Tryz.underlying39 hi hz0 hz1 hz2 rfl (by decide) (.slice po k co) k _ rfl HOX.out ⟨wr.heap.size, 0, none⟩ 1 1 [.int .i64 ((nn : Int))] rfl rfl ?c1 ?c2 ?c3 ?c4 ?c5 ?_)
    case c1 => exact one_cell (by simp)
    case c2 => intro u hu; simp at hu; subst hu; rfl
    case c3 => unfold maxLen; omega
    case c4 => omega
    case c5 => simp; omega
    intro v' w5 hown' hgrow _ hat
    obtain ⟨po', co', rfl⟩ : ∃ po' co', v' = .slice po' (k + 1) co' := by
     rcases hown'.2 with ⟨rfl, hn0⟩ | ⟨g', cap, cur, e, _⟩
     ·exact absurd hn0 (by omega)
     ·exact ⟨_, cap, e⟩
    have HRW' : Hid (w5.ownsRow w.heap.size 3 1 (.slice po' (k + 1) co') (k + 1) ((L.take (k + 1)).map (Value.int .i64))) := Lib.hid (by rw [HN1.out, List.map_append]; simpa using hown')
    have HE5 := Lib.hid ((HE.out.alloc (.cells #[.int .i64 ((nn : Int))] 3)).grown hgrow (fun b hb => (HOX.out.lt b hb).1))
    clear hown' hgrow hat hlk hcell
    go_wp2
    go_roundw
    case rel => exact ⟨k + 1, _, _, by omega, by go_num, rfl, HRW'.out, HE5.out⟩
    case measure => simp [intOf]; omega
  ·obtain rfl : k = n := by omega
   go_wp2
   go_ret
   exact ⟨⟨_, rfl, IntsOwn.mk (by have h := HO.out; rwa [List.take_of_length_le (by rw [HLL.out]; exact Nat.le_refl _)] at h) HLL.out⟩, HE.out⟩
set_option linter.unusedVariables false in
set_option linter.unusedSimpArgs false in
set_option maxRecDepth 100000 in
set_option maxHeartbeats 4000000 in
theorem sources_any (mo : Option Nat) (T : Int) (q1 : Option Addr) (n1 c1 : Nat) (q2 : Option Addr) (M c2 B0 : Nat) (es : List Ev) (us : List Us) (w : World) (hM : es.length = M) (hM120 : M ≤ 120) (hus : es.map (·.2) = us) (hev : EvsOwn B0 w (.slice q2 M c2) es)
  (hrl : ∀ u ∈ us, u.1.length ≤ 1000) (hcb : ∀ u ∈ us, (∀ c ∈ u.1, 0 ≤ c ∧ c ≤ 1048576) ∧ 0 ≤ u.2 ∧ u.2 ≤ 1048576) :
  Calls Tryz.prog 70 #[.agg #[.map mo, .int .i64 T, .slice q1 n1 c1, .slice q2 M c2]] w fun e w' => (∃ v' MB nM, e = .returned (.tuple #[v', .map (some MB)]) ∧ PtsOwn w.heap.size w' v' ((List.range M).map (srcB us)) ∧ IMp w' MB nM (vF (lastW us M)) ∧ nM ≤ M ∧ w.heap.size ≤ MB) ∧ Ext w w' := by
 obtain ⟨j0, hj0, hj1, hj2, hj3⟩ := info_parts infoSS
 have hmm := @run_makeMap Tryz.prog
 have HM := Lib.hid hM; have HUS := Lib.hid hus; have HRL := Lib.hid hrl; have HCB := Lib.hid hcb; have HEV := Lib.hid hev
 clear hM hus hev hrl hcb
 go_enter Tryz.func70, Tryz.ntmps70
 go_wp2
 clear hmm
 obtain ⟨W0, hW0⟩ : ∃ W0, w.alloc (.cells #[.map mo, .int .i64 T, .slice q1 n1 c1, .slice q2 M c2] 75) = W0 := ⟨_, rfl⟩
 have E0 : Hid (Ext w W0) := Lib.hid (by rw [← hW0]; exact (Ext.refl w).alloc _)
 have hs0 : W0.heap.size = w.heap.size + 1 := by rw [← hW0]; simp
 have HEV0 := Lib.hid (HEV.out.ext E0.out)
 obtain ⟨W2, hW2⟩ : ∃ W2, W0.alloc (.map #[] 0) = W2 := ⟨_, rfl⟩
 have X2 : Hid (Ext W0 W2) := Lib.hid (by rw [← hW2]; exact (Ext.refl W0).alloc _)
 have hs2 : W2.heap.size = w.heap.size + 1 + 1 := by rw [← hW2]; simp [hs0]
 have M2 : Hid (IMp W2 (w.heap.size + 1) 0 (vF (lastW us 0))) := Lib.hid (by
  have h := IMp.made W0
  rw [hs0] at h
  rw [← hW2]
  have e : vF (lastW us 0) = (fun _ => none) := by funext x; simp [vF, lastW]
  rw [e]; exact h)
 have HS2 := Lib.hid hs2; have HS0 := Lib.hid hs0
 try rw [hW0]
 try rw [hW2]
 clear hW0 hW2 hs2 hs0
 obtain ⟨MB, hMB⟩ : ∃ MB, w.heap.size + 1 = MB := ⟨_, rfl⟩
 rw [hMB] at M2 HS2 HS0 ⊢
 clear hMB
 go_loopw [5, 12] (fun ov iv wr => ∃ (k nM : Nat) (po : Option Addr) (co : Nat), k ≤ M ∧ iv = .int .i64 k ∧ ov = .slice po k co ∧ nM ≤ k ∧ PtsOwn W2.heap.size wr (.slice po k co) ((List.range k).map (srcB us)) ∧ IMp wr MB nM (vF (lastW us k)) ∧ Ext W0 wr ∧ W2.heap.size ≤ wr.heap.size) (fun _ iv _ => M - (intOf iv).toNat)
 case atStart => exact ⟨0, 0, none, 0, by omega, rfl, rfl, by omega, ⟨[], World.ownsRow_nil _ _ _ _, fun i x h => by simp at h⟩, M2.out, X2.out, Nat.le_refl _⟩
 case round =>
  obtain ⟨k, nM, po, co, hk, rfl, rfl, hnM, ho, hmp, hE, hsz⟩ := hrel
  have HO := Lib.hid ho; have HMP := Lib.hid hmp; have HE2 := Lib.hid hE; have HSZ := Lib.hid hsz
  clear ho hmp hE hsz
  by_cases hlt : k < M
  ·obtain ⟨e, he⟩ := get_some (xs := es) (k := k) (by rw [HM.out]; exact hlt)
   have hue : us[k]? = some e.2 := by rw [← HUS.out, List.getElem?_map, he]; rfl
   obtain ⟨o, g, d1, r, kk, rfl, hol, c0, c1', c2', c3, c4, -, hrd⟩ := HEV0.out.elem he
   obtain ⟨hcr, hw0, hw1⟩ := HCB.out e.2 (List.mem_of_getElem? hue)
   have hR1000 := HRL.out e.2 (List.mem_of_getElem? hue)
   obtain ⟨⟨ei, ej, ept⟩, rs, wv⟩ := e
   dsimp only at c0 c1' c2' c3 c4 hrd hcr hw0 hw1 hR1000
   obtain ⟨R, hR⟩ : ∃ R, rs.length = R := ⟨_, rfl⟩
   obtain ⟨pl, hpl⟩ : ∃ pl, ept.length = pl := ⟨_, rfl⟩
   rw [hR] at c3 hrd hR1000
   rw [hpl] at c2'
   replace c0 := HE2.out.keep c0; replace c1' := HE2.out.keep c1'; replace c2' := HE2.out.keep c2'; replace c3 := HE2.out.keep c3; replace c4 := HE2.out.keep c4
   have HUN : Hid (vF (lastW us (k + 1)) = updF (vF (lastW us k)) wv (.int .i64 (k : Int))) := Lib.hid (lastW_upd hue)
   have HSB : Hid (srcB us k = rs.map (fun c => srcI (lastW us k c))) := Lib.hid (srcB_at hue)
   have HRS := Lib.hid (hrd.at.ext HE2.out); have HCR := Lib.hid hcr; have HRR := Lib.hid hR
   obtain ⟨fk, hfk⟩ : ∃ f, lastW us k = f := ⟨_, rfl⟩
   rw [hfk] at HMP HUN HSB
   have hkI : (k : Int) < (M : Int) := by omega
   clear he hue hrd hcr hR hpl hfk
   go_wp2_with (fail)
   obtain ⟨wx, hwx⟩ : ∃ wx, wr.alloc (.cells #[.int .i64 (ei : Int), .int .i64 (ej : Int), .slice (some ⟨g, 0, none⟩) pl d1, .slice r R kk, .int .i64 wv] 79) = wx := ⟨_, rfl⟩
   have EX : Ext wr wx := by rw [← hwx]; exact (Ext.refl wr).alloc _
   have BX := Lib.hid (show wx.heap[wr.heap.size]? = some (.cells #[.int .i64 (ei : Int), .int .i64 (ej : Int), .slice (some ⟨g, 0, none⟩) pl d1, .slice r R kk, .int .i64 wv] 79 (0, 0)) by rw [← hwx]; exact blk_at rfl)
   have HEx := Lib.hid (HE2.out.trans EX); have HOx := Lib.hid (HO.out.ext EX); have HMx := Lib.hid (HMP.out.ext EX); have HRx := Lib.hid (HRS.out.ext EX)
   have HSx : Hid (W2.heap.size ≤ wx.heap.size) := Lib.hid (Nat.le_trans HSZ.out EX.size_le)
   obtain ⟨e0, e1, e2, e3, e4, -⟩ := blk5e BX.out
   obtain ⟨EB, hEB⟩ : ∃ EB, wr.heap.size = EB := ⟨_, rfl⟩
   have HEBM : Hid (MB < EB ∧ W2.heap.size ≤ EB) := Lib.hid (by have h1 := HMP.out.lt; have h2 := HSZ.out; omega)
   try rw [hwx]
   try rw [hEB]
   rw [hEB] at BX e0 e1 e2 e3 e4
   clear hwx EX HE2 HO HMP HSZ HRS c0 c1' c2' c3 c4 hEB
   go_wp2_with (fail)
   refine (of_any MB nM fk r R kk rs _ HRR.out hR1000 HCR.out HMx.out HRx.out).mono ?_
   rintro e w5 ⟨⟨v5, rfl, hv5⟩, hE5⟩
   rw [← HSB.out] at hv5
   have HLS : Hid ((srcB us k).length = R) := Lib.hid (by rw [HSB.out, List.length_map, HRR.out])
   obtain ⟨p5, c5, rfl⟩ := ints_form hv5
   rw [HLS.out] at hv5 ⊢
   have HOA := Lib.hid ((HOx.out.ext hE5).ext ((Ext.refl w5).alloc (.cells #[.slice p5 R c5] 39)))
   have HBA := Lib.hid (((Ext.refl w5).alloc (.cells #[.slice p5 R c5] 39)).blk (hE5.blk BX.out))
   have HMA := Lib.hid ((HMx.out.ext hE5).ext ((Ext.refl w5).alloc (.cells #[.slice p5 R c5] 39)))
   have EA := Lib.hid ((HEx.out.trans hE5).alloc (.cells #[.slice p5 R c5] 39))
   have HEL : Hid (IntsOwn W2.heap.size (w5.alloc (.cells #[.slice p5 R c5] 39)) (.slice p5 R c5) (srcB us k)) := Lib.hid (IntsOwn.ext (IntsOwn.weak hv5 HSx.out) ((Ext.refl _).alloc _))
   have hsz : W2.heap.size ≤ w5.heap.size := Nat.le_trans HSx.out hE5.size_le
   have HLK : Hid (((List.range k).map (srcB us)).length = k) := Lib.hid (by simp)
   obtain ⟨vs, ho, hhe⟩ := HOA.out
   rw [HLK.out] at ho
   have hvl := ho.1
   rw [Nat.mul_one] at hvl
   have HHE := Lib.hid hhe
   clear hhe hv5 hE5 HOx HMx HEx HRx BX e0 e1 e2 e3 e4
   go_wp2_with (at_builtin; refine wpList_append_own_at _ rfl (.tmp 17) (.tmp 22) 124 rfl W2.heap.size 39 j0 (.slice none 0 0) 1 24 underSS hj0 hj1 hj2 hj3 rfl (by decide) (.slice po k co) k vs rfl ho ⟨w5.heap.size, 0, none⟩ 1 1 [.slice p5 R c5] rfl rfl ?e1 ?e2 ?e3 ?e4 ?e5 ?_)
   case e1 => exact one_cell (by simp)
   case e2 => intro u hu; simp at hu; subst hu; rfl
   case e3 => unfold maxLen; omega
   case e4 => omega
   case e5 => simp; omega
   intro v2 w6 hown2 hgrow2 hnil2 hat2
   obtain ⟨po', co', rfl⟩ : ∃ po' co', v2 = .slice po' (k + 1) co' := by
    rcases hown2.2 with ⟨rfl, hn0⟩ | ⟨g', cap, cur, e, _⟩
    ·exact absurd hn0 (by omega)
    ·exact ⟨_, cap, e⟩
   have HRS6 : Hid (PtsOwn W2.heap.size w6 (.slice po' (k + 1) co') ((List.range (k + 1)).map (srcB us))) := Lib.hid (by
    rw [List.range_succ, List.map_append]
    exact PtsOwn.push HLK.out HHE.out hvl hown2 hgrow2 (own_tag ho) HEL.out)
   have HMP6 := Lib.hid (HMA.out.kept hgrow2 (fun e => by have h1 := (ho.lt _ e.symm).1; have h2 := HS2.out; omega))
   have HBX6 := Lib.hid (Kt.grown hgrow2 (own_tag ho) EB _ _ _ (by decide) HBA.out)
   have HE6 := Lib.hid (EA.out.grown hgrow2 (fun b hb => Nat.le_trans (by have := HS0.out; have := HS2.out; omega) (ho.lt b hb).1))
   have hsz6 : W2.heap.size ≤ w6.heap.size := Nat.le_trans hsz (Nat.le_trans ((Ext.refl w5).alloc (.cells #[.slice p5 R c5] 39)).size_le hgrow2.size)
   clear hown2 hgrow2 hnil2 hat2 ho hvl HHE HOA HMA HBA EA HEL
   obtain ⟨e0, e1, e2, e3, e4, -⟩ := blk5e HBX6.out
   go_wp2_with (first | (at_mapUpdate; refine upd_I _ rfl _ _ _ _ _ rfl underWr rfl HMP6.out (by unfold maxLen; omega) rfl rfl (wfI (by omega) (by omega)) ?_; intro w7 hmp7 hgrow7) | fail)
   have HMP7 : Hid (IMp w7 MB (nM + 1) (vF (lastW us (k + 1)))) := Lib.hid (by rw [HUN.out]; exact hmp7)
   have HRS7 := Lib.hid (HRS6.out.lvB (grown_lv hgrow7) (fun b h1 h2 e => by have := HS2.out; omega))
   have HE7 := Lib.hid (HE6.out.grown hgrow7 (fun b e => by have e2 := Option.some.inj e; have := HS0.out; omega))
   have hsz7 : W2.heap.size ≤ w7.heap.size := Nat.le_trans hsz6 hgrow7.size
   clear hmp7 hgrow7 e0 e1 e2 e3 e4
   go_wp2
   go_roundw
   case rel => exact ⟨k + 1, nM + 1, _, _, by omega, by go_num, rfl, by omega, HRS7.out, HMP7.out, HE7.out, hsz7⟩
   case measure => simp [intOf]; omega
  ·obtain rfl : k = M := by omega
   have hsz1 : w.heap.size ≤ W2.heap.size := by have h1 := E0.out.size_le; have h2 := X2.out.size_le; omega
   have HR := Lib.hid (HO.out.weak hsz1)
   go_wp2
   go_ret2
   exact ⟨⟨_, _, _, rfl, HR.out, HMP.out, hnM, by have := HS0.out; have := E0.out.size_le; omega⟩, E0.out.trans HE2.out⟩
end Go.Proofs.YtmhldhjpfeageabGreat
/- The program's find and InstanceCells. No statement is proved here. -/
namespace Go.Proofs.YtmhldhjpfeageabGreat
open Go.RowKit Go.Maps
theorem eqB_iff2 {xs ys : List Int} : eqB xs ys = true ↔ xs = ys := by simp [eqB]
def evEq (x : Ev) (i j : Int) (pt : List Int) : Bool := (((x.1.1 : Int) == i) && ((x.1.2.1 : Int) == j)) && eqB x.1.2.2 pt
theorem evEq_iff {x : Ev} {i j : Int} {pt : List Int} : evEq x i j pt = true ↔ (x.1.1 : Int) = i ∧ (x.1.2.1 : Int) = j ∧ x.1.2.2 = pt := by
 unfold evEq
 rw [Bool.and_eq_true, Bool.and_eq_true, eqB_iff2, beq_iff_eq, beq_iff_eq, and_assoc]
set_option maxHeartbeats 1000000 in
theorem same_any (i j i2 j2 : Int) (s t : Value) (xs ys : List Int) (w : World) (hs : IntsAt w s xs) (ht : IntsAt w t ys) :
  Calls Tryz.prog 94 #[.agg #[.int .i64 i, .int .i64 j, s], .agg #[.int .i64 i2, .int .i64 j2, t]] w fun e w' => e = .returned (.bool (((i == i2) && (j == j2)) && eqB xs ys)) ∧ Ext w w' := by
 obtain ⟨p, c, rfl, -, -⟩ := id hs
 obtain ⟨q, d, rfl, -, -⟩ := id ht
 have HS := Lib.hid hs; have HT := Lib.hid ht; clear hs ht
 cases h1 : (i == i2) with
 | false =>
  go_enter Tryz.func94, Tryz.ntmps94
  go_wp2
  go_ret
  exact ⟨ret_bool (by simp), ((Ext.refl w).alloc _).alloc _⟩
 | true =>
  cases h2 : (j == j2) with
  | false =>
   go_enter Tryz.func94, Tryz.ntmps94
   go_wp2
   go_ret
   exact ⟨ret_bool (by simp), ((Ext.refl w).alloc _).alloc _⟩
  | true =>
   go_enter Tryz.func94, Tryz.ntmps94
   go_wp2_with (fail)
   refine (slicesEqual_any _ _ xs ys _ (HS.out.ext (((Ext.refl w).alloc _).alloc _)) (HT.out.ext (((Ext.refl w).alloc _).alloc _))).mono ?_
   obtain ⟨eb, heb⟩ : ∃ b, eqB xs ys = b := ⟨_, rfl⟩
   rw [heb]
   rintro e W1 ⟨rfl, hE⟩
   have E1 := Lib.hid ((((Ext.refl w).alloc _).alloc _).trans hE)
   have HEB := Lib.hid heb
   clear hE heb
   go_wp2
   go_ret
   exact ⟨ret_bool (by rw [HEB.out]; rfl), E1.out⟩
set_option maxHeartbeats 1000000 in
theorem find1_any (g : Nat) (i j i2 j2 wv : Int) (s t u3 : Value) (xs ys : List Int) (w : World) (hb : w.heap[g]? = some (.cells #[.int .i64 i2, .int .i64 j2, t] 45 (0, 0))) (hs : IntsAt w s xs) (ht : IntsAt w t ys) :
  Calls Tryz.prog 93 #[.agg #[.int .i64 i, .int .i64 j, s, u3, .int .i64 wv], .pointer (some ⟨g, 0, none⟩)] w fun e w' => e = .returned (.bool (((i == i2) && (j == j2)) && eqB xs ys)) ∧ Ext w w' := by
 have HS := Lib.hid hs; have HT := Lib.hid ht; clear hs ht
 obtain ⟨z0, z1, z2⟩ := blk3 hb
 have hl := lt_of_block hb
 have HB := Lib.hid hb
 clear hb
 go_enter Tryz.func93, Tryz.ntmps93
 go_wp2_with (fail)
 refine (same_any i j i2 j2 _ _ xs ys _ (HS.out.ext ((Ext.refl w).alloc _)) (HT.out.ext ((Ext.refl w).alloc _))).mono ?_
 rintro e W1 ⟨rfl, hE⟩
 have E1 := Lib.hid (((Ext.refl w).alloc _).trans hE)
 clear hE
 go_wp2
 go_ret
 exact ⟨rfl, E1.out⟩
set_option maxHeartbeats 2000000 in
theorem indexFunc_any (B : Nat) (q : Option Addr) (M c g : Nat) (es : List Ev) (i j : Int) (t : Value) (pt : List Int) (w : World) (hM : es.length = M) (hM4 : M ≤ 1000) (hev : EvsOwn B w (.slice q M c) es) (hb : w.heap[g]? = some (.cells #[.int .i64 i, .int .i64 j, t] 45 (0, 0))) (ht : IntsAt w t pt) :
  Calls Tryz.prog 92 #[.slice q M c, .func (.func 93) #[] #[.pointer (some ⟨g, 0, none⟩)]] w fun e w' =>
   ((∃ (k : Nat) (x : Ev), e = .returned (.int .i64 k) ∧ es[k]? = some x ∧ evEq x i j pt = true) ∨ (e = .returned (.int .i64 (-1)) ∧ ∀ x ∈ es, evEq x i j pt = false)) ∧ Ext w w' := by
 have HM := Lib.hid hM; have HEV := Lib.hid hev; have HB := Lib.hid hb; have HT := Lib.hid ht
 clear hM hev hb ht
 go_enter Tryz.func92, Tryz.ntmps92
 go_wp2
 go_loopw [8] (fun iv wr => ∃ k : Nat, k ≤ M ∧ iv = .int .i64 k ∧ (∀ m x, m < k → es[m]? = some x → evEq x i j pt = false) ∧ Ext w wr) (fun iv _ => M - (intOf iv).toNat)
 case atStart => exact ⟨0, by omega, rfl, fun m x h => absurd h (by omega), Ext.refl w⟩
 case round =>
  obtain ⟨k, hk, rfl, hall, hE⟩ := hrel
  have HA := Lib.hid hall; have HE := Lib.hid hE
  clear hall hE
  by_cases hlt : k < M
  ·obtain ⟨x, hx⟩ := get_some (xs := es) (k := k) (by rw [HM.out]; exact hlt)
   obtain ⟨o, gp, d1, r, kk, rfl, hol, c0, c1, c2, c3, c4, hpt, -⟩ := (HEV.out.ext HE.out).elem hx
   have HX := Lib.hid hx; have HP := Lib.hid hpt.at
   obtain ⟨bq, hbq⟩ : ∃ b, evEq x i j pt = b := ⟨_, rfl⟩
   have HBQ := Lib.hid hbq
   have hkI : (k : Int) < (M : Int) := by omega
   clear hx hpt hbq
   go_wp2_with (fail)
   refine (find1_any g x.1.1 x.1.2.1 i j x.2.2 _ t _ x.1.2.2 pt _ (HE.out.blk HB.out) HP.out (HT.out.ext HE.out)).mono ?_
   rw [show ((((x.1.1 : Int) == i) && ((x.1.2.1 : Int) == j)) && eqB x.1.2.2 pt) = bq from HBQ.out]
   rintro e w1 ⟨rfl, hE1⟩
   have E1 := Lib.hid (HE.out.trans hE1)
   clear hE1 c0 c1 c2 c3 c4
   cases bq with
   | true =>
    go_wp2
    go_ret
    exact ⟨.inl ⟨k, x, rfl, HX.out, HBQ.out⟩, E1.out⟩
   | false =>
    go_wp2
    go_roundw
    case rel =>
     refine ⟨k + 1, by omega, by go_num, fun m y hm hy => ?_, E1.out⟩
     by_cases e : m = k
     ·subst e; rw [HX.out] at hy; cases hy; exact HBQ.out
     ·exact HA.out m y (by omega) hy
    case measure => simp [intOf]; omega
  ·obtain rfl : k = M := by omega
   go_wp2
   go_ret
   refine ⟨.inr ⟨rfl, fun x hx => ?_⟩, HE.out⟩
   obtain ⟨m, hm⟩ := List.mem_iff_getElem?.1 hx
   exact HA.out m x (by have := (List.getElem?_eq_some_iff.1 hm).1; have := HM.out; omega) hm
def EvV (B : Nat) (w : World) (v : Value) (x : Ev) : Prop := ∃ (g c1 : Nat) (r : Option Addr) (k : Nat), v = .agg #[.int .i64 (x.1.1 : Int), .int .i64 (x.1.2.1 : Int), .slice (some ⟨g, 0, none⟩) x.1.2.2.length c1, .slice r x.2.1.length k, .int .i64 x.2.2] ∧ IntsOwn B w (.slice (some ⟨g, 0, none⟩) x.1.2.2.length c1) x.1.2.2 ∧ IntsOwn B w (.slice r x.2.1.length k) x.2.1
def noEv : Value := .agg #[.int .i64 0, .int .i64 0, .slice none 0 0, .slice none 0 0, .int .i64 0]
set_option maxRecDepth 100000 in
set_option maxHeartbeats 2000000 in
theorem find_any (B : Nat) (mo : Option Nat) (T : Int) (q1 : Option Addr) (n1 c1 : Nat) (q : Option Addr) (M c : Nat) (es : List Ev) (i j : Int) (pp : Option Addr) (n d : Nat) (pt : List Int) (w : World) (hM : es.length = M) (hM4 : M ≤ 1000) (hev : EvsOwn B w (.slice q M c) es) (ht : IntsAt w (.slice pp n d) pt) :
  Calls Tryz.prog 57 #[.agg #[.map mo, .int .i64 T, .slice q1 n1 c1, .slice q M c], .agg #[.int .i64 i, .int .i64 j, .slice pp n d]] w fun e w' =>
   ((∃ (v : Value) (x : Ev), e = .returned (.tuple #[v, .bool true]) ∧ x ∈ es ∧ evEq x i j pt = true ∧ EvV B w' v x) ∨ (e = .returned (.tuple #[noEv, .bool false]) ∧ ∀ x ∈ es, evEq x i j pt = false)) ∧ Ext w w' := by
 have HM := Lib.hid hM; have HEV := Lib.hid hev; have HT := Lib.hid ht
 clear hM hev ht
 go_enter Tryz.func57, Tryz.ntmps57
 go_wp2_with (fail)
 obtain ⟨W0, hW0⟩ : ∃ W0, (((w.alloc (.cells #[.map mo, .int .i64 T, .slice q1 n1 c1, .slice q M c] 75)).alloc (.cells #[.int .i64 i, .int .i64 j, .slice pp n d] 45)).alloc (.cells #[.int .i64 0, .int .i64 0, .slice none 0 0, .slice none 0 0, .int .i64 0] 79)) = W0 := ⟨_, rfl⟩
 have E0 : Hid (Ext w W0) := Lib.hid (by rw [← hW0]; exact (((Ext.refl w).alloc _).alloc _).alloc _)
 have A0 := Lib.hid (show W0.heap[w.heap.size]? = some (.cells #[.map mo, .int .i64 T, .slice q1 n1 c1, .slice q M c] 75 (0, 0)) by rw [← hW0]; exact blk_old (blk_old (blk_at rfl)))
 have C0 := Lib.hid (show W0.heap[w.heap.size + 1]? = some (.cells #[.int .i64 i, .int .i64 j, .slice pp n d] 45 (0, 0)) by rw [← hW0]; exact blk_old (blk_at (by simp)))
 have R0 := Lib.hid (show W0.heap[w.heap.size + 1 + 1]? = some (.cells #[.int .i64 0, .int .i64 0, .slice none 0 0, .slice none 0 0, .int .i64 0] 79 (0, 0)) by rw [← hW0]; exact blk_at (by simp))
 try rw [hW0]
 clear hW0
 refine (indexFunc_any B q M c (w.heap.size + 1) es i j _ pt _ HM.out hM4 (HEV.out.ext E0.out) C0.out (HT.out.ext E0.out)).mono ?_
 rintro e w1 ⟨hcase, hE⟩
 have E1 := Lib.hid (E0.out.trans hE); have A1 := Lib.hid (hE.blk A0.out); have R1 := Lib.hid (hE.blk R0.out)
 clear hE
 rcases hcase with ⟨k, x, rfl, hx, hq⟩ | ⟨rfl, hall⟩
 ·obtain ⟨o, gp, d1, r, kk, rfl, hol, c0, c1', c2', c3, c4, hpt, hrd⟩ := HEV.out.elem hx
  replace c0 := E1.out.keep c0; replace c1' := E1.out.keep c1'; replace c2' := E1.out.keep c2'; replace c3 := E1.out.keep c3; replace c4 := E1.out.keep c4
  have hol1 : o < w1.heap.size := Nat.lt_of_lt_of_le hol E1.out.size_le
  have hkM : (k : Int) < (M : Int) := by have := (List.getElem?_eq_some_iff.1 hx).1; have := HM.out; omega
  have hk0 : decide ((k : Int) < 0) = false := by simp
  obtain ⟨y0, y1, y2, y3, -⟩ := blk4f A1.out
  obtain ⟨r0, r1, r2, r3, r4, rf⟩ := blk5e R1.out
  have hl1 := lt_of_block R1.out
  have rf0 := rf 0; have rf1 := rf 1; have rf2 := rf 2; have rf3 := rf 3; have rf4 := rf 4
  have HX := Lib.hid hx; have HQ := Lib.hid hq; have HP := Lib.hid hpt; have HR := Lib.hid hrd
  clear hx hq hpt hrd rf
  go_wp2
  obtain ⟨WF, hWF⟩ : ∃ WF, (((((w1.setCell ⟨w.heap.size + 1 + 1, 0, none⟩ (.int .i64 (x.1.1 : Int))).setCell ⟨w.heap.size + 1 + 1, 1, none⟩ (.int .i64 (x.1.2.1 : Int))).setCell ⟨w.heap.size + 1 + 1, 2, none⟩ (.slice (some ⟨gp, 0, none⟩) x.1.2.2.length d1)).setCell ⟨w.heap.size + 1 + 1, 3, none⟩ (.slice r x.2.1.length kk)).setCell ⟨w.heap.size + 1 + 1, 4, none⟩ (.int .i64 x.2.2)) = WF := ⟨_, rfl⟩
  have EF : Ext w WF := by
   rw [← hWF]
   repeat (refine Ext.setCell ?_ (by simp <;> omega) _)
   exact E1.out
  obtain ⟨s0, s1, s2, s3, s4, -⟩ := blk5e (W := WF) (g := w.heap.size + 1 + 1) (by rw [← hWF]; exact blk5_set R1.out)
  rw [hWF]
  clear hWF
  exact bodyPost_ret (v := .tuple #[.agg #[.int .i64 (x.1.1 : Int), .int .i64 (x.1.2.1 : Int), .slice (some ⟨gp, 0, none⟩) x.1.2.2.length d1, .slice r x.2.1.length kk, .int .i64 x.2.2], .bool true]) (by simp [results, Tryz.results57, go_sem, s0, s1, s2, s3, s4]) rfl ⟨.inl ⟨_, x, rfl, List.mem_of_getElem? HX.out, HQ.out, ⟨gp, d1, r, kk, rfl, HP.out.ext EF, HR.out.ext EF⟩⟩, EF⟩
 ·obtain ⟨r0, r1, r2, r3, r4, rf⟩ := blk5e R1.out
  have hl1 := lt_of_block R1.out
  have rf0 := rf 0; have rf1 := rf 1; have rf2 := rf 2; have rf3 := rf 3; have rf4 := rf 4
  have HA := Lib.hid hall
  clear hall rf
  go_wp2
  obtain ⟨WF, hWF⟩ : ∃ WF, (((((w1.setCell ⟨w.heap.size + 1 + 1, 0, none⟩ (.int .i64 0)).setCell ⟨w.heap.size + 1 + 1, 1, none⟩ (.int .i64 0)).setCell ⟨w.heap.size + 1 + 1, 2, none⟩ (.slice none 0 0)).setCell ⟨w.heap.size + 1 + 1, 3, none⟩ (.slice none 0 0)).setCell ⟨w.heap.size + 1 + 1, 4, none⟩ (.int .i64 0)) = WF := ⟨_, rfl⟩
  have EF : Ext w WF := by
   rw [← hWF]
   repeat (refine Ext.setCell ?_ (by simp <;> omega) _)
   exact E1.out
  obtain ⟨s0, s1, s2, s3, s4, -⟩ := blk5e (W := WF) (g := w.heap.size + 1 + 1) (by rw [← hWF]; exact blk5_set R1.out)
  rw [hWF]
  clear hWF
  exact bodyPost_ret (v := .tuple #[noEv, .bool false]) (by simp [results, Tryz.results57, go_sem, noEv, s0, s1, s2, s3, s4]) rfl ⟨.inr ⟨rfl, HA.out⟩, EF⟩
theorem ev_at {ars : List Arr} {ps : List Pt} (hb : progB ars ps = true) {i j : Int} {pt : List Int} {x : Ev} (hx : x ∈ evsOf ars ps) (hq : evEq x i j pt = true) : icOk ars ps i j pt = true ∧ icR ars ps i j pt = x.2.1 ∧ icW ars ps i j pt = x.2.2 := by
 obtain ⟨y, hy, rfl⟩ := List.mem_map.1 hx
 obtain ⟨e1, e2, e3⟩ := evEq_iff.1 hq
 have hok : icOk ars ps i j pt = true := by unfold icOk; rw [hb, (atB_iff hb).2 ⟨y, hy, e1, e2, e3⟩]; rfl
 have hs : stAt ps i j = y.2 := by rw [← e1, ← e2]; exact stAt_ins hy
 refine ⟨hok, ?_, ?_⟩
 ·unfold icR; rw [if_pos hok, hs, ← e3]; rfl
 ·unfold icW; rw [if_pos hok, hs, ← e3]; rfl
theorem ev_not {ars : List Arr} {ps : List Pt} {i j : Int} {pt : List Int} (h : progB ars ps = true → ∀ x ∈ evsOf ars ps, evEq x i j pt = false) : icOk ars ps i j pt = false := by
 cases hok : icOk ars ps i j pt with
 | false => rfl
 | true =>
  have h0 := hok
  unfold icOk at h0
  rw [Bool.and_eq_true] at h0
  obtain ⟨y, hy, e1, e2, e3⟩ := (atB_iff h0.1).1 h0.2
  have := h h0.1 (evOf ars y) (List.mem_map.2 ⟨y, hy, rfl⟩)
  rw [evEq_iff.2 ⟨e1, e2, e3⟩] at this
  cases this
theorem ic_no {ars : List Arr} {ps : List Pt} {i j : Int} {pt : List Int} (h : icOk ars ps i j pt = false) : icR ars ps i j pt = [] ∧ icW ars ps i j pt = 0 := by unfold icR icW; rw [h]; exact ⟨rfl, rfl⟩
set_option linter.unusedVariables false in
set_option linter.unusedSimpArgs false in
set_option maxRecDepth 100000 in
set_option maxHeartbeats 2000000 in
theorem InstanceCells_any (v : Value) (ars : List Arr) (ps : List Pt) (i j : Int) (pp : Option Addr) (n c : Nat) (pt : List Int) (w : World) (hp : PrR w v ars ps) (hi : IntsAt w (.slice pp n c) pt) (_ : n ≤ c) :
  Calls Tryz.prog 23 #[v, .agg #[.int .i64 i, .int .i64 j, .slice pp n c]] w fun e w' => (∃ v', e = .returned (.tuple #[v', .int .i64 (icW ars ps i j pt), .bool (icOk ars ps i j pt)]) ∧ IntsOwn w.heap.size w' v' (icR ars ps i j pt)) ∧ Ext w w' := by
 obtain ⟨qa, ca, qp, cp, rfl, -, -, ha, hps⟩ := hp.parts
 have HA := Lib.hid ha; have HPS := Lib.hid hps; have HI := Lib.hid hi
 clear hp ha hps hi
 go_enter Tryz.func23, Tryz.ntmps23
 go_wp2_with (fail)
 obtain ⟨W1, hW1⟩ : ∃ W1, ((w.alloc (.cells #[.slice qa ars.length ca, .slice qp ps.length cp] 32)).alloc (.cells #[.int .i64 i, .int .i64 j, .slice pp n c] 45)) = W1 := ⟨_, rfl⟩
 have E1 : Hid (Ext w W1) := Lib.hid (by rw [← hW1]; exact ((Ext.refl w).alloc _).alloc _)
 have C1 := Lib.hid (show W1.heap[w.heap.size + 1]? = some (.cells #[.int .i64 i, .int .i64 j, .slice pp n c] 45 (0, 0)) by rw [← hW1]; exact blk_at (by simp))
 try rw [hW1]
 clear hW1
 refine (programOf_any qa qp _ ca _ cp ars ps _ rfl rfl (HA.out.ext E1.out) (HPS.out.ext E1.out)).mono ?_
 rintro e w1 ⟨⟨v, rfl, h0, h1⟩, hE⟩
 have HE := Lib.hid (E1.out.trans hE); have C2 := Lib.hid (hE.blk C1.out)
 clear hE
 have hform : ∃ mo T q1 n1 c1 q2 M c2, ∃ es : List Ev, v = .agg #[.map mo, .int .i64 T, .slice q1 n1 c1, .slice q2 M c2] ∧ es.length = M ∧ M ≤ 120 ∧ EvsOwn W1.heap.size w1 (.slice q2 M c2) es ∧ (∀ x ∈ es, evEq x i j pt = true → icOk ars ps i j pt = true ∧ icR ars ps i j pt = x.2.1 ∧ icW ars ps i j pt = x.2.2) ∧ ((∀ x ∈ es, evEq x i j pt = false) → icOk ars ps i j pt = false) := by
  cases hb : progB ars ps with
  | false => exact ⟨_, _, _, _, _, _, _, _, [], h0 hb, rfl, by omega, ⟨[], World.ownsRow_nil _ _ _ _, fun i x h => by simp at h⟩, by simp, fun _ => ev_not (fun h => by rw [hb] at h; cases h)⟩
  | true =>
   obtain ⟨Bm, D, q1, c1, q2, c2, rfl, -, -, -, -, he⟩ := h1 hb
   exact ⟨_, _, _, _, _, _, _, _, evsOf ars ps, rfl, rfl, by have := insM_120 hb; simpa [evsOf] using this, he, fun x hx hq => ev_at hb hx hq, fun h => ev_not (fun _ => h)⟩
 obtain ⟨mo, T, q1, n1, c1, q2, M, c2, es, rfl, hM, hM120, hev, hyes, hno⟩ := hform
 have HM := Lib.hid hM; have HEV := Lib.hid hev; have HY := Lib.hid hyes; have HN := Lib.hid hno
 obtain ⟨pb, hpb⟩ : ∃ b, progB ars ps = b := ⟨_, rfl⟩
 rw [hpb]
 clear h0 h1 hM hev hyes hno hpb
 obtain ⟨z0, z1, z2⟩ := blk3 C2.out
 have hl2 := lt_of_block C2.out
 go_wp2_with (fail)
 refine (find_any W1.heap.size mo T q1 n1 c1 q2 M c2 es i j pp n c pt _ HM.out (by omega) (HEV.out.ext ((Ext.refl w1).alloc _)) (HI.out.ext (HE.out.alloc _))).mono ?_
 rintro e w3 ⟨hcase, hE⟩
 have E3 := Lib.hid ((HE.out.alloc (.cells #[.map mo, .int .i64 T, .slice q1 n1 c1, .slice q2 M c2] 75)).trans hE)
 clear hE z0 z1 z2 hl2
 rcases hcase with ⟨v, x, rfl, hx, hq, g, d1, r, kk, rfl, -, hrd⟩ | ⟨rfl, hall⟩
 ·obtain ⟨h1, h2, h3⟩ := HY.out x hx hq
  have HRD : Hid (IntsOwn w.heap.size w3 (.slice r x.2.1.length kk) (icR ars ps i j pt)) := Lib.hid (by rw [h2]; exact hrd.weak E1.out.size_le)
  have H1 := Lib.hid h1; have H3 := Lib.hid h3
  clear h1 h2 h3 hx hq hrd
  go_wp2
  go_quiet (fail)
  go_wp2
  exact bodyPost_ret (v := .tuple #[.slice r x.2.1.length kk, .int .i64 x.2.2, .bool true]) (by simp [results, Tryz.results23, go_sem]) rfl ⟨⟨_, by rw [H1.out, H3.out], IntsOwn.ext HRD.out (((Ext.refl w3).alloc _).drewN _)⟩, (E3.out.alloc _).drewN _⟩
 ·have H1 := Lib.hid (HN.out hall)
  have H2 := Lib.hid (ic_no H1.out)
  clear hall
  unfold noEv
  go_wp2
  go_quiet (fail)
  go_wp2
  exact bodyPost_ret (v := .tuple #[.slice none 0 0, .int .i64 0, .bool false]) (by simp [results, Tryz.results23, go_sem]) rfl ⟨⟨_, by rw [H1.out, H2.out.2], by rw [H2.out.1]; exact World.ownsRow_nil _ _ _ _⟩, (E3.out.alloc _).drewN _⟩
end Go.Proofs.YtmhldhjpfeageabGreat

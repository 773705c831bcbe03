/- The texts G56, joined. No statement is proved here. -/
import Derived.Test.YtbcjllanigmioaaGreatK53
import Derived.Test.YtbcjllanigmioaaGreatK50
/- The program's sources and FlowSources. No statement is proved here. -/
namespace Go.Proofs.YtbcjllanigmioaaGreat
open Go.RowKit Go.Maps

theorem PtsOwn.lvB {B : Nat} {D : Nat → Prop} {w w' : World} {v : Value} {xss : List (List Int)} (h : PtsOwn B w v xss) (hv : Lv D w w') (hD : ∀ b, B ≤ b → b < w.heap.size → ¬ D b) : PtsOwn B w' v xss := by
  obtain ⟨vs, ho, he⟩ := h
  exact ⟨vs, row_lvB ho hv hD, fun i xs hi => by obtain ⟨u, h0, h1⟩ := he i xs hi; exact ⟨u, h0, row_lvB h1 hv hD⟩⟩
theorem lastW_upd {us : List Us} {k : Nat} {u : Us} (h : us[k]? = some u) : vF (lastW us (k + 1)) = updF (vF (lastW us k)) u.2 (.int .i64 (k : Int)) := by
  funext x
  unfold updF vF
  rw [lastW_next x h]
  by_cases e : x = u.2
  · simp [e]
  · simp [e]

set_option linter.unusedVariables false in
set_option linter.unusedSimpArgs false in
set_option maxRecDepth 100000 in
set_option maxHeartbeats 2000000 in
theorem of_any (MB nM : Nat) (f : Int → Option Nat) (q : Option Addr) (n c : Nat) (rs : List Int) (w : World) (hn : rs.length = n) (hn2 : n ≤ 1000) (hb : ∀ x ∈ rs, 0 ≤ x ∧ x ≤ 1048576) (hm : IMp w MB nM (vF f)) (hs : IntsAt w (.slice q n c) rs) :
    Calls Tryz.prog 110 #[.map (some MB), .slice q n c] w fun e w' => (∃ v', e = .returned v' ∧ IntsOwn w.heap.size w' v' (rs.map (fun x => srcI (f x)))) ∧ Ext w w' := by
  obtain ⟨i0, hi, hz0, hz1, hz2⟩ := info_parts infoInt
  obtain ⟨L, hL⟩ : ∃ L, rs.map (fun x => srcI (f x)) = L := ⟨_, rfl⟩
  rw [hL]
  have HLL : Hid (L.length = n) := Lib.hid (by rw [← hL, List.length_map, hn])
  have HLG : Hid (∀ (j : Nat) (c : Int), rs[j]? = some c → L[j]? = some (srcI (f c))) := Lib.hid (fun j c h => by rw [← hL, List.getElem?_map, h]; rfl)
  have HN := Lib.hid hn; have HB := Lib.hid hb; have HM := Lib.hid hm; have HS := Lib.hid hs
  clear hn hb hm hs hL
  go_enter Tryz.func110, Tryz.ntmps110
  go_wp2
  go_loopw [5, 12] (fun ov iv wr => ∃ (k : Nat) (po : Option Addr) (co : Nat), k ≤ n ∧ iv = .int .i64 k ∧ ov = .slice po k co ∧ wr.ownsRow w.heap.size 3 1 (.slice po k co) k ((L.take k).map (Value.int .i64)) ∧ Ext w wr) (fun _ iv _ => n - (intOf iv).toNat)
  case atStart => exact ⟨0, none, 0, by omega, rfl, rfl, World.ownsRow_nil _ _ _ _, Ext.refl w⟩
  case round =>
    obtain ⟨k, po, co, hk, rfl, rfl, ho, hE⟩ := hrel
    have HO := Lib.hid ho; have HE := Lib.hid hE
    clear ho hE
    by_cases hlt : k < n
    · obtain ⟨x, hx⟩ := get_some (xs := rs) (k := k) (by rw [HN.out]; exact hlt)
      obtain ⟨x0, x1⟩ := HB.out x (List.mem_of_getElem? hx)
      obtain ⟨-, hcc⟩ := (HS.out.ext HE.out).cl
      obtain ⟨b, off, rfl, hcell⟩ := hcc k x hx
      have HLK := Lib.hid (HLG.out k x hx)
      have hlk0 := (HM.out.ext HE.out).lookOk (T := 102) (e := 3) underWr (zeroIn _) (wfI (c := x) (by omega) (by omega))
      rw [show vF f x = (f x).map (fun (n : Nat) => .int .i64 (n : Int)) from rfl] at hlk0
      obtain ⟨gv, hgv⟩ : ∃ gv, f x = gv := ⟨_, rfl⟩
      rw [hgv] at hlk0 HLK
      have hkI : (k : Int) < (n : Int) := by omega
      clear hx hcc hgv
      cases gv with
      | none =>
        have hlk : (Instr.lookup 102 (.map (some MB)) (.int .i64 x) true).run Tryz.prog wr = .ok (.tuple #[.int .i64 (0), .bool false]) wr := hlk0
        have HN1 : Hid (L.take (k + 1) = L.take k ++ [(-1 : Int)]) := Lib.hid (by rw [take_next HLK.out]; rfl)
        have HOX := Lib.hid (ownsRow_ext HO.out ((Ext.refl wr).alloc (.cells #[.int .i64 (-1)] 3)))
        have hsz : w.heap.size ≤ wr.heap.size := HE.out.size_le
        clear hlk0
        go_wp2_with (at_builtin; refine wpList_append_own_at _ rfl (.tmp 24) (.tmp 26) 27 rfl w.heap.size 3 i0 (.int .i64 0) 1 8 Tryz.underlying27 hi hz0 hz1 hz2 rfl (by decide) (.slice po k co) k _ rfl HOX.out ⟨wr.heap.size, 0, none⟩ 1 1 [.int .i64 (-1)] rfl rfl ?c1 ?c2 ?c3 ?c4 ?c5 ?_)
        case c1 => exact one_cell (by simp)
        case c2 => intro u hu; simp at hu; subst hu; rfl
        case c3 => unfold maxLen; omega
        case c4 => omega
        case c5 => simp; omega
        intro v' w5 hown' hgrow _ hat
        obtain ⟨po', co', rfl⟩ : ∃ po' co', v' = .slice po' (k + 1) co' := by
          rcases hown'.2 with ⟨rfl, hn0⟩ | ⟨g', cap, cur, e, _⟩
          · exact absurd hn0 (by omega)
          · exact ⟨_, cap, e⟩
        have HRW' : Hid (w5.ownsRow w.heap.size 3 1 (.slice po' (k + 1) co') (k + 1) ((L.take (k + 1)).map (Value.int .i64))) := Lib.hid (by rw [HN1.out, List.map_append]; simpa using hown')
        have HE5 := Lib.hid ((HE.out.alloc (.cells #[.int .i64 (-1)] 3)).grown hgrow (fun b hb => (HOX.out.lt b hb).1))
        clear hown' hgrow hat hlk hcell
        go_wp2
        go_roundw
        case rel => exact ⟨k + 1, _, _, by omega, by go_num, rfl, HRW'.out, HE5.out⟩
        case measure => simp [intOf]; omega
      | some nn =>
        have hlk : (Instr.lookup 102 (.map (some MB)) (.int .i64 x) true).run Tryz.prog wr = .ok (.tuple #[.int .i64 ((nn : Int)), .bool true]) wr := hlk0
        have HN1 : Hid (L.take (k + 1) = L.take k ++ [((nn : Int) : Int)]) := Lib.hid (by rw [take_next HLK.out]; rfl)
        have HOX := Lib.hid (ownsRow_ext HO.out ((Ext.refl wr).alloc (.cells #[.int .i64 ((nn : Int))] 3)))
        have hsz : w.heap.size ≤ wr.heap.size := HE.out.size_le
        clear hlk0
        go_wp2_with (at_builtin; refine wpList_append_own_at _ rfl (.tmp 24) (.tmp 26) 27 rfl w.heap.size 3 i0 (.int .i64 0) 1 8 Tryz.underlying27 hi hz0 hz1 hz2 rfl (by decide) (.slice po k co) k _ rfl HOX.out ⟨wr.heap.size, 0, none⟩ 1 1 [.int .i64 ((nn : Int))] rfl rfl ?c1 ?c2 ?c3 ?c4 ?c5 ?_)
        case c1 => exact one_cell (by simp)
        case c2 => intro u hu; simp at hu; subst hu; rfl
        case c3 => unfold maxLen; omega
        case c4 => omega
        case c5 => simp; omega
        intro v' w5 hown' hgrow _ hat
        obtain ⟨po', co', rfl⟩ : ∃ po' co', v' = .slice po' (k + 1) co' := by
          rcases hown'.2 with ⟨rfl, hn0⟩ | ⟨g', cap, cur, e, _⟩
          · exact absurd hn0 (by omega)
          · exact ⟨_, cap, e⟩
        have HRW' : Hid (w5.ownsRow w.heap.size 3 1 (.slice po' (k + 1) co') (k + 1) ((L.take (k + 1)).map (Value.int .i64))) := Lib.hid (by rw [HN1.out, List.map_append]; simpa using hown')
        have HE5 := Lib.hid ((HE.out.alloc (.cells #[.int .i64 ((nn : Int))] 3)).grown hgrow (fun b hb => (HOX.out.lt b hb).1))
        clear hown' hgrow hat hlk hcell
        go_wp2
        go_roundw
        case rel => exact ⟨k + 1, _, _, by omega, by go_num, rfl, HRW'.out, HE5.out⟩
        case measure => simp [intOf]; omega
    · obtain rfl : k = n := by omega
      go_wp2
      go_ret
      exact ⟨⟨_, rfl, IntsOwn.mk (by have h := HO.out; rwa [List.take_of_length_le (by rw [HLL.out]; exact Nat.le_refl _)] at h) HLL.out⟩, HE.out⟩

set_option linter.unusedVariables false in
set_option linter.unusedSimpArgs false in
set_option maxRecDepth 100000 in
set_option maxHeartbeats 4000000 in
theorem sources_any (mo : Option Nat) (T : Int) (q1 : Option Addr) (n1 c1 : Nat) (q2 : Option Addr) (M c2 B0 : Nat) (es : List Ev) (us : List Us) (w : World) (hM : es.length = M) (hM120 : M ≤ 120) (hus : es.map (·.2) = us) (hev : EvsOwn B0 w (.slice q2 M c2) es)
    (hrl : ∀ u ∈ us, u.1.length ≤ 1000) (hcb : ∀ u ∈ us, (∀ c ∈ u.1, 0 ≤ c ∧ c ≤ 1048576) ∧ 0 ≤ u.2 ∧ u.2 ≤ 1048576) :
    Calls Tryz.prog 69 #[.agg #[.map mo, .int .i64 T, .slice q1 n1 c1, .slice q2 M c2]] w fun e w' => (∃ v' MB, e = .returned (.tuple #[v', .map (some MB)]) ∧ PtsOwn w.heap.size w' v' ((List.range M).map (srcB us))) ∧ Ext w w' := by
  obtain ⟨j0, hj0, hj1, hj2, hj3⟩ := info_parts infoSS
  have hmm := @run_makeMap Tryz.prog
  have HM := Lib.hid hM; have HUS := Lib.hid hus; have HRL := Lib.hid hrl; have HCB := Lib.hid hcb; have HEV := Lib.hid hev
  clear hM hus hev hrl hcb
  go_enter Tryz.func69, Tryz.ntmps69
  go_wp2
  clear hmm
  obtain ⟨W0, hW0⟩ : ∃ W0, w.alloc (.cells #[.map mo, .int .i64 T, .slice q1 n1 c1, .slice q2 M c2] 88) = W0 := ⟨_, rfl⟩
  have E0 : Hid (Ext w W0) := Lib.hid (by rw [← hW0]; exact (Ext.refl w).alloc _)
  have hs0 : W0.heap.size = w.heap.size + 1 := by rw [← hW0]; simp
  have HEV0 := Lib.hid (HEV.out.ext E0.out)
  obtain ⟨W2, hW2⟩ : ∃ W2, W0.alloc (.map #[] 0) = W2 := ⟨_, rfl⟩
  have X2 : Hid (Ext W0 W2) := Lib.hid (by rw [← hW2]; exact (Ext.refl W0).alloc _)
  have hs2 : W2.heap.size = w.heap.size + 1 + 1 := by rw [← hW2]; simp [hs0]
  have M2 : Hid (IMp W2 (w.heap.size + 1) 0 (vF (lastW us 0))) := Lib.hid (by
    have h := IMp.made W0
    rw [hs0] at h
    rw [← hW2]
    have e : vF (lastW us 0) = (fun _ => none) := by funext x; simp [vF, lastW]
    rw [e]; exact h)
  have HS2 := Lib.hid hs2; have HS0 := Lib.hid hs0
  try rw [hW0]
  try rw [hW2]
  clear hW0 hW2 hs2 hs0
  obtain ⟨MB, hMB⟩ : ∃ MB, w.heap.size + 1 = MB := ⟨_, rfl⟩
  rw [hMB] at M2 HS2 HS0 ⊢
  clear hMB
  go_loopw [5, 12] (fun ov iv wr => ∃ (k nM : Nat) (po : Option Addr) (co : Nat), k ≤ M ∧ iv = .int .i64 k ∧ ov = .slice po k co ∧ nM ≤ k ∧ PtsOwn W2.heap.size wr (.slice po k co) ((List.range k).map (srcB us)) ∧ IMp wr MB nM (vF (lastW us k)) ∧ Ext W0 wr ∧ W2.heap.size ≤ wr.heap.size) (fun _ iv _ => M - (intOf iv).toNat)
  case atStart => exact ⟨0, 0, none, 0, by omega, rfl, rfl, by omega, ⟨[], World.ownsRow_nil _ _ _ _, fun i x h => by simp at h⟩, M2.out, X2.out, Nat.le_refl _⟩
  case round =>
    obtain ⟨k, nM, po, co, hk, rfl, rfl, hnM, ho, hmp, hE, hsz⟩ := hrel
    have HO := Lib.hid ho; have HMP := Lib.hid hmp; have HE2 := Lib.hid hE; have HSZ := Lib.hid hsz
    clear ho hmp hE hsz
    by_cases hlt : k < M
    · obtain ⟨e, he⟩ := get_some (xs := es) (k := k) (by rw [HM.out]; exact hlt)
      have hue : us[k]? = some e.2 := by rw [← HUS.out, List.getElem?_map, he]; rfl
      obtain ⟨o, g, d1, r, kk, rfl, hol, c0, c1', c2', c3, c4, -, hrd⟩ := HEV0.out.elem he
      obtain ⟨hcr, hw0, hw1⟩ := HCB.out e.2 (List.mem_of_getElem? hue)
      have hR1000 := HRL.out e.2 (List.mem_of_getElem? hue)
      obtain ⟨⟨ei, ej, ept⟩, rs, wv⟩ := e
      dsimp only at c0 c1' c2' c3 c4 hrd hcr hw0 hw1 hR1000
      obtain ⟨R, hR⟩ : ∃ R, rs.length = R := ⟨_, rfl⟩
      obtain ⟨pl, hpl⟩ : ∃ pl, ept.length = pl := ⟨_, rfl⟩
      rw [hR] at c3 hrd hR1000
      rw [hpl] at c2'
      replace c0 := HE2.out.keep c0; replace c1' := HE2.out.keep c1'; replace c2' := HE2.out.keep c2'; replace c3 := HE2.out.keep c3; replace c4 := HE2.out.keep c4
      have HUN : Hid (vF (lastW us (k + 1)) = updF (vF (lastW us k)) wv (.int .i64 (k : Int))) := Lib.hid (lastW_upd hue)
      have HSB : Hid (srcB us k = rs.map (fun c => srcI (lastW us k c))) := Lib.hid (srcB_at hue)
      have HRS := Lib.hid (hrd.at.ext HE2.out); have HCR := Lib.hid hcr; have HRR := Lib.hid hR
      obtain ⟨fk, hfk⟩ : ∃ f, lastW us k = f := ⟨_, rfl⟩
      rw [hfk] at HMP HUN HSB
      have hkI : (k : Int) < (M : Int) := by omega
      clear he hue hrd hcr hR hpl hfk
      go_wp2_with (fail)
      obtain ⟨wx, hwx⟩ : ∃ wx, wr.alloc (.cells #[.int .i64 (ei : Int), .int .i64 (ej : Int), .slice (some ⟨g, 0, none⟩) pl d1, .slice r R kk, .int .i64 wv] 93) = wx := ⟨_, rfl⟩
      have EX : Ext wr wx := by rw [← hwx]; exact (Ext.refl wr).alloc _
      have BX := Lib.hid (show wx.heap[wr.heap.size]? = some (.cells #[.int .i64 (ei : Int), .int .i64 (ej : Int), .slice (some ⟨g, 0, none⟩) pl d1, .slice r R kk, .int .i64 wv] 93 (0, 0)) by rw [← hwx]; exact blk_at rfl)
      have HEx := Lib.hid (HE2.out.trans EX); have HOx := Lib.hid (HO.out.ext EX); have HMx := Lib.hid (HMP.out.ext EX); have HRx := Lib.hid (HRS.out.ext EX)
      have HSx : Hid (W2.heap.size ≤ wx.heap.size) := Lib.hid (Nat.le_trans HSZ.out EX.size_le)
      obtain ⟨e0, e1, e2, e3, e4, -⟩ := blk5e BX.out
      obtain ⟨EB, hEB⟩ : ∃ EB, wr.heap.size = EB := ⟨_, rfl⟩
      have HEBM : Hid (MB < EB ∧ W2.heap.size ≤ EB) := Lib.hid (by have h1 := HMP.out.lt; have h2 := HSZ.out; omega)
      try rw [hwx]
      try rw [hEB]
      rw [hEB] at BX e0 e1 e2 e3 e4
      clear hwx EX HE2 HO HMP HSZ HRS c0 c1' c2' c3 c4 hEB
      go_wp2_with (fail)
      refine (of_any MB nM fk r R kk rs _ HRR.out hR1000 HCR.out HMx.out HRx.out).mono ?_
      rintro e w5 ⟨⟨v5, rfl, hv5⟩, hE5⟩
      rw [← HSB.out] at hv5
      have HLS : Hid ((srcB us k).length = R) := Lib.hid (by rw [HSB.out, List.length_map, HRR.out])
      obtain ⟨p5, c5, rfl⟩ := ints_form hv5
      rw [HLS.out] at hv5 ⊢
      have HOA := Lib.hid ((HOx.out.ext hE5).ext ((Ext.refl w5).alloc (.cells #[.slice p5 R c5] 27)))
      have HBA := Lib.hid (((Ext.refl w5).alloc (.cells #[.slice p5 R c5] 27)).blk (hE5.blk BX.out))
      have HMA := Lib.hid ((HMx.out.ext hE5).ext ((Ext.refl w5).alloc (.cells #[.slice p5 R c5] 27)))
      have EA := Lib.hid ((HEx.out.trans hE5).alloc (.cells #[.slice p5 R c5] 27))
      have HEL : Hid (IntsOwn W2.heap.size (w5.alloc (.cells #[.slice p5 R c5] 27)) (.slice p5 R c5) (srcB us k)) := Lib.hid (IntsOwn.ext (IntsOwn.weak hv5 HSx.out) ((Ext.refl _).alloc _))
      have hsz : W2.heap.size ≤ w5.heap.size := Nat.le_trans HSx.out hE5.size_le
      have HLK : Hid (((List.range k).map (srcB us)).length = k) := Lib.hid (by simp)
      obtain ⟨vs, ho, hhe⟩ := HOA.out
      rw [HLK.out] at ho
      have hvl := ho.1
      rw [Nat.mul_one] at hvl
      have HHE := Lib.hid hhe
      clear hhe hv5 hE5 HOx HMx HEx HRx BX e0 e1 e2 e3 e4
      go_wp2_with (at_builtin; refine wpList_append_own_at _ rfl (.tmp 17) (.tmp 22) 107 rfl W2.heap.size 27 j0 (.slice none 0 0) 1 24 underSS hj0 hj1 hj2 hj3 rfl (by decide) (.slice po k co) k vs rfl ho ⟨w5.heap.size, 0, none⟩ 1 1 [.slice p5 R c5] rfl rfl ?e1 ?e2 ?e3 ?e4 ?e5 ?_)
      case e1 => exact one_cell (by simp)
      case e2 => intro u hu; simp at hu; subst hu; rfl
      case e3 => unfold maxLen; omega
      case e4 => omega
      case e5 => simp; omega
      intro v2 w6 hown2 hgrow2 hnil2 hat2
      obtain ⟨po', co', rfl⟩ : ∃ po' co', v2 = .slice po' (k + 1) co' := by
        rcases hown2.2 with ⟨rfl, hn0⟩ | ⟨g', cap, cur, e, _⟩
        · exact absurd hn0 (by omega)
        · exact ⟨_, cap, e⟩
      have HRS6 : Hid (PtsOwn W2.heap.size w6 (.slice po' (k + 1) co') ((List.range (k + 1)).map (srcB us))) := Lib.hid (by
        rw [List.range_succ, List.map_append]
        exact PtsOwn.push HLK.out HHE.out hvl hown2 hgrow2 (own_tag ho) HEL.out)
      have HMP6 := Lib.hid (HMA.out.kept hgrow2 (fun e => by have h1 := (ho.lt _ e.symm).1; have h2 := HS2.out; omega))
      have HBX6 := Lib.hid (Kt.grown hgrow2 (own_tag ho) EB _ _ _ (by decide) HBA.out)
      have HE6 := Lib.hid (EA.out.grown hgrow2 (fun b hb => Nat.le_trans (by have := HS0.out; have := HS2.out; omega) (ho.lt b hb).1))
      have hsz6 : W2.heap.size ≤ w6.heap.size := Nat.le_trans hsz (Nat.le_trans ((Ext.refl w5).alloc (.cells #[.slice p5 R c5] 27)).size_le hgrow2.size)
      clear hown2 hgrow2 hnil2 hat2 ho hvl HHE HOA HMA HBA EA HEL
      obtain ⟨e0, e1, e2, e3, e4, -⟩ := blk5e HBX6.out
      go_wp2_with (first | (at_mapUpdate; refine upd_I _ rfl _ _ _ _ _ rfl underWr rfl HMP6.out (by unfold maxLen; omega) rfl rfl (wfI (by omega) (by omega)) ?_; intro w7 hmp7 hgrow7) | fail)
      have HMP7 : Hid (IMp w7 MB (nM + 1) (vF (lastW us (k + 1)))) := Lib.hid (by rw [HUN.out]; exact hmp7)
      have HRS7 := Lib.hid (HRS6.out.lvB (grown_lv hgrow7) (fun b h1 h2 e => by have := HS2.out; omega))
      have HE7 := Lib.hid (HE6.out.grown hgrow7 (fun b e => by have e2 := Option.some.inj e; have := HS0.out; omega))
      have hsz7 : W2.heap.size ≤ w7.heap.size := Nat.le_trans hsz6 hgrow7.size
      clear hmp7 hgrow7 e0 e1 e2 e3 e4
      go_wp2
      go_roundw
      case rel => exact ⟨k + 1, nM + 1, _, _, by omega, by go_num, rfl, by omega, HRS7.out, HMP7.out, HE7.out, hsz7⟩
      case measure => simp [intOf]; omega
    · obtain rfl : k = M := by omega
      have hsz1 : w.heap.size ≤ W2.heap.size := by have h1 := E0.out.size_le; have h2 := X2.out.size_le; omega
      have HR := Lib.hid (HO.out.weak hsz1)
      go_wp2
      go_ret2
      exact ⟨⟨_, _, rfl, HR.out⟩, E0.out.trans HE2.out⟩

set_option linter.unusedVariables false in
set_option linter.unusedSimpArgs false in
set_option maxRecDepth 100000 in
set_option maxHeartbeats 4000000 in
theorem FlowSources_any (v : Value) (ars : List Arr) (ps : List Pt) (zt : Int) (w : World) (hp : PrR w v ars ps) :
    Calls Tryz.prog 29 #[v, .int .i64 zt] w fun e w' => (∃ v', e = .returned (.tuple #[v', .bool (fsOk ars ps zt)]) ∧ IntsOwn w.heap.size w' v' (fsB ars ps zt)) ∧ Ext w w' := by
  obtain ⟨i0, hi, hz0, hz1, hz2⟩ := info_parts infoInt
  obtain ⟨qa, ca, qp, cp, rfl, -, -, ha, hps⟩ := hp.parts
  have HA := Lib.hid ha; have HPS := Lib.hid hps
  clear hp ha hps
  obtain ⟨ob, hob⟩ : ∃ b, fsOk ars ps zt = b := ⟨_, rfl⟩
  rw [hob]
  have HOB := Lib.hid hob
  clear hob
  go_enter Tryz.func29, Tryz.ntmps29
  go_wp2_with (fail)
  refine (programOf_any qa qp _ ca _ cp ars ps _ rfl rfl (HA.out.ext ((Ext.refl w).alloc _)) (HPS.out.ext ((Ext.refl w).alloc _))).mono ?_
  rintro e w1 ⟨⟨v, rfl, h0, h1⟩, hE⟩
  have HE := Lib.hid (((Ext.refl w).alloc _).trans hE)
  clear hE
  obtain ⟨B0, hB0⟩ : ∃ B0, (w.alloc (.cells #[.slice qa ars.length ca, .slice qp ps.length cp] 32)).heap.size = B0 := ⟨_, rfl⟩
  rw [hB0] at h1
  have hform : ∃ mo T q1 n1 c1 q2 M c2, ∃ es : List Ev, v = .agg #[.map mo, .int .i64 T, .slice q1 n1 c1, .slice q2 M c2] ∧ es.length = M ∧ M ≤ 120 ∧ EvsOwn B0 w1 (.slice q2 M c2) es ∧ (∀ u ∈ es.map (·.2), u.1.length ≤ 1000) ∧ (∀ u ∈ es.map (·.2), (∀ c ∈ u.1, 0 ≤ c ∧ c ≤ 1048576) ∧ 0 ≤ u.2 ∧ u.2 ≤ 1048576) ∧ (fsOk ars ps zt = (decide (0 ≤ zt) && decide (zt < (M : Int)))) ∧ (fsOk ars ps zt = true → fsB ars ps zt = srcB (es.map (·.2)) zt.toNat) := by
    cases hb : progB ars ps with
    | false => exact ⟨_, _, _, _, _, _, _, _, [], h0 hb, rfl, by omega, ⟨[], World.ownsRow_nil _ _ _ _, fun i x h => by simp at h⟩, by simp, by simp, by
        unfold fsOk
        rw [hb, Bool.false_and]
        by_cases h : 0 ≤ zt
        · rw [decide_eq_false (by omega : ¬ zt < ((0 : Nat) : Int)), Bool.and_false]
        · rw [decide_eq_false h, Bool.false_and], fun h => by unfold fsOk at h; rw [hb] at h; cases h⟩
    | true =>
      obtain ⟨Bm, D, q1, c1, q2, c2, rfl, -, -, -, -, he⟩ := h1 hb
      exact ⟨_, _, _, _, _, _, _, _, evsOf ars ps, rfl, rfl, by have := insM_120 hb; simpa [evsOf] using this, he, ev_reads hb, fun u hu => by
        have h1 := ev_cells hb u hu
        have h2 := tot_lt hb
        exact ⟨fun c hc => by have := h1.1 c hc; omega, by omega, by omega⟩, by unfold fsOk evsOf; rw [hb, List.length_map, Bool.true_and], fun h => by rw [fs_yes h, usesM_ev]⟩
  obtain ⟨mo, T, q1, n1, c1, q2, M, c2, es, rfl, hM, hM120, hev, hrl, hcb, hok, hans⟩ := hform
  obtain ⟨us, hus⟩ : ∃ us, es.map (·.2) = us := ⟨_, rfl⟩
  rw [hus] at hrl hcb hans
  rw [HOB.out] at hok hans
  have HOK := Lib.hid hok
  have HM := Lib.hid hM; have HEV := Lib.hid hev; have HANS := Lib.hid hans; have HUS := Lib.hid hus; have HRL := Lib.hid hrl; have HCB := Lib.hid hcb
  clear h0 h1 hM hev hans hB0 hrl hcb hus hok
  have E0 := Lib.hid (HE.out.alloc (.cells #[.map mo, .int .i64 T, .slice q1 n1 c1, .slice q2 M c2] 88))
  have HEV0 := Lib.hid (HEV.out.ext ((Ext.refl w1).alloc (.cells #[.map mo, .int .i64 T, .slice q1 n1 c1, .slice q2 M c2] 88)))
  by_cases h0 : zt < 0
  · have hb : decide (zt < 0) = true := by simpa using h0
    obtain rfl : ob = false := by rw [HOK.out, decide_eq_false (by omega : ¬ 0 ≤ zt), Bool.false_and]
    have HR := Lib.hid (fs_no HOB.out)
    go_wp2
    go_ret2
    exact ⟨⟨_, rfl, by rw [HR.out]; exact World.ownsRow_nil _ _ _ _⟩, E0.out⟩
  · have hb : decide (zt < 0) = false := by simpa using h0
    by_cases h1 : (M : Int) ≤ zt
    · have hb2 : decide ((M : Int) ≤ zt) = true := by simpa using h1
      obtain rfl : ob = false := by rw [HOK.out, decide_eq_false (by omega : ¬ zt < (M : Int)), Bool.and_false]
      have HR := Lib.hid (fs_no HOB.out)
      go_wp2
      go_ret2
      exact ⟨⟨_, rfl, by rw [HR.out]; exact World.ownsRow_nil _ _ _ _⟩, E0.out⟩
    · have hb2 : decide ((M : Int) ≤ zt) = false := by simpa using h1
      obtain rfl : ob = true := by rw [HOK.out, decide_eq_true (by omega : 0 ≤ zt), decide_eq_true (by omega : zt < (M : Int))]; rfl
      have hR0 := HANS.out rfl
      obtain ⟨t, rfl⟩ : ∃ t : Nat, zt = t := ⟨zt.toNat, by omega⟩
      have htM : t < M := by omega
      rw [Int.toNat_natCast] at hR0
      have HR0 := Lib.hid hR0
      have hb3 : decide (M ≤ t) = false := by simp; omega
      have htI : (t : Int) < (M : Int) := by omega
      clear hR0 h0 h1
      go_wp2_with (fail)
      refine (sources_any mo T q1 n1 c1 q2 M c2 B0 es us _ HM.out hM120 HUS.out HEV0.out HRL.out HCB.out).mono ?_
      rintro e w3 ⟨⟨v3, MB, rfl, hp3⟩, hE3⟩
      have E3 := Lib.hid (E0.out.trans hE3)
      obtain ⟨q3, c3, rfl⟩ := hp3.slice
      rw [show ((List.range M).map (srcB us)).length = M by simp] at hp3 ⊢
      obtain ⟨g, u, rfl, hcell, hu⟩ := hp3.at2 (i := t) (xs := srcB us t) (by rw [List.getElem?_map, List.getElem?_range htM]; rfl)
      obtain ⟨pu, cu, rfl⟩ := ints_form hu
      have HV : Hid (IntsOwn w.heap.size w3 (.slice pu (srcB us t).length cu) (fsB ars ps (t : Int))) := Lib.hid (by rw [HR0.out]; exact hu.weak E0.out.size_le)
      clear hp3 hE3 hu
      go_wp2
      go_ret2
      exact ⟨⟨_, rfl, HV.out⟩, E3.out⟩
end Go.Proofs.YtbcjllanigmioaaGreat

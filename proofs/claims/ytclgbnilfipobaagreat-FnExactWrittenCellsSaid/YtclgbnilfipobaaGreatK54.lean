/- The texts G36, joined. No statement is proved here. -/
import Derived.Test.YtclgbnilfipobaaGreatK53
/- The program's WrittenCells. No statement is proved here. -/
namespace Go.Proofs.YtclgbnilfipobaaGreat
open Go.RowKit Go.Maps

theorem Ext.lvOld {B : Nat} {W a b : World} (h : Lv (fun k => B ≤ k) a b) (hE : Ext W a) (hB : W.heap.size ≤ B) : Ext W b :=
  ⟨h.os.trans hE.os, h.tape.trans hE.tape, h.output.trans hE.output, Nat.le_trans hE.size h.size, fun i hi => (h.block i (Nat.lt_of_lt_of_le hi hE.size) (fun hd => by omega)).trans (hE.block i hi)⟩
theorem evs_writes (ars : List Arr) (ps : List Pt) : (evsOf ars ps).map (fun e => e.2.2) = wrS ars ps := by simp [evsOf, wrS, evOf, Function.comp_def]
theorem wrS_bd {ars : List Arr} {ps : List Pt} (hb : progB ars ps = true) : ∀ x ∈ wrS ars ps, 0 ≤ x ∧ x < ((totN ars).toNat : Int) := by
  intro x hx
  simp only [wrS, List.mem_map] at hx
  obtain ⟨y, hy, rfl⟩ := hx
  have hok : ∀ a ∈ ars, arrOkB a = true := by have h := progB_arrs hb; simp only [arrsB, Bool.and_eq_true, List.all_eq_true] at h; exact h.1
  obtain ⟨_, _, _, _, _, _, hck⟩ := insM_good hb hy
  have := write_bd hok hck
  have := (totN_bd hok).1
  omega

set_option linter.unusedVariables false in
set_option linter.unusedSimpArgs false in
set_option maxRecDepth 100000 in
set_option maxHeartbeats 4000000 in
theorem WrittenCells_any (v : Value) (ars : List Arr) (ps : List Pt) (w : World) (hp : PrR w v ars ps) :
    Calls Tryz.prog 48 #[v] w fun e w' => (∃ v', e = .returned v' ∧ IntsOwn w.heap.size w' v' (wrB ars ps)) ∧ Ext w w' := by
  obtain ⟨i0, hi, hz0, hz1, hz2⟩ := info_parts infoInt
  obtain ⟨qa, ca, qp, cp, rfl, -, -, ha, hps⟩ := hp.parts
  have HA := Lib.hid ha; have HPS := Lib.hid hps
  clear hp ha hps
  go_enter Tryz.func48, Tryz.ntmps48
  go_wp2_with (fail)
  refine (programOf_any qa qp _ ca _ cp ars ps _ rfl rfl (HA.out.ext ((Ext.refl w).alloc _)) (HPS.out.ext ((Ext.refl w).alloc _))).mono ?_
  rintro e w1 ⟨⟨v, rfl, h0, h1⟩, hE⟩
  have HE := Lib.hid (((Ext.refl w).alloc _).trans hE)
  clear hE
  obtain ⟨B0, hB0⟩ : ∃ B0, (w.alloc (.cells #[.slice qa ars.length ca, .slice qp ps.length cp] 31)).heap.size = B0 := ⟨_, rfl⟩
  rw [hB0] at h1
  have hform : ∃ mo T q1 n1 c1 q2 M c2, ∃ es : List Ev, v = .agg #[.map mo, .int .i64 T, .slice q1 n1 c1, .slice q2 M c2] ∧ es.length = M ∧ M ≤ 120 ∧ EvsOwn B0 w1 (.slice q2 M c2) es ∧ ascL (es.map (fun e => e.2.2)) = wrB ars ps := by
    cases hb : progB ars ps with
    | false => exact ⟨_, _, _, _, _, _, _, _, [], h0 hb, rfl, by omega, ⟨[], World.ownsRow_nil _ _ _ _, fun i x h => by simp at h⟩, by unfold wrB; rw [hb]; simp [ascL, Lib.compact, Lib.compactUpTo]⟩
    | true =>
      obtain ⟨Bm, D, q1, c1, q2, c2, rfl, -, -, -, -, he⟩ := h1 hb
      exact ⟨_, _, _, _, _, _, _, _, evsOf ars ps, rfl, rfl, by have := insM_120 hb; simpa [evsOf] using this, he, by rw [evs_writes, ascL_fl (wrS_bd hb)]; unfold wrB; rw [if_pos hb]⟩
  obtain ⟨mo, T, q1, n1, c1, q2, M, c2, es, rfl, hM, hM120, hev, hans⟩ := hform
  have HM := Lib.hid hM; have HEV := Lib.hid hev; have HANS := Lib.hid hans
  clear h0 h1 hM hev hans hB0
  go_wp2
  obtain ⟨w2, hw2⟩ : ∃ w2, w1.alloc (.cells #[.map mo, .int .i64 T, .slice q1 n1 c1, .slice q2 M c2] 91) = w2 := ⟨_, rfl⟩
  have E2 : Hid (Ext w w2) := Lib.hid (by rw [← hw2]; exact HE.out.alloc _)
  have HEV2 : Hid (EvsOwn B0 w2 (.slice q2 M c2) es) := Lib.hid (by rw [← hw2]; exact HEV.out.ext ((Ext.refl w1).alloc _))
  try rw [hw2]
  clear hw2
  have hXL : (es.map (fun e => e.2.2)).length = M := by rw [List.length_map, HM.out]
  obtain ⟨xs, hxs⟩ : ∃ xs, es.map (fun e => e.2.2) = xs := ⟨_, rfl⟩
  rw [hxs] at hXL
  have HXS := Lib.hid hxs; have HXL := Lib.hid hXL
  clear hxs hXL
  go_loopw [5, 16] (fun ov iv wr => ∃ (k : Nat) (po : Option Addr) (co : Nat), k ≤ M ∧ iv = .int .i64 k ∧ ov = .slice po k co ∧ wr.ownsRow w2.heap.size 3 1 (.slice po k co) k ((xs.take k).map (Value.int .i64)) ∧ Ext w2 wr) (fun _ iv _ => M - (intOf iv).toNat)
  case atStart => exact ⟨0, _, _, by omega, rfl, rfl, by simpa using World.ownsRow_nil w2 w2.heap.size 3 1, Ext.refl w2⟩
  case round =>
    obtain ⟨k, po, co, hk, rfl, rfl, ho, hE⟩ := hrel
    have HO := Lib.hid ho; have HX2 := Lib.hid hE
    clear ho hE
    by_cases hlt : k < M
    · obtain ⟨x, hx⟩ := get_some (xs := es) (k := k) (by rw [HM.out]; exact hlt)
      have HXX : Hid (xs[k]? = some x.2.2) := Lib.hid (by rw [← HXS.out, List.getElem?_map, hx]; rfl)
      obtain ⟨o, g, d1, r, kk, rfl, hol, c0, c1', c2', c3, c4, -, -⟩ := (HEV2.out.ext HX2.out).elem hx
      clear hx
      obtain ⟨wv, hwv⟩ : ∃ z, x.2.2 = z := ⟨_, rfl⟩
      rw [hwv] at c4
      have HWV := Lib.hid hwv
      clear hwv
      have HE3 : Hid (Ext wr (wr.alloc (.cells #[.int .i64 (x.1.1 : Int), .int .i64 (x.1.2.1 : Int), .slice (some ⟨g, 0, none⟩) x.1.2.2.length d1, .slice r x.2.1.length kk, .int .i64 wv] 125))) := Lib.hid ((Ext.refl wr).alloc _)
      have HOX := Lib.hid (ownsRow_ext HO.out (HE3.out.alloc (.cells #[.int .i64 wv] 3)))
      have hsz : w2.heap.size ≤ wr.heap.size := HX2.out.size_le
      go_wp2_with (at_builtin; refine wpList_append_own_at _ rfl (.tmp 20) (.tmp 23) 39 rfl w2.heap.size 3 i0 (.int .i64 0) 1 8 underSliceInt hi hz0 hz1 hz2 rfl (by decide) (.slice po k co) k _ rfl HOX.out ⟨wr.heap.size + 1, 0, none⟩ 1 1 [.int .i64 wv] rfl rfl ?c1 ?c2 ?c3 ?c4 ?c5 ?_)
      case c1 => exact one_cell (by simp)
      case c2 => intro u hu; simp at hu; subst hu; rfl
      case c3 => unfold maxLen; omega
      case c4 => omega
      case c5 => simp; omega
      intro v' w5 hown' hgrow _ hat
      obtain ⟨po', co', rfl⟩ : ∃ po' co', v' = .slice po' (k + 1) co' := by
        rcases hown'.2 with ⟨rfl, hn0⟩ | ⟨g, cap, cur, e, _⟩
        · exact absurd hn0 (by omega)
        · exact ⟨_, cap, e⟩
      have HRW' : Hid (w5.ownsRow w2.heap.size 3 1 (.slice po' (k + 1) co') (k + 1) ((xs.take (k + 1)).map (Value.int .i64))) := Lib.hid (by rw [take_next HXX.out, HWV.out, List.map_append]; simpa using hown')
      have HE5 := Lib.hid (((HX2.out.trans HE3.out).alloc (.cells #[.int .i64 wv] 3)).grown hgrow (fun b hb => (HOX.out.lt b hb).1))
      clear hown' hgrow hat c0 c1' c2' c3 c4
      go_wp2
      go_roundw
      case rel => exact ⟨k + 1, _, _, by omega, by go_num, rfl, HRW'.out, HE5.out⟩
      case measure => simp [intOf]; omega
    · obtain rfl : k = M := by omega
      have HI : Hid (IntsOwn w2.heap.size wr (.slice po k co) xs) := Lib.hid (IntsOwn.mk (by have h := HO.out; rwa [List.take_of_length_le (by rw [HXL.out]; omega)] at h) HXL.out)
      go_wp2_with (fail)
      refine (ascending_any w2.heap.size po k co xs _ HXL.out HI.out (by omega)).mono ?_
      rintro e w7 ⟨⟨v7, rfl, hv7⟩, hl7⟩
      have hsz := E2.out.size_le
      have HV7 : Hid (IntsOwn w.heap.size w7 v7 (wrB ars ps)) := Lib.hid (by rw [← HANS.out, HXS.out]; exact hv7.weak hsz)
      have E7 := Lib.hid (Ext.lvOld hl7 (E2.out.trans HX2.out) hsz)
      clear hl7 hv7
      go_wp2
      go_ret
      exact ⟨⟨_, rfl, HV7.out⟩, E7.out⟩
end Go.Proofs.YtclgbnilfipobaaGreat

/- The texts G53, joined. No statement is proved here. -/
import Derived.Test.YtbcjllanigmioaaGreatK52
/- Dead instances: pure facts, the model's l6Dead and DeadInstances. No statement is proved here. -/
namespace Go.Proofs.YtbcjllanigmioaaGreat
open Go.RowKit Go.Maps

def deadR (c : Int) : List Us → Bool
  | [] => false
  | u :: r => if c ∈ u.1 then false else if u.2 = c then true else deadR c r
def deadB (us : List Us) (n : Nat) : Bool := match us[n]? with
  | none => false
  | some u => deadR u.2 (us.drop (n + 1))
def ddTo (us : List Us) (k : Nat) : List Int := ((List.range k).filter (fun n => deadB us n)).map (fun (n : Nat) => (n : Int))
def ddB (ars : List Arr) (ps : List Pt) : List Int := if progB ars ps = true then ddTo (usesM ars ps) (insM ps).length else []
theorem deadR_next {us : List Us} {i : Nat} {u : Us} {c : Int} (h : us[i]? = some u) : deadR c (us.drop i) = if c ∈ u.1 then false else if u.2 = c then true else deadR c (us.drop (i + 1)) := by
  obtain ⟨hi, rfl⟩ := List.getElem?_eq_some_iff.1 h
  rw [List.drop_eq_getElem_cons hi]
  simp only [deadR]
theorem ddTo_yes {us : List Us} {k : Nat} (h : deadB us k = true) : ddTo us (k + 1) = ddTo us k ++ [(k : Int)] := by simp [ddTo, List.range_succ, List.filter_append, h]
theorem ddTo_no {us : List Us} {k : Nat} (h : deadB us k = false) : ddTo us (k + 1) = ddTo us k := by simp [ddTo, List.range_succ, List.filter_append, h]
theorem ddTo_len (us : List Us) (k : Nat) : (ddTo us k).length ≤ k := by
  unfold ddTo
  rw [List.length_map]
  exact Nat.le_trans (List.length_filter_le _ _) (by simp)
theorem UsesOwn.lvB {B : Nat} {D : Nat → Prop} {w w' : World} {v : Value} {l : List Us} (h : UsesOwn B w v l) (hv : Lv D w w') (hD : ∀ b, B ≤ b → b < w.heap.size → ¬ D b) : UsesOwn B w' v l := by
  obtain ⟨cs, ho, he⟩ := h
  exact ⟨cs, row_lvB ho hv hD, fun i x hi => by obtain ⟨u0, u1, h0, h1, h2⟩ := he i x hi; exact ⟨u0, u1, h0, h1, row_lvB h2.1 hv hD, h2.2⟩⟩

set_option linter.unusedVariables false in
set_option linter.unusedSimpArgs false in
set_option maxRecDepth 100000 in
set_option maxHeartbeats 2000000 in
theorem l6Dead_any (B : Nat) (p : Option Addr) (n c : Nat) (us : List Us) (a : Nat) (w : World) (hn : us.length = n) (hn2 : n ≤ 1000) (han : a < n) (hu : UsesOwn B w (.slice p n c) us) :
    Calls Tryz.prog 67 #[.slice p n c, .int .i64 (a : Int)] w fun e w' => e = .returned (.bool (deadB us a)) ∧ Ext w w' := by
  obtain ⟨x, hx⟩ := get_some (xs := us) (k := a) (by rw [hn]; exact han)
  obtain ⟨o, r0, k0, rfl, hol, -, x1, -⟩ := hu.elem hx
  have HD0 : Hid (deadB us a = deadR x.2 (us.drop (a + 1))) := Lib.hid (by unfold deadB; rw [hx])
  have HN := Lib.hid hn; have HU := Lib.hid hu; have HX1 := Lib.hid x1
  clear hn hu hx x1
  go_enter Tryz.func67, Tryz.ntmps67
  go_wp2
  go_loopw [5] (fun iv wr => ∃ i : Nat, a + 1 ≤ i ∧ i ≤ n ∧ iv = .int .i64 i ∧ deadR x.2 (us.drop i) = deadR x.2 (us.drop (a + 1)) ∧ Ext w wr) (fun iv _ => n - (intOf iv).toNat)
  case atStart => exact ⟨a + 1, by omega, by omega, by go_num, rfl, Ext.refl w⟩
  case round =>
    obtain ⟨i, hai, hin, rfl, hdr, hE⟩ := hrel
    have HDR := Lib.hid hdr; have HE := Lib.hid hE
    clear hdr hE
    by_cases hlt : i < n
    · obtain ⟨y, hy⟩ := get_some (xs := us) (k := i) (by rw [HN.out]; exact hlt)
      have HU' := Lib.hid (HU.out.ext HE.out)
      obtain ⟨o', s, sk, ho', -, z0, z1, hry⟩ := HU'.out.elem hy
      obtain rfl : o = o' := by cases ho'; rfl
      obtain ⟨ly, hly⟩ : ∃ n, y.1.length = n := ⟨_, rfl⟩
      rw [hly] at z0 hry
      have HY := Lib.hid hry; have HLY := Lib.hid hly
      have x1 := HE.out.keep HX1.out
      obtain ⟨bh, hbh⟩ : ∃ b, decide (x.2 ∈ y.1) = b := ⟨_, rfl⟩
      obtain ⟨be, hbe⟩ : ∃ b, (y.2 == x.2) = b := ⟨_, rfl⟩
      have HSTEP := Lib.hid (deadR_next (c := x.2) hy)
      have HBH := Lib.hid hbh; have HBE := Lib.hid hbe
      have hiI : (i : Int) < (n : Int) := by omega
      have haI : (a : Int) < (n : Int) := by omega
      clear hy hry hly ho' hbh hbe
      go_wp2_with (fail)
      go_region_held3 (fun W => W.cell? ⟨o, i * 2, none⟩ = some (.slice s ly sk) ∧ W.cell? ⟨o, a * 2 + 1, none⟩ = some (.int .i64 x.2))
        (first | exact ⟨z0, x1⟩ | exact ⟨g3.keep z0, g3.keep x1⟩ | fail)
        (first | (go_at_call 109; (with_reducible refine (l6Has_any s ly sk y.1 x.2 _ HLY.out (IntsAt.ext (IntsOwn.at HY.out) (Ext.refl wr).drew)).mono ?_); rw [HBH.out]; rintro e w4 ⟨rfl, hE4⟩; have g3 := (Ext.refl wr).drew.trans hE4) | fail)
      have E4 := Lib.hid (HE.out.trans g3)
      have z1' := g3.keep z1; have x1' := g3.keep x1
      clear g3 z0 x1 z1
      cases bh with
      | true =>
        have HR : Hid (deadB us a = false) := Lib.hid (by rw [HD0.out, ← HDR.out, HSTEP.out, if_pos (of_decide_eq_true HBH.out)])
        go_wp2
        go_ret
        exact ⟨ret_bool HR.out.symm, E4.out⟩
      | false =>
        go_wp2_with (fail)
        go_region_held3 (fun W => W.cell? ⟨o, i * 2 + 1, none⟩ = some (.int .i64 y.2) ∧ W.cell? ⟨o, a * 2 + 1, none⟩ = some (.int .i64 x.2))
          (first | exact ⟨z1', x1'⟩ | fail)
          (fail)
        obtain ⟨wq, hwq⟩ : ∃ wq, w4.drew = wq := ⟨_, rfl⟩
        have EQ := Lib.hid (show Ext w wq by rw [← hwq]; exact E4.out.trans (Ext.refl w4).drew)
        rw [hwq, HBE.out]
        clear hwq z1' x1'
        cases be with
        | true =>
          have HR : Hid (deadB us a = true) := Lib.hid (by rw [HD0.out, ← HDR.out, HSTEP.out, if_neg (of_decide_eq_false HBH.out), if_pos (by simpa using HBE.out)])
          go_wp2
          go_ret
          exact ⟨ret_bool HR.out.symm, EQ.out⟩
        | false =>
          have HR : Hid (deadR x.2 (us.drop (i + 1)) = deadR x.2 (us.drop (a + 1))) := Lib.hid (by rw [← HDR.out, HSTEP.out, if_neg (of_decide_eq_false HBH.out), if_neg (by simpa using HBE.out)])
          go_wp2
          go_roundw
          case rel => exact ⟨i + 1, by omega, by omega, by go_num, HR.out, EQ.out⟩
          case measure => simp [intOf]; omega
    · obtain rfl : i = n := by omega
      have HR : Hid (deadB us a = false) := Lib.hid (by rw [HD0.out, ← HDR.out, List.drop_eq_nil_of_le (by rw [HN.out]; exact Nat.le_refl _)]; rfl)
      go_wp2
      go_ret
      exact ⟨ret_bool HR.out.symm, HE.out⟩

set_option linter.unusedVariables false in
set_option linter.unusedSimpArgs false in
set_option maxRecDepth 100000 in
set_option maxHeartbeats 4000000 in
theorem specDeadInstances_any (v : Value) (ars : List Arr) (ps : List Pt) (w : World) (hp : PrR w v ars ps) :
    Calls Tryz.prog 24 #[v] w fun e w' => (∃ v', e = .returned v' ∧ IntsOwn w.heap.size w' v' (ddB ars ps)) ∧ Ext w w' := by
  obtain ⟨qa, ca, qp, cp, rfl, hla, hlp, ha, hps⟩ := hp.parts
  obtain ⟨na, hna⟩ : ∃ n, ars.length = n := ⟨_, rfl⟩
  obtain ⟨np, hnp⟩ : ∃ n, ps.length = n := ⟨_, rfl⟩
  rw [hna, hnp] at hp ⊢
  obtain ⟨pb, hpb⟩ : ∃ a, progB ars ps = a := ⟨_, rfl⟩
  have HP := Lib.hid hp; have HPB := Lib.hid hpb
  clear hp ha hps hna hnp hpb
  go_enter Tryz.func24, Tryz.ntmps24
  go_wp2_with (fail)
  obtain ⟨W1, hW1⟩ : ∃ W1, w.alloc (.cells #[.slice qa na ca, .slice qp np cp] 32) = W1 := ⟨_, rfl⟩
  have E1 : Hid (Ext w W1) := Lib.hid (by rw [← hW1]; exact (Ext.refl w).alloc _)
  have B1 := Lib.hid (show W1.heap[w.heap.size]? = some (.cells #[.slice qa na ca, .slice qp np cp] 32 (0, 0)) by rw [← hW1]; exact blk_at rfl)
  have HSW1 : Hid (W1.heap.size = w.heap.size + 1) := Lib.hid (by rw [← hW1]; simp)
  try rw [hW1]
  clear hW1
  obtain ⟨i0, hi, hz0, hz1, hz2⟩ := info_parts infoInt
  obtain ⟨W2, hW2⟩ : ∃ W2, W1.alloc (.cells #[] 3) = W2 := ⟨_, rfl⟩
  have O2 : Hid (W2.ownsRow (w.heap.size + 1) 3 1 (.slice (some ⟨w.heap.size + 1, 0, none⟩) 0 0) 0 []) := Lib.hid (by have h := World.ownsRow_made (e := 3) (size := 1) W1 #[] 0 (Nat.le_refl _) (Nat.zero_le _) rfl; rw [HSW1.out, hW2] at h; exact h)
  have E2 : Hid (Ext W1 W2) := Lib.hid (by rw [← hW2]; exact (Ext.refl W1).alloc _)
  have HS2 : Hid (W2.heap.size = w.heap.size + 2) := Lib.hid (by rw [← hW2]; simp [HSW1.out])
  try rw [hW2]
  clear hW2
  refine (specProgramValid_any _ ars ps _ (HP.out.ext (E1.out.trans E2.out))).mono ?_
  rw [HPB.out]
  rintro e w3 ⟨rfl, hE3⟩
  have E3 := Lib.hid (E2.out.trans hE3); have O3 := Lib.hid (ownsRow_ext O2.out hE3); have B3 := Lib.hid ((E2.out.trans hE3).blk B1.out); have HS3 := Lib.hid hE3.size_le
  clear hE3
  cases pb with
  | false =>
    have HR : Hid (ddB ars ps = []) := Lib.hid (by unfold ddB; rw [HPB.out]; rfl)
    go_wp2
    go_ret
    exact ⟨⟨_, rfl, by rw [HR.out]; exact IntsOwn.weak (IntsOwn.mk (xs := []) O3.out rfl) (Nat.le_succ _)⟩, E1.out.trans E3.out⟩
  | true =>
    obtain ⟨y0, y1, -, -⟩ := blk2 B3.out
    have hM120 := insM_120 HPB.out
    obtain ⟨M, hM⟩ : ∃ M, (insM ps).length = M := ⟨_, rfl⟩
    obtain ⟨us, hus⟩ : ∃ us, usesM ars ps = us := ⟨_, rfl⟩
    have HR : Hid (ddB ars ps = ddTo us M) := Lib.hid (by unfold ddB; rw [if_pos HPB.out, hM, hus])
    have HUM : Hid (us.length = M) := Lib.hid (by rw [← hus, usesM_len, hM])
    have HM := Lib.hid hM; have HUS := Lib.hid hus
    rw [hM] at hM120
    clear hM hus
    go_wp2_with (fail)
    refine (l6Uses_any _ ars ps _ (HP.out.ext (E1.out.trans E3.out)) HPB.out).mono ?_
    rintro e w4 ⟨⟨q, c, rfl, hu⟩, hE4⟩
    rw [HM.out, HUS.out] at hu
    rw [HM.out]
    have HU := Lib.hid hu; have E4 := Lib.hid (E3.out.trans hE4); have O4 := Lib.hid (ownsRow_ext O3.out hE4)
    clear hu hE4 y0 y1
    go_wp2
    go_loopw [3, 5] (fun ov iv wr => ∃ (k m : Nat) (po : Option Addr) (co : Nat), k ≤ M ∧ iv = .int .i64 k ∧ ov = .slice po m co ∧ (ddTo us k).length = m ∧ wr.ownsRow (w.heap.size + 1) 3 1 (.slice po m co) m ((ddTo us k).map (Value.int .i64)) ∧ (∀ b, (Value.slice po m co).ownBlock = some b → b < w3.heap.size ∨ w4.heap.size ≤ b) ∧ Lv (fun b => b < w3.heap.size ∨ w4.heap.size ≤ b) w4 wr ∧ Ext W1 wr) (fun _ iv _ => M - (intOf iv).toNat)
    case atStart => exact ⟨0, 0, _, _, by omega, rfl, rfl, rfl, O4.out, fun b hb => .inl (by simp [Value.ownBlock] at hb; have := HS2.out; have := HS3.out; omega), Lv.refl _ _, E4.out⟩
    case round =>
      obtain ⟨k, m, po, co, hk, rfl, rfl, hm, ho, hbk, hl, hE⟩ := hrel
      have hm0 := ddTo_len us k
      rw [hm] at hm0
      have HMM := Lib.hid hm; have HO := Lib.hid ho; have HBK := Lib.hid hbk; have HL := Lib.hid hl; have HE := Lib.hid hE
      clear O4 E4 hm ho hbk hl hE
      by_cases hlt : k < M
      · have HU' := Lib.hid (HU.out.lvB HL.out (fun b h1 h2 => by omega))
        obtain ⟨bd, hbd⟩ : ∃ b, deadB us k = b := ⟨_, rfl⟩
        have HBD := Lib.hid hbd
        have hkI : (k : Int) < (M : Int) := by omega
        clear hbd
        go_wp2_with (fail)
        refine (l6Dead_any w3.heap.size q M c us k _ HUM.out (by omega) hlt HU'.out).mono ?_
        rw [HBD.out]
        rintro e w5 ⟨rfl, hE5⟩
        have HO5 := Lib.hid (ownsRow_ext HO.out hE5); have HL5 := Lib.hid (HL.out.trans hE5.lv (fun b _ h => h) (D' := fun b => b < w3.heap.size ∨ w4.heap.size ≤ b) (fun b _ h => h)); have E5 := Lib.hid (HE.out.trans hE5)
        have HS5 : Hid (w4.heap.size ≤ w5.heap.size) := Lib.hid HL5.out.size
        clear hE5 HU'
        cases bd with
        | true =>
          have HN1 := Lib.hid (ddTo_yes HBD.out)
          obtain ⟨X, hX⟩ : ∃ X, ddTo us k = X := ⟨_, rfl⟩
          rw [hX] at HMM HO5 HN1
          have HOX := Lib.hid (ownsRow_ext HO5.out ((Ext.refl w5).alloc (.cells #[.int .i64 (k : Int)] 3)))
          have hsz : w.heap.size + 1 ≤ w5.heap.size := by have := E5.out.size_le; have := HSW1.out; omega
          have hbkx := HBK.out
          clear hX
          go_wp2_with (at_builtin; refine wpList_append_own_at _ rfl (.tmp 22) (.tmp 24) 27 rfl (w.heap.size + 1) 3 i0 (.int .i64 0) 1 8 Tryz.underlying27 hi hz0 hz1 hz2 rfl (by decide) (.slice po m co) m _ rfl HOX.out ⟨w5.heap.size, 0, none⟩ 1 1 [.int .i64 (k : Int)] rfl rfl ?c1 ?c2 ?c3 ?c4 ?c5 ?_)
          case c1 => exact one_cell (by simp)
          case c2 => intro u hu; simp at hu; subst hu; rfl
          case c3 => unfold maxLen; omega
          case c4 => omega
          case c5 => simp; omega
          intro v' w6 hown' hgrow _ hat
          obtain ⟨po', co', rfl⟩ : ∃ po' co', v' = .slice po' (m + 1) co' := by
            rcases hown'.2 with ⟨rfl, hn0⟩ | ⟨g', cap, cur, e, _⟩
            · exact absurd hn0 (by omega)
            · exact ⟨_, cap, e⟩
          have HRW' : Hid (w6.ownsRow (w.heap.size + 1) 3 1 (.slice po' (m + 1) co') (m + 1) ((ddTo us (k + 1)).map (Value.int .i64))) := Lib.hid (by rw [HN1.out, List.map_append]; simpa using hown')
          have HM1 : Hid ((ddTo us (k + 1)).length = m + 1) := Lib.hid (by rw [HN1.out, List.length_append, HMM.out]; rfl)
          have HE6 := Lib.hid ((E5.out.alloc (.cells #[.int .i64 (k : Int)] 3)).grown hgrow (fun b hb => by have := (HOX.out.lt b hb).1; have := HSW1.out; omega))
          have HL6 : Hid (Lv (fun b => b < w3.heap.size ∨ w4.heap.size ≤ b) w4 w6) := Lib.hid (HL5.out.trans (D' := fun b => b < w3.heap.size ∨ w4.heap.size ≤ b) ((Lv.alloc _ w5 _).trans (D' := fun b => b < w3.heap.size ∨ w4.heap.size ≤ b) (Lv.grown hgrow (fun r hr _ => hbkx r hr)) (fun b _ h => h) (fun b _ h => h)) (fun b _ h => h) (fun b _ h => h))
          have HB6 : Hid (∀ b, (Value.slice po' (m + 1) co').ownBlock = some b → b < w3.heap.size ∨ w4.heap.size ≤ b) := Lib.hid (fun b hb => by
            rcases hat with h | h
            · exact hbkx b (h ▸ hb)
            · have e1 : b = w5.heap.size + 1 := Option.some.inj (hb.symm.trans h)
              have := HS5.out
              omega)
          clear hown' hgrow hat hbkx
          go_wp2
          go_roundw
          case rel => exact ⟨k + 1, m + 1, _, _, by omega, by go_num, rfl, HM1.out, HRW'.out, HB6.out, HL6.out, HE6.out⟩
          case measure => simp [intOf]; omega
        | false =>
          have HN1 := Lib.hid (ddTo_no HBD.out)
          go_wp2
          go_roundw
          case rel => exact ⟨k + 1, m, _, _, by omega, by go_num, rfl, by rw [HN1.out]; exact HMM.out, by rw [HN1.out]; exact HO5.out, HBK.out, HL5.out, E5.out⟩
          case measure => simp [intOf]; omega
      · obtain rfl : k = M := by omega
        go_wp2
        go_ret
        exact ⟨⟨_, rfl, by rw [HR.out]; exact IntsOwn.weak (IntsOwn.mk HO.out HMM.out) (Nat.le_succ _)⟩, E1.out.trans HE.out⟩
end Go.Proofs.YtbcjllanigmioaaGreat

/- The texts G55, joined. No statement is proved here. -/
import Derived.Test.YtbcjllanigmioaaGreatK53
/- Flow sources: pure facts, the model's l6Source and FlowSources. No statement is proved here. -/
namespace Go.Proofs.YtbcjllanigmioaaGreat
open Go.RowKit Go.Maps

def lastW (us : List Us) : Nat → Int → Option Nat
  | 0, _ => none
  | k + 1, c => match us[k]? with
    | none => lastW us k c
    | some u => if c = u.2 then some k else lastW us k c
def srcI : Option Nat → Int
  | none => -1
  | some n => (n : Int)
def srcB (us : List Us) (t : Nat) : List Int := match us[t]? with
  | none => []
  | some u => u.1.map (fun c => srcI (lastW us t c))
def fsOk (ars : List Arr) (ps : List Pt) (z : Int) : Bool := progB ars ps && (decide (0 ≤ z) && decide (z < ((insM ps).length : Int)))
def fsB (ars : List Arr) (ps : List Pt) (z : Int) : List Int := if fsOk ars ps z = true then srcB (usesM ars ps) z.toNat else []
theorem lastW_next {us : List Us} {k : Nat} {u : Us} (c : Int) (h : us[k]? = some u) : lastW us (k + 1) c = if c = u.2 then some k else lastW us k c := by simp only [lastW, h]
theorem srcB_at {us : List Us} {t : Nat} {u : Us} (h : us[t]? = some u) : srcB us t = u.1.map (fun c => srcI (lastW us t c)) := by unfold srcB; rw [h]
theorem fs_no {ars : List Arr} {ps : List Pt} {z : Int} (h : fsOk ars ps z = false) : fsB ars ps z = [] := by unfold fsB; rw [h]; rfl
theorem fs_yes {ars : List Arr} {ps : List Pt} {z : Int} (h : fsOk ars ps z = true) : fsB ars ps z = srcB (usesM ars ps) z.toNat := by unfold fsB; rw [if_pos h]

set_option linter.unusedVariables false in
set_option linter.unusedSimpArgs false in
set_option maxRecDepth 100000 in
set_option maxHeartbeats 2000000 in
theorem l6Source_any (B : Nat) (p : Option Addr) (n c : Nat) (us : List Us) (t : Nat) (cl : Int) (w : World) (hn : us.length = n) (hn2 : n ≤ 1000) (htn : t ≤ n) (hu : UsesOwn B w (.slice p n c) us) :
    Calls Tryz.prog 68 #[.slice p n c, .int .i64 (t : Int), .int .i64 cl] w fun e w' => e = .returned (.int .i64 (srcI (lastW us t cl))) ∧ Ext w w' := by
  obtain ⟨ans, hans⟩ : ∃ z, srcI (lastW us t cl) = z := ⟨_, rfl⟩
  rw [hans]
  have HANS := Lib.hid hans; have HN := Lib.hid hn; have HU := Lib.hid hu
  clear hn hu hans
  go_enter Tryz.func68, Tryz.ntmps68
  go_wp2
  go_loopw [7] (fun iv wr => ∃ x : Int, -1 ≤ x ∧ x < (t : Int) ∧ iv = .int .i64 x ∧ srcI (lastW us (x + 1).toNat cl) = ans ∧ Ext w wr) (fun iv _ => (intOf iv + 1).toNat)
  case atStart => exact ⟨(t : Int) - 1, by omega, by omega, by go_num, by rw [show ((t : Int) - 1 + 1).toNat = t by omega]; exact HANS.out, Ext.refl w⟩
  case round =>
    obtain ⟨x, hx1, hxt, rfl, hs, hE⟩ := hrel
    have HS := Lib.hid hs; have HE := Lib.hid hE
    clear hs hE
    by_cases h0 : 0 ≤ x
    · obtain ⟨i, rfl⟩ : ∃ i : Nat, x = i := ⟨x.toNat, by omega⟩
      obtain ⟨y, hy⟩ := get_some (xs := us) (k := i) (by rw [HN.out]; omega)
      have HU' := Lib.hid (HU.out.ext HE.out)
      obtain ⟨o, s, sk, rfl, -, z0, z1, -⟩ := HU'.out.elem hy
      have HST : Hid (ans = srcI (if cl = y.2 then some i else lastW us i cl)) := Lib.hid (by rw [← lastW_next cl hy, ← HS.out]; rfl)
      have hiI : (i : Int) < (n : Int) := by omega
      have hb0 : decide ((0 : Int) ≤ (i : Int)) = true := by simp
      clear hy z0
      by_cases he : y.2 = cl
      · have hb : (y.2 == cl) = true := by simpa using he
        have HR : Hid (ans = (i : Int)) := Lib.hid (by rw [HST.out, if_pos he.symm]; rfl)
        clear he
        go_wp2
        go_ret
        exact ⟨ret_int HR.out.symm, HE.out⟩
      · have hb : (y.2 == cl) = false := by simpa using he
        have HR : Hid (srcI (lastW us ((i : Int) - 1 + 1).toNat cl) = ans) := Lib.hid (by rw [HST.out, if_neg (Ne.symm he), show ((i : Int) - 1 + 1).toNat = i by omega])
        clear he
        go_wp2
        go_roundw
        case rel => exact ⟨(i : Int) - 1, by omega, by omega, by go_num, HR.out, HE.out⟩
        case measure => simp [intOf] <;> omega
    · obtain rfl : x = -1 := by omega
      have HR : Hid (ans = -1) := Lib.hid (by rw [← HS.out]; rfl)
      go_wp2
      go_ret
      exact ⟨ret_int HR.out.symm, HE.out⟩

set_option linter.unusedVariables false in
set_option linter.unusedSimpArgs false in
set_option maxRecDepth 100000 in
set_option maxHeartbeats 4000000 in
theorem specFlowSources_any (v : Value) (ars : List Arr) (ps : List Pt) (zt : Int) (w : World) (hp : PrR w v ars ps) :
    Calls Tryz.prog 28 #[v, .int .i64 zt] w fun e w' => (∃ v', e = .returned (.tuple #[v', .bool (fsOk ars ps zt)]) ∧ IntsOwn w.heap.size w' v' (fsB ars ps zt)) ∧ Ext w w' := by
  obtain ⟨i0, hi, hz0, hz1, hz2⟩ := info_parts infoInt
  obtain ⟨qa, ca, qp, cp, rfl, hla, hlp, ha, hps⟩ := hp.parts
  obtain ⟨na, hna⟩ : ∃ n, ars.length = n := ⟨_, rfl⟩
  obtain ⟨np, hnp⟩ : ∃ n, ps.length = n := ⟨_, rfl⟩
  rw [hna, hnp] at hp ⊢
  obtain ⟨pb, hpb⟩ : ∃ a, progB ars ps = a := ⟨_, rfl⟩
  obtain ⟨ob, hob⟩ : ∃ a, fsOk ars ps zt = a := ⟨_, rfl⟩
  rw [hob]
  have HP := Lib.hid hp; have HPB := Lib.hid hpb; have HOB := Lib.hid hob
  clear hp ha hps hna hnp hpb hob
  go_enter Tryz.func28, Tryz.ntmps28
  go_wp2_with (fail)
  obtain ⟨W1, hW1⟩ : ∃ W1, w.alloc (.cells #[.slice qa na ca, .slice qp np cp] 32) = W1 := ⟨_, rfl⟩
  have E1 : Hid (Ext w W1) := Lib.hid (by rw [← hW1]; exact (Ext.refl w).alloc _)
  have B1 := Lib.hid (show W1.heap[w.heap.size]? = some (.cells #[.slice qa na ca, .slice qp np cp] 32 (0, 0)) by rw [← hW1]; exact blk_at rfl)
  have HSW1 : Hid (W1.heap.size = w.heap.size + 1) := Lib.hid (by rw [← hW1]; simp)
  try rw [hW1]
  clear hW1
  obtain ⟨W2, hW2⟩ : ∃ W2, W1.alloc (.cells #[] 3) = W2 := ⟨_, rfl⟩
  have O2 : Hid (W2.ownsRow (w.heap.size + 1) 3 1 (.slice (some ⟨w.heap.size + 1, 0, none⟩) 0 0) 0 []) := Lib.hid (by have h := World.ownsRow_made (e := 3) (size := 1) W1 #[] 0 (Nat.le_refl _) (Nat.zero_le _) rfl; rw [HSW1.out, hW2] at h; exact h)
  have E2 : Hid (Ext W1 W2) := Lib.hid (by rw [← hW2]; exact (Ext.refl W1).alloc _)
  have HS2 : Hid (W2.heap.size = w.heap.size + 2) := Lib.hid (by rw [← hW2]; simp [HSW1.out])
  try rw [hW2]
  clear hW2
  refine (specProgramValid_any _ ars ps _ (HP.out.ext (E1.out.trans E2.out))).mono ?_
  rw [HPB.out]
  rintro e w3 ⟨rfl, hE3⟩
  have E3 := Lib.hid (E2.out.trans hE3); have O3 := Lib.hid (ownsRow_ext O2.out hE3); have B3 := Lib.hid ((E2.out.trans hE3).blk B1.out); have HS3 := Lib.hid hE3.size_le
  clear hE3
  cases pb with
  | false =>
    obtain rfl : ob = false := by rw [← HOB.out]; unfold fsOk; rw [HPB.out]; rfl
    have HR := Lib.hid (fs_no HOB.out)
    go_wp2
    go_ret2
    exact ⟨⟨_, rfl, by rw [HR.out]; exact IntsOwn.weak (IntsOwn.mk (xs := []) O3.out rfl) (Nat.le_succ _)⟩, E1.out.trans E3.out⟩
  | true =>
    obtain ⟨y0, y1, -, -⟩ := blk2 B3.out
    have hM120 := insM_120 HPB.out
    obtain ⟨M, hM⟩ : ∃ M, (insM ps).length = M := ⟨_, rfl⟩
    obtain ⟨us, hus⟩ : ∃ us, usesM ars ps = us := ⟨_, rfl⟩
    have HRL : Hid (∀ u ∈ us, u.1.length ≤ 1000) := Lib.hid (by rw [← hus, usesM_ev]; exact ev_reads HPB.out)
    have HUM : Hid (us.length = M) := Lib.hid (by rw [← hus, usesM_len, hM])
    have HM := Lib.hid hM; have HUS := Lib.hid hus
    rw [hM] at hM120
    clear hM hus
    go_wp2_with (fail)
    refine (l6Uses_any _ ars ps _ (HP.out.ext (E1.out.trans E3.out)) HPB.out).mono ?_
    rintro e w4 ⟨⟨q, c, rfl, hu⟩, hE4⟩
    rw [HM.out, HUS.out] at hu
    rw [HM.out]
    have HU := Lib.hid hu; have E4 := Lib.hid (E3.out.trans hE4); have O4 := Lib.hid (ownsRow_ext O3.out hE4)
    clear hu hE4 y0 y1
    by_cases h0 : zt < 0
    · have hb : decide (zt < 0) = true := by simpa using h0
      obtain rfl : ob = false := by rw [← HOB.out]; unfold fsOk; rw [decide_eq_false (by omega : ¬ 0 ≤ zt)]; simp
      have HR := Lib.hid (fs_no HOB.out)
      go_wp2
      go_ret2
      exact ⟨⟨_, rfl, by rw [HR.out]; exact IntsOwn.weak (IntsOwn.mk (xs := []) O4.out rfl) (Nat.le_succ _)⟩, E1.out.trans E4.out⟩
    · have hb : decide (zt < 0) = false := by simpa using h0
      by_cases h1 : (M : Int) ≤ zt
      · have hb2 : decide ((M : Int) ≤ zt) = true := by simpa using h1
        obtain rfl : ob = false := by rw [← HOB.out]; unfold fsOk; rw [decide_eq_false (by rw [HM.out]; omega : ¬ zt < ((insM ps).length : Int))]; simp
        have HR := Lib.hid (fs_no HOB.out)
        go_wp2
        go_ret2
        exact ⟨⟨_, rfl, by rw [HR.out]; exact IntsOwn.weak (IntsOwn.mk (xs := []) O4.out rfl) (Nat.le_succ _)⟩, E1.out.trans E4.out⟩
      · have hb2 : decide ((M : Int) ≤ zt) = false := by simpa using h1
        obtain rfl : ob = true := by rw [← HOB.out]; unfold fsOk; rw [HPB.out, decide_eq_true (by omega : 0 ≤ zt), decide_eq_true (by rw [HM.out]; omega : zt < ((insM ps).length : Int))]; rfl
        have hR0 := fs_yes HOB.out
        obtain ⟨t, rfl⟩ : ∃ t : Nat, zt = t := ⟨zt.toNat, by omega⟩
        have htM : t < M := by omega
        rw [HUS.out, Int.toNat_natCast] at hR0
        obtain ⟨x, hx⟩ := get_some (xs := us) (k := t) (by rw [HUM.out]; exact htM)
        rw [srcB_at hx] at hR0
        have hR1000 := HRL.out x (List.mem_of_getElem? hx)
        obtain ⟨o, r, rk, rfl, hol, -, -, -⟩ := HU.out.elem hx
        obtain ⟨rs, wv⟩ := x
        dsimp only at hR0 hR1000
        obtain ⟨R, hR⟩ : ∃ R, rs.length = R := ⟨_, rfl⟩
        rw [hR] at hR1000
        obtain ⟨L, hL⟩ : ∃ L, rs.map (fun c => srcI (lastW us t c)) = L := ⟨_, rfl⟩
        rw [hL] at hR0
        have HLL : Hid (L.length = R) := Lib.hid (by rw [← hL, List.length_map, hR])
        have HLG : Hid (∀ (j : Nat) (c : Int), rs[j]? = some c → L[j]? = some (srcI (lastW us t c))) := Lib.hid (fun j c h => by rw [← hL, List.getElem?_map, h]; rfl)
        have HR0 := Lib.hid hR0; have HX := Lib.hid hx; have HRR := Lib.hid hR
        have htI : (t : Int) < (M : Int) := by omega
        have hb3 : decide (M ≤ t) = false := by simp; omega
        clear hR0 hx hR hL h0 h1
        go_wp2
        clear hb hb2 hb3
        go_loopw [6, 8] (fun ov iv wr => ∃ (k : Nat) (po : Option Addr) (co : Nat), k ≤ R ∧ iv = .int .i64 k ∧ ov = .slice po k co ∧ wr.ownsRow (w.heap.size + 1) 3 1 (.slice po k co) k ((L.take k).map (Value.int .i64)) ∧ (∀ b, (Value.slice po k co).ownBlock = some b → b < w3.heap.size ∨ w4.heap.size ≤ b) ∧ Lv (fun b => b < w3.heap.size ∨ w4.heap.size ≤ b) w4 wr ∧ Ext W1 wr) (fun _ iv _ => R - (intOf iv).toNat)
        case atStart => exact ⟨0, _, _, by omega, rfl, rfl, O4.out, fun b hb => .inl (by simp [Value.ownBlock] at hb; have := HS2.out; have := HS3.out; omega), Lv.refl _ _, E4.out⟩
        case round =>
          obtain ⟨k, po, co, hk, rfl, rfl, ho, hbk, hl, hE⟩ := hrel
          have HO := Lib.hid ho; have HBK := Lib.hid hbk; have HL := Lib.hid hl; have HE := Lib.hid hE
          clear O4 E4 ho hbk hl hE
          have HU' := Lib.hid (HU.out.lvB HL.out (fun b h1 h2 => by omega))
          obtain ⟨o', s, sk, ho', -, x0, x1, hrx⟩ := HU'.out.elem HX.out
          obtain rfl : o = o' := by cases ho'; rfl
          dsimp only at x0 x1 hrx
          rw [HRR.out] at x0 hrx
          have HRX := Lib.hid hrx
          clear ho' hrx x1
          by_cases hlt : k < R
          · obtain ⟨cl, hcl⟩ := get_some (xs := rs) (k := k) (by rw [HRR.out]; exact hlt)
            obtain ⟨gs, rfl⟩ := HRX.out.atBlock hcl
            have hcx := HRX.out.cellI hcl
            have HLK := Lib.hid (HLG.out k cl hcl)
            have hkI : (k : Int) < (R : Int) := by omega
            clear hcl
            go_wp2_with (fail)
            refine (l6Source_any w3.heap.size (some ⟨o, 0, none⟩) M c us t cl _ HUM.out (by omega) (by omega) HU'.out).mono ?_
            obtain ⟨y, hy⟩ : ∃ y, srcI (lastW us t cl) = y := ⟨_, rfl⟩
            rw [hy]
            rintro e w5 ⟨rfl, hE5⟩
            have HO5 := Lib.hid (ownsRow_ext HO.out hE5); have HL5 := Lib.hid (HL.out.trans hE5.lv (fun b _ h => h) (D' := fun b => b < w3.heap.size ∨ w4.heap.size ≤ b) (fun b _ h => h)); have E5 := Lib.hid (HE.out.trans hE5)
            have HS5 : Hid (w4.heap.size ≤ w5.heap.size) := Lib.hid HL5.out.size
            have HN1 : Hid (L.take (k + 1) = L.take k ++ [y]) := Lib.hid (by rw [take_next HLK.out, hy])
            have HOX := Lib.hid (ownsRow_ext HO5.out ((Ext.refl w5).alloc (.cells #[.int .i64 y] 3)))
            have hsz : w.heap.size + 1 ≤ w5.heap.size := by have := E5.out.size_le; have := HSW1.out; omega
            have hbkx := HBK.out
            clear hE5 HU' hy x0 hcx
            go_wp2_with (at_builtin; refine wpList_append_own_at _ rfl (.tmp 35) (.tmp 47) 27 rfl (w.heap.size + 1) 3 i0 (.int .i64 0) 1 8 Tryz.underlying27 hi hz0 hz1 hz2 rfl (by decide) (.slice po k co) k _ rfl HOX.out ⟨w5.heap.size, 0, none⟩ 1 1 [.int .i64 y] rfl rfl ?c1 ?c2 ?c3 ?c4 ?c5 ?_)
            case c1 => exact one_cell (by simp)
            case c2 => intro u hu; simp at hu; subst hu; rfl
            case c3 => unfold maxLen; omega
            case c4 => omega
            case c5 => simp; omega
            intro v' w6 hown' hgrow _ hat
            obtain ⟨po', co', rfl⟩ : ∃ po' co', v' = .slice po' (k + 1) co' := by
              rcases hown'.2 with ⟨rfl, hn0⟩ | ⟨g', cap, cur, e, _⟩
              · exact absurd hn0 (by omega)
              · exact ⟨_, cap, e⟩
            have HRW' : Hid (w6.ownsRow (w.heap.size + 1) 3 1 (.slice po' (k + 1) co') (k + 1) ((L.take (k + 1)).map (Value.int .i64))) := Lib.hid (by rw [HN1.out, List.map_append]; simpa using hown')
            have HE6 := Lib.hid ((E5.out.alloc (.cells #[.int .i64 y] 3)).grown hgrow (fun b hb => by have := (HOX.out.lt b hb).1; have := HSW1.out; omega))
            have HL6 : Hid (Lv (fun b => b < w3.heap.size ∨ w4.heap.size ≤ b) w4 w6) := Lib.hid (HL5.out.trans (D' := fun b => b < w3.heap.size ∨ w4.heap.size ≤ b) ((Lv.alloc _ w5 _).trans (D' := fun b => b < w3.heap.size ∨ w4.heap.size ≤ b) (Lv.grown hgrow (fun r hr _ => hbkx r hr)) (fun b _ h => h) (fun b _ h => h)) (fun b _ h => h) (fun b _ h => h))
            have HB6 : Hid (∀ b, (Value.slice po' (k + 1) co').ownBlock = some b → b < w3.heap.size ∨ w4.heap.size ≤ b) := Lib.hid (fun b hb => by
              rcases hat with h | h
              · exact hbkx b (h ▸ hb)
              · have e1 : b = w5.heap.size + 1 := Option.some.inj (hb.symm.trans h)
                have := HS5.out
                omega)
            clear hown' hgrow hat hbkx
            go_wp2
            go_roundw
            case rel => exact ⟨k + 1, _, _, by omega, by go_num, rfl, HRW'.out, HB6.out, HL6.out, HE6.out⟩
            case measure => simp [intOf]; omega
          · obtain rfl : k = R := by omega
            go_wp2
            go_ret2
            exact ⟨⟨_, rfl, by rw [HR0.out]; exact IntsOwn.weak (IntsOwn.mk (by have h := HO.out; rwa [List.take_of_length_le (by rw [HLL.out]; exact Nat.le_refl _)] at h) HLL.out) (Nat.le_succ _)⟩, E1.out.trans HE.out⟩
end Go.Proofs.YtbcjllanigmioaaGreat

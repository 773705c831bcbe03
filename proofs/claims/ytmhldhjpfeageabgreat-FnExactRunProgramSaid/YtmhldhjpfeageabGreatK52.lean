/- The texts E7 I7, joined. No statement is proved here. -/
import Derived.Test.YtmhldhjpfeageabGreatK47
/- The program's RunProgram. No statement is proved here. -/
namespace Go.Proofs.YtmhldhjpfeageabGreat
open Go.RowKit Go.Maps
def runM (ars : List Arr) (ys : List InsM) (xs : List Int) : List Int := ys.foldl (fun m y => exM ars m y) xs
theorem runM_len (ars : List Arr) : ∀ (ys : List InsM) (xs : List Int), (runM ars ys xs).length = xs.length
 | [], _ => rfl
 | y :: ys, xs => by
  show (runM ars ys (exM ars xs y)).length = _
  rw [runM_len ars ys, exM_len]
theorem runM_snoc (ars : List Arr) (ys : List InsM) (y : InsM) (xs : List Int) : runM ars (ys ++ [y]) xs = exM ars (runM ars ys xs) y := by simp [runM, List.foldl_append]
theorem runM_mem {ars : List Arr} {ps : List Pt} : ∀ {ys : List InsM} {xs : List Int}, (∀ y ∈ ys, y ∈ insM ps) → memB ars ps xs = true → memB ars ps (runM ars ys xs) = true
 | [], _, _, h => h
 | y :: ys, xs, hy, h => runM_mem (ys := ys) (xs := exM ars xs y) (fun z hz => hy z (by simp [hz])) (exM_mem h (hy y (by simp)))
def rpR (ars : List Arr) (ps : List Pt) (xs : List Int) : List Int := if memB ars ps xs = true then runM ars (insM ps) xs else []
theorem MachR.evs {L : Nat} {W : World} {a b c s f : Value} {q2 : Option Addr} {M c2 : Nat} {ars : List Arr} {ps : List Pt} {xs : List Int} (h : MachR L W (.agg #[a, b, c, .slice q2 M c2, s, f]) ars ps xs) :
  (insM ps).length = M ∧ ∃ B, EvsOwn B W (.slice q2 M c2) (evsOf ars ps) := by
 obtain ⟨Z, B, M0, Lo, Bm, D, q1, c1, q2, c2, pm, cm, pf, cf, hv, hom, hmi, hev, hZ, hLM, hZM, hmem, hml, hfs⟩ := h
 cases hv
 exact ⟨by simp [evsOf], B, hev.ext hZ⟩
set_option linter.unusedVariables false in
set_option linter.unusedSimpArgs false in
set_option maxRecDepth 100000 in
set_option maxHeartbeats 4000000 in
theorem RunProgram_any (v : Value) (ars : List Arr) (ps : List Pt) (pm : Option Addr) (m cm : Nat) (xs : List Int) (w : World) (hp : PrR w v ars ps) (hm : xs.length = m) (hs : IntsAt w (.slice pm m cm) xs) :
  Calls Tryz.prog 37 #[v, .slice pm m cm] w fun e w' => (∃ v', e = .returned (.tuple #[v', .bool (memB ars ps xs)]) ∧ IntsOwn w.heap.size w' v' (rpR ars ps xs)) ∧ Ext w w' := by
 obtain ⟨qa, ca, qp, cp, rfl, -, -, -, -⟩ := hp.parts
 have HP := Lib.hid hp; have HM := Lib.hid hm; have HS := Lib.hid hs
 clear hp hm hs
 go_enter Tryz.func37, Tryz.ntmps37
 go_wp2_with (fail)
 obtain ⟨W1, hW1⟩ : ∃ W1, (w.alloc (.cells #[.slice qa ars.length ca, .slice qp ps.length cp] 32)) = W1 := ⟨_, rfl⟩
 have E1 : Hid (Ext w W1) := Lib.hid (by rw [← hW1]; exact (Ext.refl w).alloc _)
 try rw [hW1]
 clear hW1
 refine (machineOf_any _ ars ps pm m cm xs _ (HP.out.ext E1.out) HM.out (HS.out.ext E1.out)).mono ?_
 rintro e w1 ⟨⟨v, rfl, h0, h1⟩, hE⟩
 have E2 := Lib.hid (E1.out.trans hE)
 obtain ⟨mb, hmb⟩ : ∃ b, memB ars ps xs = b := ⟨_, rfl⟩
 rw [hmb] at h0 h1 ⊢
 have HMB := Lib.hid hmb
 clear hE hmb
 cases mb with
 | false =>
  have hv := h0 rfl
  subst hv
  clear h0 h1
  have HR : Hid (rpR ars ps xs = []) := Lib.hid (by unfold rpR; rw [HMB.out]; rfl)
  go_wp2
  obtain ⟨w2, hw2⟩ : ∃ w2, w1.alloc (.cells #[.map none, .int .i64 0, .slice none 0 0, .slice none 0 0, .slice none 0 0, .slice none 0 0] 106) = w2 := ⟨_, rfl⟩
  have E3 : Hid (Ext w w2) := Lib.hid (by rw [← hw2]; exact E2.out.alloc _)
  have K2 := Lib.hid (show w2.heap[w1.heap.size]? = some (.cells #[.map none, .int .i64 0, .slice none 0 0, .slice none 0 0, .slice none 0 0, .slice none 0 0] 106 (0, 0)) by rw [← hw2]; exact blk_at rfl)
  try rw [hw2]
  clear hw2
  go_loopw [20] (fun iv wr => iv = .int .i64 0 ∧ wr = w2) (fun _ _ => 0)
  case atStart => exact ⟨rfl, rfl⟩
  case round =>
   obtain ⟨rfl, rfl⟩ := hrel
   obtain ⟨-, -, -, -, s4, -, -⟩ := blk6 K2.out
   go_wp2
   exact bodyPost_ret (v := .tuple #[.slice none 0 0, .bool false]) (by simp [results, Tryz.results37, go_sem]) rfl ⟨⟨_, by rw [HMB.out], by rw [HR.out]; exact World.ownsRow_nil _ _ _ _⟩, E3.out⟩
 | true =>
  have hM := h1 rfl
  obtain ⟨mo, T, q1, n1, c1, q2, M, c2, q3, n3, c3, q4, n4, c4, rfl⟩ := mach_form h0 h1
  obtain ⟨hMl, -⟩ := hM.evs
  have hM120 : M ≤ 120 := by have := insM_120 (memB_parts HMB.out).2.1; omega
  have HME := Lib.hid (hM.mem.block_lt)
  have HMR := Lib.hid hM; have HML := Lib.hid hMl
  have HR : Hid (rpR ars ps xs = runM ars (insM ps) xs) := Lib.hid (by unfold rpR; rw [HMB.out]; rfl)
  clear h0 h1 hM hMl
  go_wp2
  obtain ⟨w2, hw2⟩ : ∃ w2, w1.alloc (.cells #[.map mo, .int .i64 T, .slice q1 n1 c1, .slice q2 M c2, .slice q3 n3 c3, .slice q4 n4 c4] 106) = w2 := ⟨_, rfl⟩
  have E3 : Hid (Ext w1 w2) := Lib.hid (by rw [← hw2]; exact (Ext.refl w1).alloc _)
  have K2 := Lib.hid (show w2.heap[w1.heap.size]? = some (.cells #[.map mo, .int .i64 T, .slice q1 n1 c1, .slice q2 M c2, .slice q3 n3 c3, .slice q4 n4 c4] 106 (0, 0)) by rw [← hw2]; exact blk_at rfl)
  try rw [hw2]
  clear hw2
  have HLW := Lib.hid E1.out.size_le
  go_loopw [20] (fun iv wr => ∃ k : Nat, k ≤ M ∧ iv = .int .i64 k ∧ MachR W1.heap.size wr (.agg #[.map mo, .int .i64 T, .slice q1 n1 c1, .slice q2 M c2, .slice q3 n3 c3, .slice q4 n4 c4]) ars ps (runM ars ((insM ps).take k) xs) ∧ Lv (fun b => (Value.slice q3 n3 c3).ownBlock = some b) w2 wr) (fun iv _ => M - (intOf iv).toNat)
  case atStart => exact ⟨0, by omega, rfl, HMR.out.ext E3.out, Lv.refl _ _⟩
  case round =>
   obtain ⟨k, hk, rfl, hmr, hlv⟩ := hrel
   have HMK := Lib.hid hmr; have HLV := Lib.hid hlv
   have KR := Lib.hid (hlv.heap K2.out (fun h => by have := HME.out _ h; omega))
   clear hmr hlv
   by_cases hlt : k < M
   ·obtain ⟨y, hy⟩ := get_some (xs := insM ps) (k := k) (by rw [HML.out]; exact hlt)
    have hx : (evsOf ars ps)[k]? = some (evOf ars y) := by unfold evsOf; rw [List.getElem?_map, hy]; rfl
    obtain ⟨-, B, hev⟩ := HMK.out.evs
    obtain ⟨o, g, d1, r, kk, rfl, hol, e0, e1, e2, e3, e4, hpt, -⟩ := hev.elem hx
    have hyM := List.mem_of_getElem? hy
    have hmk := runM_mem (ys := (insM ps).take k) (fun z hz => List.mem_of_mem_take hz) HMB.out
    simp only [evOf] at e0 e1 e2 e3 e4 hpt
    have HV := Lib.hid (fun W' (hW : Ext wr W') => execute_any (HMK.out.ext hW) hmk hyM g d1 r (readCells ars y.2 y.1.2.2).length kk (hpt.at.ext hW))
    have HNX : Hid (runM ars ((insM ps).take (k + 1)) xs = exM ars (runM ars ((insM ps).take k) xs) y) := Lib.hid (by rw [take_next hy, runM_snoc])
    obtain ⟨lr, hlr⟩ : ∃ n, (readCells ars y.2 y.1.2.2).length = n := ⟨_, rfl⟩
    obtain ⟨wv, hwv⟩ : ∃ n, writeCell ars y.2 y.1.2.2 = n := ⟨_, rfl⟩
    obtain ⟨lp, hlp⟩ : ∃ n, y.1.2.2.length = n := ⟨_, rfl⟩
    obtain ⟨ii, hii⟩ : ∃ n, y.1.1 = n := ⟨_, rfl⟩
    obtain ⟨jj, hjj⟩ : ∃ n, y.1.2.1 = n := ⟨_, rfl⟩
    rw [hlr, hwv, hlp, hii, hjj] at HV
    rw [hii] at e0
    rw [hjj] at e1
    rw [hlp] at e2
    rw [hlr] at e3
    rw [hwv] at e4
    clear hy hx hev hpt hyM hmk hlr hwv hlp hii hjj
    have hlk := lt_of_block KR.out
    obtain ⟨s0, s1, s2, s3, s4, s5, -⟩ := blk6 KR.out
    go_wp2_with (fail)
    refine (HV.out _ ((Ext.refl wr).alloc _)).mono ?_
    rintro e w4 ⟨rfl, hMR4, gm4, _, _, _, _, _, _, _, he4, -, hg4, hL4⟩
    cases he4
    have HM4 : Hid (MachR W1.heap.size w4 (.agg #[.map mo, .int .i64 T, .slice q1 n1 c1, .slice (some ⟨o, 0, none⟩) M c2, .slice (some ⟨gm4, 0, none⟩) n3 c3, .slice q4 n4 c4]) ars ps (runM ars ((insM ps).take (k + 1)) xs)) := Lib.hid (by rw [HNX.out]; exact hMR4)
    have HL4 : Hid (Lv (fun b => (Value.slice (some ⟨gm4, 0, none⟩) n3 c3).ownBlock = some b) w2 w4) := Lib.hid ((HLV.out.trans (Ext.lv (D := fun _ => False) ((Ext.refl wr).alloc _)) (E := fun b => (Value.slice (some ⟨gm4, 0, none⟩) n3 c3).ownBlock = some b) (fun _ _ h => h) (fun _ _ h => h.elim)).trans hL4 (fun _ _ h => h) (fun b _ h => by simp [Value.ownBlock]; exact h.symm))
    clear hMR4 hL4 hg4 s0 s1 s2 s3 s4 s5 e0 e1 e2 e3 e4
    go_wp2
    go_roundw
    case rel => exact ⟨k + 1, by omega, by go_num, HM4.out, HL4.out⟩
    case measure => simp [intOf]; omega
   ·obtain rfl : k = M := by omega
    have HF : Hid (IntsOwn w.heap.size wr (.slice q3 n3 c3) (rpR ars ps xs)) := Lib.hid (by
     have h := HMK.out.mem
     rw [List.take_of_length_le (by rw [HML.out]; omega)] at h
     rw [HR.out]
     exact h.weak HLW.out)
    have HEF := Lib.hid (Lv.ext0 HLV.out (E2.out.trans E3.out) (fun b hb hd => by
     have h := HMR.out.mem.lt b hd
     have := HLW.out
     omega))
    obtain ⟨-, -, -, -, s4, -, -⟩ := blk6 KR.out
    go_wp2
    exact bodyPost_ret (v := .tuple #[.slice q3 n3 c3, .bool true]) (by simp [results, Tryz.results37, go_sem]) rfl ⟨⟨_, by rw [HMB.out], HF.out⟩, HEF.out⟩
end Go.Proofs.YtmhldhjpfeageabGreat
/- The model's RunProgram. No statement is proved here. -/
namespace Go.Proofs.YtmhldhjpfeageabGreat
open Go.RowKit Go.Maps
theorem InssOwn.lvB {D : Nat → Prop} {B : Nat} {w w' : World} {v : Value} {l : List In3} (h : InssOwn B w v l) (hv : Lv D w w') (hD : ∀ b, D b → b < B) : InssOwn B w' v l := by
 obtain ⟨vs, ho, he⟩ := h
 refine ⟨vs, row_lv ho hv (fun b hb hd => by have h3 := (World.ownsRow.lt ho b hb).1; have h4 := hD b hd; omega), fun i x hi => ?_⟩
 obtain ⟨u0, u1, u2, a0, a1, a2, b0, b1, b2⟩ := he i x hi
 exact ⟨u0, u1, u2, a0, a1, a2, b0, b1, IntsOwn.lvB b2 hv hD⟩
set_option linter.unusedVariables false in
set_option linter.unusedSimpArgs false in
set_option maxRecDepth 100000 in
set_option maxHeartbeats 4000000 in
theorem specRunProgram_any (v : Value) (ars : List Arr) (ps : List Pt) (pm : Option Addr) (m cm : Nat) (xs : List Int) (w : World) (hp : PrR w v ars ps) (hm : xs.length = m) (hs : IntsAt w (.slice pm m cm) xs) :
  Calls Tryz.prog 36 #[v, .slice pm m cm] w fun e w' => (∃ v', e = .returned (.tuple #[v', .bool (memB ars ps xs)]) ∧ IntsOwn w.heap.size w' v' (rpR ars ps xs)) ∧ Ext w w' := by
 obtain ⟨i0, hi, hz0, hz1, hz2⟩ := info_parts infoInt
 obtain ⟨q1, c1, q2, c2, rfl, la, lp, -, -⟩ := hp.parts
 have HP := Lib.hid hp; have HM := Lib.hid hm; have HS := Lib.hid hs
 obtain ⟨na, hna⟩ : ∃ m, ars.length = m := ⟨_, rfl⟩
 obtain ⟨np, hnp⟩ : ∃ m, ps.length = m := ⟨_, rfl⟩
 rw [hna] at HP ⊢
 rw [hnp] at HP ⊢
 obtain ⟨pb, hpb⟩ : ∃ b, memB ars ps xs = b := ⟨_, rfl⟩
 rw [hpb]
 have HPB := Lib.hid hpb
 clear hp hna hnp hpb hm hs la lp
 go_enter Tryz.func36, Tryz.ntmps36
 go_wp2_with (fail)
 obtain ⟨W1, hW1⟩ : ∃ W1, (w.alloc (.cells #[.slice q1 na c1, .slice q2 np c2] 32)) = W1 := ⟨_, rfl⟩
 have E1 : Hid (Ext w W1) := Lib.hid (by rw [← hW1]; exact (Ext.refl w).alloc _)
 have B1 := Lib.hid (show W1.heap[w.heap.size]? = some (.cells #[.slice q1 na c1, .slice q2 np c2] 32 (0, 0)) by rw [← hW1]; exact blk_at rfl)
 try rw [hW1]
 clear hW1
 refine (specMemoryValid_any _ ars ps pm m cm xs _ (HP.out.ext E1.out) HM.out (HS.out.ext E1.out)).mono ?_
 rw [HPB.out]
 rintro e w3 ⟨rfl, hE2⟩
 have E3 := Lib.hid (E1.out.trans hE2); have B3 := Lib.hid (hE2.blk B1.out); have S3 := Lib.hid (E1.out.trans hE2).size_le
 clear hE2
 cases pb with
 | false =>
  have HR : Hid (rpR ars ps xs = []) := Lib.hid (by unfold rpR; rw [HPB.out]; rfl)
  go_wp2
  refine bodyPost_ret (v := .tuple #[.slice (some ⟨w3.heap.size, 0, none⟩) 0 0, .bool false]) (by simp [results, Tryz.results36, go_sem]) rfl ⟨⟨_, rfl, ?_⟩, E3.out.alloc _⟩
  rw [HR.out]
  exact IntsOwn.mk (World.ownsRow_made w3 #[] 0 S3.out (Nat.zero_le _) rfl) rfl
 | true =>
  have HR : Hid (rpR ars ps xs = runM ars (insM ps) xs) := Lib.hid (by unfold rpR; rw [HPB.out]; rfl)
  obtain ⟨-, hprog, hlen⟩ := memB_parts HPB.out
  have HPG := Lib.hid hprog
  have hml : m ≤ 1048576 := by
   have htb := totN_bd (ars := ars) (by have h := progB_arrs hprog; simp only [arrsB, Bool.and_eq_true, List.all_eq_true] at h; exact h.1)
   have hal := arrs_len (progB_arrs hprog)
   have := HM.out
   omega
  obtain ⟨hmm, hmc⟩ := (HS.out.ext E3.out).cl
  clear hprog hlen
  go_upto_region 3 with (fail)
  go_cut [6] (fun s6 wc => ∃ (g cc : Nat), s6 = .slice (some ⟨g, 0, none⟩) m cc ∧ IntsOwn w3.heap.size wc (.slice (some ⟨g, 0, none⟩) m cc) xs ∧ Ext w3 wc)
  case first =>
   cases pm with
   | none =>
    have hm0 : m = 0 := by
     rcases Nat.eq_zero_or_pos m with h | h
     ·exact h
     ·obtain ⟨x0, hx0⟩ := get_some (xs := xs) (k := 0) (by rw [HM.out]; exact h)
      obtain ⟨b, off, e, -⟩ := hmc 0 x0 hx0
      cases e
    subst hm0
    obtain rfl : xs = [] := List.eq_nil_of_length_eq_zero HM.out
    clear hmc
    go_wp2_with (fail)
    go_meet
    exact ⟨_, _, rfl, IntsOwn.mk (World.ownsRow_made w3 #[] 0 (Nat.le_refl _) (Nat.zero_le _) rfl) rfl, (Ext.refl w3).alloc _⟩
   | some ad =>
    have HCL : Hid (∀ (j : Nat) (x : Int), xs[j]? = some x → w3.cell? (ad.add j) = some (.int .i64 x)) := Lib.hid (fun j x hx => by
     obtain ⟨b, off, e, h⟩ := hmc j x hx
     cases e
     have hadd : (⟨b, off, none⟩ : Addr).add j = ⟨b, off + j, none⟩ := by unfold Addr.add; split <;> simp_all
     rw [hadd]
     exact h)
    clear hmc
    go_wp2_with (at_builtin; refine wpList_append_own _ rfl (.tmp 14) (.tmp 15) 39 rfl w3.heap.size 3 i0 (.int .i64 0) 1 8 Tryz.underlying39 hi hz0 hz1 hz2 rfl (by decide) (.slice (some ⟨w3.heap.size, 0, none⟩) 0 0) 0 [] rfl (World.ownsRow_made w3 #[] 0 (Nat.le_refl _) (Nat.zero_le _) rfl) ad m cm (xs.map (Value.int .i64)) rfl ?c0 ?c1 ?c2 ?c3 ?c4 ?c5 ?_)
    case c0 => rw [List.length_map, HM.out, Nat.mul_one]
    case c1 =>
     intro j u hu
     rw [List.getElem?_map] at hu
     obtain ⟨x, hx, rfl⟩ := Option.map_eq_some_iff.1 hu
     exact ((Ext.refl w3).alloc _).keep (HCL.out j x hx)
    case c2 => exact ints_oneCell _ _
    case c3 => unfold maxLen; omega
    case c4 => omega
    case c5 => simp
    intro v' w4 hown hg hnn
    have hE : Ext w3 w4 := ((Ext.refl w3).alloc _).grown hg (fun k h => by cases h; exact Nat.le_refl _)
    have hne : v' ≠ .slice none 0 0 := hnn
    obtain ⟨g, cc, rfl⟩ : ∃ g cc, v' = .slice (some ⟨g, 0, none⟩) m cc := by
     rcases hown.2 with ⟨h, hz⟩ | ⟨g, cap, cur, h, hb, hgh, _⟩
     ·exact absurd h hne
     ·exact ⟨_, _, by simpa using h⟩
    have HO : Hid (IntsOwn w3.heap.size w4 (.slice (some ⟨g, 0, none⟩) m cc) xs) := Lib.hid (IntsOwn.mk (by simpa using hown) HM.out)
    have HE := Lib.hid hE
    clear hown hnn hne hE hg
    go_wp2_with (fail)
    go_meet
    exact ⟨_, _, rfl, HO.out, HE.out⟩
  case rest =>
   obtain ⟨g, cc, rfl, ho, hE⟩ := hcut
   have HO := Lib.hid ho; have E4 := Lib.hid hE; have B4 := Lib.hid (hE.blk B3.out)
   have HOB : Hid (w3.heap.size ≤ g ∧ g < wc.heap.size) := Lib.hid (World.ownsRow.lt ho g rfl)
   clear ho hE hmc
   obtain ⟨y0, y1, -, -⟩ := blk2 B4.out
   have hl4 := lt_of_block B4.out
   go_wp2_with (fail)
   refine (l4Instances_any _ ars ps _ (HP.out.ext (E3.out.trans E4.out)) HPG.out).mono ?_
   rintro e w5 ⟨⟨qi, ci, rfl, hins⟩, hE5⟩
   obtain ⟨M, hM⟩ : ∃ M, (insM ps).length = M := ⟨_, rfl⟩
   rw [hM] at hins ⊢
   have hM120 : M ≤ 120 := by have := insM_120 HPG.out; omega
   have HMl := Lib.hid hM; have HINS := Lib.hid hins; have E5 := Lib.hid hE5; have B5 := Lib.hid (hE5.blk B4.out); have HO5 := Lib.hid (HO.out.ext hE5)
   clear hins hE5 hM y0 y1 hl4
   go_wp2_with (fail)
   have hgw : w.heap.size < g := by have := lt_of_block B3.out; have := HOB.out.1; omega
   go_loopw [8] (fun iv wr => ∃ k : Nat, k ≤ M ∧ iv = .int .i64 k ∧ IntsOwn w3.heap.size wr (.slice (some ⟨g, 0, none⟩) m cc) (runM ars ((insM ps).take k) xs) ∧ Lv (fun b => b = g) w5 wr) (fun iv _ => M - (intOf iv).toNat)
   case atStart => exact ⟨0, by omega, rfl, HO5.out, Lv.refl _ _⟩
   case round =>
    obtain ⟨k, hk, rfl, ho, hlv⟩ := hrel
    have HK := Lib.hid ho; have HLV := Lib.hid hlv; have BR := Lib.hid (hlv.heap B5.out (by omega))
    have HIR := Lib.hid (InssOwn.lvB HINS.out hlv (fun b hb => by have := HOB.out.2; omega))
    have EW : Hid (Ext w3 wr) := Lib.hid (Lv.ext0 hlv (E4.out.trans E5.out) (fun b hb => by have := HOB.out.1; omega))
    clear ho hlv
    by_cases hlt : k < M
    ·obtain ⟨y, hy⟩ := get_some (xs := insM ps) (k := k) (by rw [HMl.out]; exact hlt)
     have hx : ((insM ps).map (fun x => x.1))[k]? = some y.1 := by rw [List.getElem?_map, hy]; rfl
     obtain ⟨o, r, kk, rfl, hol, e0, e1, e2, hpt⟩ := HIR.out.elem hx
     have hog : wc.heap.size ≤ o := by
      obtain ⟨vs, h1, -⟩ := HIR.out
      exact (World.ownsRow.lt h1 o rfl).1
     have hmk := runM_mem (ys := (insM ps).take k) (fun z hz => List.mem_of_mem_take hz) HPB.out
     have HNX : Hid (runM ars ((insM ps).take (k + 1)) xs = exM ars (runM ars ((insM ps).take k) xs) y) := Lib.hid (by rw [take_next hy, runM_snoc])
     have HV := Lib.hid (l5Run_any w3 _ ars ps w3.heap.size (some ⟨g, 0, none⟩) m cc _ y r y.1.2.2.length kk wr.drew (HP.out.ext E3.out) (EW.out.drew) (Nat.le_refl _) hmk (by rw [runM_len]; exact HM.out) (HK.out.ext (Ext.refl wr).drew) (List.mem_of_getElem? hy) (hpt.at.ext (Ext.refl wr).drew))
     obtain ⟨lp, hlp⟩ : ∃ n, y.1.2.2.length = n := ⟨_, rfl⟩
     obtain ⟨ii, hii⟩ : ∃ n, y.1.1 = n := ⟨_, rfl⟩
     obtain ⟨jj, hjj⟩ : ∃ n, y.1.2.1 = n := ⟨_, rfl⟩
     rw [hlp, hii, hjj] at HV
     rw [hii] at e0
     rw [hjj] at e1
     rw [hlp] at e2
     have hn1 : ¬ (w.heap.size = g) := by omega
     have hn2 : ¬ (o = g) := by have := HOB.out.2; omega
     clear hy hx hpt hmk hlp hii hjj hog
     obtain ⟨y0, y1, -, -⟩ := blk2 BR.out
     have hlr := lt_of_block BR.out
     have hkm : (k : Int) < (M : Int) := by omega
     go_wp2
     go_region_held3 (fun X => X.cell? ⟨w.heap.size, 0, none⟩ = some (.slice q1 na c1) ∧ X.cell? ⟨w.heap.size, 1, none⟩ = some (.slice q2 np c2) ∧ X.cell? ⟨o, k * 3, none⟩ = some (.int .i64 (ii : Int)) ∧ X.cell? ⟨o, k * 3 + 1, none⟩ = some (.int .i64 (jj : Int)) ∧ X.cell? ⟨o, k * 3 + 2, none⟩ = some (.slice r lp kk))
      (first | exact ⟨y0, y1, e0, e1, e2⟩ | exact ⟨hK.cellAt y0 hn1, hK.cellAt y1 hn1, hK.cellAt e0 hn2, hK.cellAt e1 hn2, hK.cellAt e2 hn2⟩ | fail)
      (first | (go_at_call 62; (with_reducible refine (HV.out).mono ?_); rintro e w6 ⟨rfl, hMR, gm, he, -, -, hL⟩; cases he; have hK := ((Ext.refl wr).drew.lv (D := fun _ => False)).trans hL (E := fun b => b = g) (fun _ _ h => h.elim) (fun _ _ h => h)) | fail)
     have HN6 : Hid (IntsOwn w3.heap.size w6 (.slice (some ⟨g, 0, none⟩) m cc) (runM ars ((insM ps).take (k + 1)) xs)) := Lib.hid (by rw [HNX.out]; exact hMR)
     have HL6 : Hid (Lv (fun b => b = g) w5 w6) := Lib.hid (HLV.out.trans hK (fun _ _ h => h) (fun _ _ h => h))
     clear hMR hL hK y0 y1 e0 e1 e2 hn1 hn2
     go_wp2
     go_roundw
     case rel => exact ⟨k + 1, by omega, by go_num, HN6.out, HL6.out⟩
     case measure => simp [intOf]; omega
    ·obtain rfl : k = M := by omega
     have HF : Hid (IntsOwn w.heap.size wr (.slice (some ⟨g, 0, none⟩) m cc) (rpR ars ps xs)) := Lib.hid (by
      have h := HK.out
      rw [List.take_of_length_le (by rw [HMl.out]; omega)] at h
      rw [HR.out]
      exact h.weak S3.out)
     go_wp2
     exact bodyPost_ret (v := .tuple #[.slice (some ⟨g, 0, none⟩) m cc, .bool true]) (by simp [results, Tryz.results36, go_sem]) rfl ⟨⟨_, rfl, HF.out⟩, E3.out.trans EW.out⟩
end Go.Proofs.YtmhldhjpfeageabGreat

/- The texts I8, joined. No statement is proved here. -/
import Derived.Test.YtklehkkclojccaaGreatK48
import Derived.Test.YtklehkkclojccaaGreatK53
/- The model's RunOrder. No statement is proved here. -/
namespace Go.Proofs.YtklehkkclojccaaGreat
open Go.RowKit Go.Maps
theorem permF_bd {n : Nat} : ∀ {xs acc : List Int}, permF n acc xs = true → ∀ x ∈ xs, 0 ≤ x ∧ x < n
 | [], _, _, x, hx => by simp at hx
 | y :: r, acc, h, x, hx => by
  simp only [permF] at h
  by_cases hb : 0 ≤ y ∧ y < n ∧ y ∉ acc
  ·rw [if_pos hb] at h
   rcases List.mem_cons.1 hx with rfl | hx
   ·exact ⟨hb.1, hb.2.1⟩
   ·exact permF_bd h x hx
  ·rw [if_neg hb] at h; cases h
theorem ord_bd {ars : List Arr} {ps : List Pt} {os : List Int} (h : ordB ars ps os = true) : ∀ x ∈ os, 0 ≤ x ∧ x < ((insM ps).length : Int) := by
 unfold ordB permB at h
 simp only [Bool.and_eq_true] at h
 exact permF_bd h.2.1
def roOk (ars : List Arr) (ps : List Pt) (xs os : List Int) : Bool := memB ars ps xs && ordB ars ps os
def ordY (ps : List Pt) (os : List Int) : List InsM := os.map (fun o => (insM ps).getD o.toNat ((0, 0, []), noSt))
theorem ordY_mem {ars : List Arr} {ps : List Pt} {os : List Int} (h : ordB ars ps os = true) : ∀ y ∈ ordY ps os, y ∈ insM ps := by
 intro y hy
 unfold ordY at hy
 obtain ⟨o, ho, rfl⟩ := List.mem_map.1 hy
 obtain ⟨h0, h1⟩ := ord_bd h o ho
 obtain ⟨z, hz⟩ := get_some (xs := insM ps) (k := o.toNat) (by omega)
 rw [List.getD_eq_getElem?_getD, hz]
 exact List.mem_of_getElem? hz
def roR (ars : List Arr) (ps : List Pt) (xs os : List Int) : List Int := if roOk ars ps xs os = true then runM ars (ordY ps os) xs else []
set_option linter.unusedVariables false in
set_option linter.unusedSimpArgs false in
set_option maxRecDepth 100000 in
set_option maxHeartbeats 4000000 in
theorem specRunOrder_any (v : Value) (ars : List Arr) (ps : List Pt) (pm : Option Addr) (m cm : Nat) (xs : List Int) (po : Option Addr) (no co : Nat) (os : List Int) (w : World) (hp : PrR w v ars ps) (hm : xs.length = m) (hs : IntsAt w (.slice pm m cm) xs) (hno : os.length = no) (hos : IntsAt w (.slice po no co) os) :
  Calls Tryz.prog 21 #[v, .slice pm m cm, .slice po no co] w fun e w' => (∃ v', e = .returned (.tuple #[v', .bool (roOk ars ps xs os)]) ∧ IntsOwn w.heap.size w' v' (roR ars ps xs os)) ∧ Ext w w' := by
 obtain ⟨i0, hi, hz0, hz1, hz2⟩ := info_parts infoInt
 obtain ⟨q1, c1, q2, c2, rfl, la, lp, -, -⟩ := hp.parts
 have HP := Lib.hid hp; have HM := Lib.hid hm; have HS := Lib.hid hs
 obtain ⟨na, hna⟩ : ∃ m, ars.length = m := ⟨_, rfl⟩
 obtain ⟨np, hnp⟩ : ∃ m, ps.length = m := ⟨_, rfl⟩
 rw [hna] at HP ⊢
 rw [hnp] at HP ⊢
 obtain ⟨pb, hpb⟩ : ∃ b, memB ars ps xs = b := ⟨_, rfl⟩
 obtain ⟨ob, hob⟩ : ∃ b, ordB ars ps os = b := ⟨_, rfl⟩
 have HPB := Lib.hid hpb; have HOBB := Lib.hid hob; have HNO := Lib.hid hno; have HOS := Lib.hid hos
 have HOKV : Hid (roOk ars ps xs os = (pb && ob)) := Lib.hid (by unfold roOk; rw [hpb, hob])
 obtain ⟨hom, hoc⟩ := hos.cl
 have HOC := Lib.hid hoc
 clear hp hna hnp hpb hm hs la lp hob hno hos hoc
 go_enter Tryz.func21, Tryz.ntmps21
 go_wp2_with (fail)
 obtain ⟨W1, hW1⟩ : ∃ W1, (w.alloc (.cells #[.slice q1 na c1, .slice q2 np c2] 32)) = W1 := ⟨_, rfl⟩
 have E1 : Hid (Ext w W1) := Lib.hid (by rw [← hW1]; exact (Ext.refl w).alloc _)
 have B1 := Lib.hid (show W1.heap[w.heap.size]? = some (.cells #[.slice q1 na c1, .slice q2 np c2] 32 (0, 0)) by rw [← hW1]; exact blk_at rfl)
 try rw [hW1]
 clear hW1
 refine (specMemoryValid_any _ ars ps pm m cm xs _ (HP.out.ext E1.out) HM.out (HS.out.ext E1.out)).mono ?_
 rw [HPB.out]
 rintro e w2 ⟨rfl, hE2⟩
 have E2 := Lib.hid (E1.out.trans hE2); have B2 := Lib.hid (hE2.blk B1.out); have S2 := Lib.hid (E1.out.trans hE2).size_le
 clear hE2
 cases pb with
 | false =>
  have HR : Hid (roR ars ps xs os = []) := Lib.hid (by unfold roR; rw [HOKV.out]; rfl)
  go_wp2
  refine bodyPost_ret (v := .tuple #[.slice (some ⟨w2.heap.size, 0, none⟩) 0 0, .bool false]) (by simp [results, Tryz.results21, go_sem]) rfl ⟨⟨_, by rw [HOKV.out]; rfl, ?_⟩, E2.out.alloc _⟩
  rw [HR.out]
  exact IntsOwn.mk (World.ownsRow_made w2 #[] 0 S2.out (Nat.zero_le _) rfl) rfl
 | true =>
  obtain ⟨y0, y1, -, -⟩ := blk2 B2.out
  go_wp2_with (fail)
  refine (specOrderValid_any _ ars ps po no co os _ (HP.out.ext E2.out) HNO.out (HOS.out.ext E2.out)).mono ?_
  rw [HOBB.out]
  rintro e w3 ⟨rfl, hE3⟩
  have E3 := Lib.hid (E2.out.trans hE3); have B3 := Lib.hid (hE3.blk B2.out); have S3 := Lib.hid (E2.out.trans hE3).size_le
  clear hE3 y0 y1
  cases ob with
  | false =>
  have HR : Hid (roR ars ps xs os = []) := Lib.hid (by unfold roR; rw [HOKV.out]; rfl)
  go_wp2
  refine bodyPost_ret (v := .tuple #[.slice (some ⟨w3.heap.size, 0, none⟩) 0 0, .bool false]) (by simp [results, Tryz.results21, go_sem]) rfl ⟨⟨_, by rw [HOKV.out]; rfl, ?_⟩, E3.out.alloc _⟩
  rw [HR.out]
  exact IntsOwn.mk (World.ownsRow_made w3 #[] 0 S3.out (Nat.zero_le _) rfl) rfl
  | true =>
  have HR : Hid (roR ars ps xs os = runM ars (ordY ps os) xs) := Lib.hid (by unfold roR; rw [HOKV.out]; rfl)
  have HPM := Lib.hid (ord_bd HOBB.out)
  obtain ⟨-, hprog, hlen⟩ := memB_parts HPB.out
  have HPG := Lib.hid hprog
  have hml : m ≤ 1048576 := by
   have htb := totN_bd (ars := ars) (by have h := progB_arrs hprog; simp only [arrsB, Bool.and_eq_true, List.all_eq_true] at h; exact h.1)
   have hal := arrs_len (progB_arrs hprog)
   have := HM.out
   omega
  obtain ⟨hmm, hmc⟩ := (HS.out.ext E3.out).cl
  clear hprog hlen
  go_upto_region 3 with (fail)
  go_cut [8] (fun s6 wc => ∃ (g cc : Nat), s6 = .slice (some ⟨g, 0, none⟩) m cc ∧ IntsOwn w3.heap.size wc (.slice (some ⟨g, 0, none⟩) m cc) xs ∧ Ext w3 wc)
  case first =>
   cases pm with
   | none =>
    have hm0 : m = 0 := by
     rcases Nat.eq_zero_or_pos m with h | h
     ·exact h
     ·obtain ⟨x0, hx0⟩ := get_some (xs := xs) (k := 0) (by rw [HM.out]; exact h)
      obtain ⟨b, off, e, -⟩ := hmc 0 x0 hx0
      cases e
    subst hm0
    obtain rfl : xs = [] := List.eq_nil_of_length_eq_zero HM.out
    clear hmc
    go_wp2_with (fail)
    go_meet
    exact ⟨_, _, rfl, IntsOwn.mk (World.ownsRow_made w3 #[] 0 (Nat.le_refl _) (Nat.zero_le _) rfl) rfl, (Ext.refl w3).alloc _⟩
   | some ad =>
    have HCL : Hid (∀ (j : Nat) (x : Int), xs[j]? = some x → w3.cell? (ad.add j) = some (.int .i64 x)) := Lib.hid (fun j x hx => by
     obtain ⟨b, off, e, h⟩ := hmc j x hx
     cases e
     have hadd : (⟨b, off, none⟩ : Addr).add j = ⟨b, off + j, none⟩ := by unfold Addr.add; split <;> simp_all
     rw [hadd]
     exact h)
    clear hmc
    go_wp2_with (at_builtin; refine wpList_append_own _ rfl (.tmp 22) (.tmp 23) 39 rfl w3.heap.size 3 i0 (.int .i64 0) 1 8 Tryz.underlying39 hi hz0 hz1 hz2 rfl (by decide) (.slice (some ⟨w3.heap.size, 0, none⟩) 0 0) 0 [] rfl (World.ownsRow_made w3 #[] 0 (Nat.le_refl _) (Nat.zero_le _) rfl) ad m cm (xs.map (Value.int .i64)) rfl ?c0 ?c1 ?c2 ?c3 ?c4 ?c5 ?_)
    case c0 => rw [List.length_map, HM.out, Nat.mul_one]
    case c1 =>
     intro j u hu
     rw [List.getElem?_map] at hu
     obtain ⟨x, hx, rfl⟩ := Option.map_eq_some_iff.1 hu
     exact ((Ext.refl w3).alloc _).keep (HCL.out j x hx)
    case c2 => exact ints_oneCell _ _
    case c3 => unfold maxLen; omega
    case c4 => omega
    case c5 => simp
    intro v' w4 hown hg hnn
    have hE : Ext w3 w4 := ((Ext.refl w3).alloc _).grown hg (fun k h => by cases h; exact Nat.le_refl _)
    have hne : v' ≠ .slice none 0 0 := hnn
    obtain ⟨g, cc, rfl⟩ : ∃ g cc, v' = .slice (some ⟨g, 0, none⟩) m cc := by
     rcases hown.2 with ⟨h, hz⟩ | ⟨g, cap, cur, h, hb, hgh, _⟩
     ·exact absurd h hne
     ·exact ⟨_, _, by simpa using h⟩
    have HO : Hid (IntsOwn w3.heap.size w4 (.slice (some ⟨g, 0, none⟩) m cc) xs) := Lib.hid (IntsOwn.mk (by simpa using hown) HM.out)
    have HE := Lib.hid hE
    clear hown hnn hne hE hg
    go_wp2_with (fail)
    go_meet
    exact ⟨_, _, rfl, HO.out, HE.out⟩
  case rest =>
   obtain ⟨g, cc, rfl, ho, hE⟩ := hcut
   have HO := Lib.hid ho; have E4 := Lib.hid hE; have B4 := Lib.hid (hE.blk B3.out)
   have HOB : Hid (w3.heap.size ≤ g ∧ g < wc.heap.size) := Lib.hid (World.ownsRow.lt ho g rfl)
   clear ho hE hmc
   obtain ⟨y0, y1, -, -⟩ := blk2 B4.out
   have hl4 := lt_of_block B4.out
   go_wp2_with (fail)
   refine (l4Instances_any _ ars ps _ (HP.out.ext (E3.out.trans E4.out)) HPG.out).mono ?_
   rintro e w5 ⟨⟨qi, ci, rfl, hins⟩, hE5⟩
   obtain ⟨M, hM⟩ : ∃ M, (insM ps).length = M := ⟨_, rfl⟩
   rw [hM] at hins ⊢
   have hM120 : M ≤ 120 := by have := insM_120 HPG.out; omega
   have HMl := Lib.hid hM; have HINS := Lib.hid hins; have E5 := Lib.hid hE5; have B5 := Lib.hid (hE5.blk B4.out); have HO5 := Lib.hid (HO.out.ext hE5)
   clear hins hE5 hM y0 y1 hl4
   go_wp2_with (fail)
   have hgw : w.heap.size < g := by have := lt_of_block B3.out; have := HOB.out.1; omega
   go_loopw [10] (fun iv wr => ∃ k : Nat, k ≤ no ∧ iv = .int .i64 k ∧ IntsOwn w3.heap.size wr (.slice (some ⟨g, 0, none⟩) m cc) (runM ars ((ordY ps os).take k) xs) ∧ Lv (fun b => b = g) w5 wr) (fun iv _ => no - (intOf iv).toNat)
   case atStart => exact ⟨0, by omega, rfl, HO5.out, Lv.refl _ _⟩
   case round =>
    obtain ⟨k, hk, rfl, ho, hlv⟩ := hrel
    have HK := Lib.hid ho; have HLV := Lib.hid hlv; have BR := Lib.hid (hlv.heap B5.out (by omega))
    have HIR := Lib.hid (InssOwn.lvB HINS.out hlv (fun b hb => by have := HOB.out.2; omega))
    have EW : Hid (Ext w3 wr) := Lib.hid (Lv.ext0 hlv (E4.out.trans E5.out) (fun b hb => by have := HOB.out.1; omega))
    clear ho hlv
    by_cases hlt : k < no
    ·obtain ⟨x, hxo⟩ := get_some (xs := os) (k := k) (by rw [HNO.out]; exact hlt)
     obtain ⟨ho0, ho1⟩ := HPM.out x (List.mem_of_getElem? hxo)
     rw [HMl.out] at ho1
     obtain ⟨n, rfl⟩ : ∃ n : Nat, x = n := ⟨x.toNat, by omega⟩
     obtain ⟨bo, oo, rfl, hco⟩ := HOC.out k _ hxo
     obtain ⟨y, hy⟩ := get_some (xs := insM ps) (k := n) (by rw [HMl.out]; omega)
     have hyo : (ordY ps os)[k]? = some y := by unfold ordY; rw [List.getElem?_map, hxo]; simp [List.getD_eq_getElem?_getD, hy]
     have hx : ((insM ps).map (fun x => x.1))[n]? = some y.1 := by rw [List.getElem?_map, hy]; rfl
     have hbo : bo < w.heap.size := World.block_lt_of_cell? _ _ hco
     obtain ⟨o, r, kk, rfl, hol, e0, e1, e2, hpt⟩ := HIR.out.elem hx
     have hog : wc.heap.size ≤ o := by
      obtain ⟨vs, h1, -⟩ := HIR.out
      exact (World.ownsRow.lt h1 o rfl).1
     have hmk := runM_mem (ys := (ordY ps os).take k) (fun z hz => ordY_mem HOBB.out z (List.mem_of_mem_take hz)) HPB.out
     have HNX : Hid (runM ars ((ordY ps os).take (k + 1)) xs = exM ars (runM ars ((ordY ps os).take k) xs) y) := Lib.hid (by rw [take_next hyo, runM_snoc])
     have HV := Lib.hid (l5Run_any w3 _ ars ps w3.heap.size (some ⟨g, 0, none⟩) m cc _ y r y.1.2.2.length kk wr.drew (HP.out.ext E3.out) (EW.out.drew) (Nat.le_refl _) hmk (by rw [runM_len]; exact HM.out) (HK.out.ext (Ext.refl wr).drew) (List.mem_of_getElem? hy) (hpt.at.ext (Ext.refl wr).drew))
     obtain ⟨lp, hlp⟩ : ∃ n, y.1.2.2.length = n := ⟨_, rfl⟩
     obtain ⟨ii, hii⟩ : ∃ n, y.1.1 = n := ⟨_, rfl⟩
     obtain ⟨jj, hjj⟩ : ∃ n, y.1.2.1 = n := ⟨_, rfl⟩
     rw [hlp, hii, hjj] at HV
     rw [hii] at e0
     rw [hjj] at e1
     rw [hlp] at e2
     have hn1 : ¬ (w.heap.size = g) := by omega
     have hn2 : ¬ (o = g) := by have := HOB.out.2; omega
     have hn3 : ¬ (bo = g) := by have h1 := E3.out.size_le; have h2 := HOB.out.1; omega
     have hcr := (E3.out.trans EW.out).keep hco
     clear hy hx hyo hxo hpt hmk hlp hii hjj hog hco
     obtain ⟨y0, y1, -, -⟩ := blk2 BR.out
     have hlr := lt_of_block BR.out
     have hkm : (k : Int) < (no : Int) := by omega
     have hnm : (n : Int) < (M : Int) := by omega
     go_wp2
     go_region_held3 (fun X => X.cell? ⟨w.heap.size, 0, none⟩ = some (.slice q1 na c1) ∧ X.cell? ⟨w.heap.size, 1, none⟩ = some (.slice q2 np c2) ∧ X.cell? ⟨bo, oo + k, none⟩ = some (.int .i64 (n : Int)) ∧ X.cell? ⟨o, n * 3, none⟩ = some (.int .i64 (ii : Int)) ∧ X.cell? ⟨o, n * 3 + 1, none⟩ = some (.int .i64 (jj : Int)) ∧ X.cell? ⟨o, n * 3 + 2, none⟩ = some (.slice r lp kk))
      (first | exact ⟨y0, y1, hcr, e0, e1, e2⟩ | exact ⟨hK.cellAt y0 hn1, hK.cellAt y1 hn1, hK.cellAt hcr hn3, hK.cellAt e0 hn2, hK.cellAt e1 hn2, hK.cellAt e2 hn2⟩ | fail)
      (first | (go_at_call 59; (with_reducible refine (HV.out).mono ?_); rintro e w6 ⟨rfl, hMR, gm, he, -, -, hL⟩; cases he; have hK := ((Ext.refl wr).drew.lv (D := fun _ => False)).trans hL (E := fun b => b = g) (fun _ _ h => h.elim) (fun _ _ h => h)) | fail)
     have HN6 : Hid (IntsOwn w3.heap.size w6 (.slice (some ⟨g, 0, none⟩) m cc) (runM ars ((ordY ps os).take (k + 1)) xs)) := Lib.hid (by rw [HNX.out]; exact hMR)
     have HL6 : Hid (Lv (fun b => b = g) w5 w6) := Lib.hid (HLV.out.trans hK (fun _ _ h => h) (fun _ _ h => h))
     clear hMR hL hK y0 y1 e0 e1 e2 hcr hn1 hn2 hn3
     go_wp2
     go_roundw
     case rel => exact ⟨k + 1, by omega, by go_num, HN6.out, HL6.out⟩
     case measure => simp [intOf]; omega
    ·obtain rfl : k = no := by omega
     have HF : Hid (IntsOwn w.heap.size wr (.slice (some ⟨g, 0, none⟩) m cc) (roR ars ps xs os)) := Lib.hid (by
      have h := HK.out
      rw [List.take_of_length_le (by unfold ordY; rw [List.length_map, HNO.out]; omega)] at h
      rw [HR.out]
      exact h.weak S3.out)
     go_wp2
     exact bodyPost_ret (v := .tuple #[.slice (some ⟨g, 0, none⟩) m cc, .bool true]) (by simp [results, Tryz.results21, go_sem]) rfl ⟨⟨_, by rw [HOKV.out]; rfl, HF.out⟩, E3.out.trans EW.out⟩
end Go.Proofs.YtklehkkclojccaaGreat

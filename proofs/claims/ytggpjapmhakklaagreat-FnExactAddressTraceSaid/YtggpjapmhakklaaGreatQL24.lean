/- The texts G18 G10, joined. No statement is proved here. -/
import Derived.Test.YtggpjapmhakklaaGreatQL15
import Derived.Test.YtggpjapmhakklaaGreatQL34
import Derived.Test.YtggpjapmhakklaaGreatQL36
import Derived.Test.YtggpjapmhakklaaGreatQL40
import Derived.Test.YtggpjapmhakklaaGreatQL09
set_option maxRecDepth 100000
set_option maxHeartbeats 8000000
set_option linter.unusedVariables false
set_option linter.unusedSimpArgs false
namespace Go.Proofs.YtggpjapmhakklaaGreat
open Go.Lib (hid)
open Go.RowKit
def PartP (B : Nat) (w : World) (u0 u1 : Value) (p : Pt) : Prop := PtsO B w u0 (nptsL p.1) ∧ StmsOwn B w u1 p.2
def PartsOwn : Nat → World → Value → List Pt → Prop := PairsOwn 166 PartP
theorem PartP.grow {B : Nat} {w w' : World} {u0 u1 : Value} {x : Pt} {row : Option Nat} (h : PartP B w u0 u1 x) (hg : w.grownBy w' row) (ht : Tag w row 166) : PartP B w' u0 u1 x := ⟨h.1.tag hg ht (by decide) (by decide), h.2.tag hg ht (by decide) (by decide)⟩
theorem PartP.ext {B : Nat} {w w' : World} {u0 u1 : Value} {x : Pt} (h : PartP B w u0 u1 x) (hE : Ext w w') : PartP B w' u0 u1 x := ⟨h.1.ext hE, h.2.ext hE⟩
theorem PartP.weak {B B' : Nat} {w : World} {u0 u1 : Value} {x : Pt} (h : PartP B w u0 u1 x) (hB : B' ≤ B) : PartP B' w u0 u1 x := ⟨h.1.weak hB, h.2.weak hB⟩
theorem infoPrt : (Tryz.prog.info? 166).map (fun i => (i.zero, i.size, i.bytes)) = some (some (.agg #[.slice none 0 0, .slice none 0 0]), 2, 48) := by kernel_rfl
def partsS (ps : List Pt) : Bool := decide (ps.length ≤ 4) && ps.all partS
theorem partsOf_any (pv : Option Addr) (n c : Nat) (ps : List Pt) (w : World) (hn : ps.length = n) (hs : PartsAt w (.slice pv n c) ps) :
  Calls Tryz.prog 43 #[.slice pv n c] w fun e w' => (∃ q k d, e = .returned (.tuple #[.slice q k d, .bool (partsS ps)]) ∧ (partsS ps = true → PartsOwn w.heap.size w' (.slice q k d) ps)) ∧ Ext w w' := by
 have hm : n ≤ 9223372036854775807 := by obtain ⟨_, _, _, hm⟩ := hs.form; rw [← hn]; exact hm
 have HS := hid hs; have HN := hid hn
 clear hs hn
 by_cases h4 : n ≤ 4
 ·have hq : decide ((4 : Int) < (n : Int)) = false := by simp; omega
  go_enter Tryz.func43, Tryz.ntmps43
  go_wp2
  go_loopw [4, 14] (fun lv iv wr => ∃ (k : Nat) (q : Option Addr) (d : Nat), k ≤ n ∧ iv = .int .i64 k ∧ lv = .slice q k d ∧ (∀ x ∈ ps.take k, partS x = true) ∧ PartsOwn w.heap.size wr (.slice q k d) (ps.take k) ∧ Ext w wr) (fun _ iv _ => n - (intOf iv).toNat)
  case atStart => exact ⟨0, none, 0, by omega, rfl, rfl, by simp, ⟨[], World.ownsRow_nil _ _ _ _, fun i x h => by simp at h⟩, Ext.refl w⟩
  case round =>
   obtain ⟨k, q, d, hk, rfl, rfl, hall, hPO, hE⟩ := hrel
   have HAL := hid hall; have HPO := hid hPO; have HE := hid hE
   clear hall hPO hE
   by_cases hlt : k < n
   ·obtain ⟨x, hx⟩ := get_some (xs := ps) (k := k) (by rw [HN.out]; exact hlt)
    obtain ⟨b, off, q1, m1, q2, m2, rfl, c0, c1, hb, hls, hss⟩ := (HS.out.ext HE.out).elem hx
    have HX := hid hx; have HLS := hid hls; have HSS := hid hss
    obtain ⟨bv, hbv⟩ : ∃ bv, partS (x.1, x.2) = bv := ⟨_, rfl⟩
    have HBV := hid hbv
    clear hx hls hss hbv
    go_wp2_with (fail)
    refine (partOf_any q1 q2 x.1.length m1 x.2.length m2 x.1 x.2 _ rfl rfl (HLS.out.ext ((Ext.refl wr).alloc _)) (HSS.out.ext ((Ext.refl wr).alloc _))).mono ?_
    rw [HBV.out]
    rintro e w3 ⟨⟨r1, n1, e1, r2, n2, e2, rfl, hval⟩, hE3⟩
    have X3 := hid (((Ext.refl wr).alloc _).trans hE3)
    have HVAL := hid hval
    have hz3 := X3.out.size_le
    have hzw := HE.out.size_le
    clear hE3 hval c0 c1
    cases bv with
    | false =>
     have HRF : Hid (partsS ps = false) := hid (by simp only [partsS]; rw [all_false_of (p := partS) HX.out HBV.out]; simp)
     go_wp2
     exact bodyPost_ret (v := .tuple #[.slice none 0 0, .bool false]) (by simp [results, Tryz.results43, go_sem]) rfl ⟨⟨_, _, _, by rw [HRF.out], fun h => (by rw [HRF.out] at h; cases h)⟩, (HE.out.trans X3.out).alloc _⟩
    | true =>
     obtain ⟨i0, hi, hz0, hz1, hz2⟩ := info_parts infoPrt
     obtain ⟨vs, ho, he⟩ := HPO.out
     have HTL : Hid ((ps.take k).length = k) := hid (by rw [List.length_take, HN.out]; omega)
     rw [HTL.out] at ho
     have HOW := hid (ownsRow_ext (ownsRow_ext ho X3.out) (((Ext.refl w3).alloc (.cells #[.slice r1 n1 e1, .slice r2 n2 e2] 166)).alloc (.cells #[.slice r1 n1 e1, .slice r2 n2 e2] 166)))
     have HEE := hid he
     clear ho he
     go_wp2_with (first | (at_builtin; refine wpList_append_own_at _ rfl (.tmp 25) (.tmp 27) 54 rfl w.heap.size 166 i0 (.agg #[.slice none 0 0, .slice none 0 0]) 2 48 Tryz.underlying54 hi hz0 hz1 hz2 rfl (by decide) (.slice q k d) k vs rfl HOW.out ⟨w3.heap.size + 1, 0, none⟩ 1 1 [.slice r1 n1 e1, .slice r2 n2 e2] rfl rfl (pair_cells (by simp)) (by intro u hu; simp at hu; rcases hu with rfl | rfl <;> rfl) (by unfold maxLen; omega) (by omega) (by simp; omega) ?_; intro v' w4 hown4 hgr4 hnil4 hat4; obtain ⟨gq, dq, rfl, hdq⟩ := own_form' hown4 (fun e => by have := (hnil4.1 e).2; omega)) | fail)
     obtain ⟨Wc, hWc⟩ : ∃ Wc, ((w3.alloc (.cells #[.slice r1 n1 e1, .slice r2 n2 e2] 166)).alloc (.cells #[.slice r1 n1 e1, .slice r2 n2 e2] 166)) = Wc := ⟨_, rfl⟩
     have EC3 : Ext w3 Wc := by rw [← hWc]; exact ((Ext.refl w3).alloc _).alloc _
     have EC : Ext wr Wc := X3.out.trans EC3
     have HOC := HOW.out
     have hvl := HOC.1
     rw [hWc] at hgr4 HOC
     have htag := own_tag HOC
     have hres : PartsOwn w.heap.size w4 (.slice (some ⟨gq, 0, none⟩) (k + 1) dq) (ps.take (k + 1)) := by
      rw [take_next HX.out]
      refine PairsOwn.push (R := PartP) (fun h a b => PartP.grow h a b) HTL.out (fun i y hi => ?_) hvl hown4 hgr4 htag (((show PartP _ w3 (.slice r1 n1 e1) (.slice r2 n2 e2) x from HVAL.out (by trivial)).weak (by simp; omega)).ext EC3)
      obtain ⟨t0, t1, e0, e1, e3⟩ := HEE.out i y hi
      exact ⟨t0, t1, e0, e1, e3.ext EC⟩
     have HRS := hid hres
     have E4 := hid ((HE.out.trans EC).grown hgr4 (fun r hr => by have := (HOC.lt r hr).1; omega))
     have HA2 := hid (mem_take_next HX.out HAL.out HBV.out)
     clear hres EC EC3 HOC htag hgr4 hown4 hnil4 hat4 hWc
     go_wp2
     go_roundw
     case rel => exact ⟨k + 1, _, _, by omega, by go_num, rfl, HA2.out, HRS.out, E4.out⟩
     case measure => simp [intOf]; omega
   ·obtain rfl : k = n := by omega
    have hal : ps.take k = ps := List.take_of_length_le (by rw [HN.out]; omega)
    have HRT : Hid (partsS ps = true) := hid (by
     have h := HAL.out
     rw [hal] at h
     simp only [partsS, Bool.and_eq_true, decide_eq_true_eq, List.all_eq_true]
     exact ⟨by rw [HN.out]; omega, h⟩)
    have HPF : Hid (PartsOwn w.heap.size wr (.slice q k d) ps) := hid (by have h := HPO.out; rw [hal] at h; exact h)
    clear hal
    go_wp2
    exact bodyPost_ret (v := .tuple #[.slice q k d, .bool true]) (by simp [results, Tryz.results43, go_sem]) rfl ⟨⟨_, _, _, by rw [HRT.out], fun _ => HPF.out⟩, HE.out⟩
 ·have hq : decide ((4 : Int) < (n : Int)) = true := by simp; omega
  have HRF : Hid (partsS ps = false) := hid (by simp only [partsS]; rw [decide_eq_false (by rw [HN.out]; omega)]; rfl)
  go_enter Tryz.func43, Tryz.ntmps43
  go_wp2
  exact bodyPost_ret (v := .tuple #[.slice none 0 0, .bool false]) (by simp [results, Tryz.results43, go_sem]) rfl ⟨⟨_, _, _, by rw [HRF.out], fun h => (by rw [HRF.out] at h; cases h)⟩, Ext.refl w⟩
end Go.Proofs.YtggpjapmhakklaaGreat
namespace Go.Proofs.YtggpjapmhakklaaGreat
open Go.Lib (hid)
open Go.RowKit
theorem IntsOwn.lvB {B : Nat} {D : Nat → Prop} {w w' : World} {v : Value} {xs : List Int} (h : IntsOwn B w v xs) (hv : Lv D w w') (hD : ∀ b, D b → b < B) : IntsOwn B w' v xs := row_lv h hv (fun b hb hd => by have h1 := (World.ownsRow.lt h b hb).1; have h2 := hD b hd; omega)
theorem AffsOwn.lvB {B : Nat} {D : Nat → Prop} {w w' : World} {v : Value} {xs : List Aff} (h : AffsOwn B w v xs) (hv : Lv D w w') (hD : ∀ b, D b → b < B) : AffsOwn B w' v xs := PairsOwn.map' h (fun vs h => row_lv h hv (fun b hb hd => by have h1 := (World.ownsRow.lt h b hb).1; have h2 := hD b hd; omega)) (fun h => ⟨IntsOwn.lvB h.1 hv hD, h.2⟩)
theorem AccsO.lvB {B : Nat} {D : Nat → Prop} {w w' : World} {v : Value} {xs : List Acc} (h : AccsO B w v xs) (hv : Lv D w w') (hD : ∀ b, D b → b < B) : AccsO B w' v xs := PairsOwn.map' h (fun vs h => row_lv h hv (fun b hb hd => by have h1 := (World.ownsRow.lt h b hb).1; have h2 := hD b hd; omega)) (fun h => ⟨h.1, h.2.1, AffsOwn.lvB h.2.2 hv hD⟩)
def AccR (w : World) (u0 u1 : Value) (a : Acc) : Prop := u0 = .string a.1 ∧ a.1.size ≤ 9223372036854775807 ∧ AffsAt w u1 a.2
def AccsAt : World → Value → List Acc → Prop := PairsAt AccR
theorem AccsO.at {B : Nat} {w : World} {v : Value} {xs : List Acc} (h : AccsO B w v xs) : AccsAt w v xs := PairsOwn.at' (fun h => ⟨h.1, h.2.1, h.2.2.at⟩) h
theorem AccsAt.elem {w : World} {p : Option Addr} {n c : Nat} {xs : List Acc} (h : AccsAt w (.slice p n c) xs) {i : Nat} {x : Acc} (hi : xs[i]? = some x) :
  ∃ b off q m, p = some ⟨b, off, none⟩ ∧ w.cell? ⟨b, off + i * 2, none⟩ = some (.string x.1) ∧ w.cell? ⟨b, off + i * 2 + 1, none⟩ = some (.slice q x.2.length m) ∧ b < w.heap.size ∧ x.1.size ≤ 9223372036854775807 ∧ AffsAt w (.slice q x.2.length m) x.2 := by
 obtain ⟨p', c', hv, hm, hc⟩ := h
 cases hv
 obtain ⟨b, off, u0, u1, hp, h0, h1, hlt, rfl, hs, hr⟩ := hc i x hi
 obtain ⟨q, m, rfl, _⟩ := hr.form
 exact ⟨b, off, q, m, hp, h0, h1, hlt, hs, hr⟩
theorem reads_ok {d : Int} : ∀ (L : Nat) (e : Ex), shapeB L e d = true → ∀ a ∈ readsE L e, accB a.1 a.2 d = true
 | 0, e, h => by simp [shapeB] at h
 | L + 1, e, h => by
  intro a ha
  have hk := shape_kids h
  simp only [readsE, List.mem_append, List.mem_flatMap] at ha
  rcases ha with ha | ⟨x, hx, ha⟩
  ·split at ha
   ·rename_i h3
    simp only [List.mem_singleton] at ha
    subst ha
    obtain ⟨kind, num, ix, arr, subs, kids⟩ := e
    simp only [Ex.kind, Ex.arr, Ex.subs] at *
    subst h3
    rw [shape_mk] at h
    simp only [Bool.and_eq_true] at h
    have h2 := h.2.1
    have h3 : ownF 3 num ix arr subs d = (decide (num = 0) && (noneB ix && accB arr subs d)) := rfl
    rw [h3] at h2
    simp only [Bool.and_eq_true] at h2
    exact h2.2.2
   ·simp at ha
  ·exact reads_ok L x (hk x hx) a ha
theorem valid_shape {a : ByteArray} {su : List Aff} {e : Ex} {d : Int} (h : validB a su e d = true) : accB a su d = true ∧ shapeB 5 e d = true ∧ countE 5 e ≤ 12 := by
 simp only [validB, Bool.and_eq_true, decide_eq_true_eq] at h
 exact ⟨h.2.2.1, h.2.2.2.1, h.2.2.2.2⟩
theorem l4Cells_any (p : Option Addr) (n c : Nat) (ars : List Arr) (v pv : Value) (s : St) (pt : List Int) (d : Int) (w : World) (hn : ars.length = n) (ha : ArrsAt w (.slice p n c) ars) (hok : ∀ a ∈ ars, arrOkB a = true) (h4 : n ≤ 4)
  (hs : StR w v s.1 s.2.1 s.2.2) (hv : validB s.1 s.2.1 s.2.2 d = true) (hp : IntsAt w pv pt) (hpw : ptW pt) :
  Calls Tryz.prog 39 #[.slice p n c, v, pv] w fun e w' => (∃ v' cw, e = .returned (.tuple #[v', .int .i64 cw, .bool (cellsOk ars s pt)]) ∧ (cellsOk ars s pt = true → cw = writeCell ars s pt ∧ IntsOwn w.heap.size w' v' (readCells ars s pt)) ∧ (cellsOk ars s pt = false → cw = 0 ∧ IntsOwn w.heap.size w' v' [])) ∧ Ext w w' := by
 obtain ⟨wa, wsub, e⟩ := s
 simp only at *
 obtain ⟨hacc, hsh, hct⟩ := valid_shape hv
 obtain ⟨q1, d1, q2, d2, q3, d3, q4, d4, rfl, hwa, hs1, he⟩ := hs.parts
 obtain ⟨pp, cp, rfl, hpm, -⟩ := id hp
 obtain ⟨-, hwv, hwb, hwl⟩ := four_of_accB hacc
 have hwl2 : wsub.length ≤ 2 := by simp only [accB, Bool.and_eq_true, decide_eq_true_eq] at hacc; exact hacc.2.2.2
 obtain ⟨i0, hi, hz0, hz1, hz2⟩ := info_parts infoInt
 obtain ⟨rds, hrds⟩ : ∃ r, readsE 5 e = r := ⟨_, rfl⟩
 have hrl : rds.length ≤ 12 := by have := reads_len 5 e; rw [hrds] at this; omega
 have hro : ∀ a ∈ rds, accB a.1 a.2 d = true := by rw [← hrds]; exact reads_ok 5 e hsh
 have hcb := fun (ar : ByteArray) (su : List Aff) => cellI_bd ar su pt (base := 0) hok
 have HA := hid ha; have HN := hid hn; have HS := hid hs1; have HEX := hid he; have HP := hid hp; have HOK := hid hok; have HPW := hid hpw; have HRD := hid hrds; have HRO := hid hro; have HSH := hid hsh; have HCT := hid hct; have HWV := hid hwv; have HWB := hid hwb; have HCB := hid hcb
 clear ha hn hs hs1 he hp hok hpw hrds hro hsh hct hwv hwb hcb hv hacc
 go_enter Tryz.func39, Tryz.ntmps39
 go_wp2_with (fail)
 obtain ⟨wB, hwB⟩ : ∃ wB, (w.alloc (.cells #[.string wa, .slice q1 wsub.length d1, .int .i64 e.kind, .int .i64 e.num, .slice q2 e.ix.1.length d2, .int .i64 e.ix.2, .string e.arr, .slice q3 e.subs.length d3, .slice q4 e.kids.length d4] 103)).alloc (.cells #[] 3) = wB := ⟨_, rfl⟩
 have hzB : wB.heap.size = w.heap.size + 2 := by rw [← hwB]; simp
 obtain ⟨W0, hW0⟩ : ∃ W0, wB.alloc (.cells #[] 96) = W0 := ⟨_, rfl⟩
 have hz0' : W0.heap.size = w.heap.size + 3 := by rw [← hW0]; simp [hzB]
 have BX0 := hid (show W0.heap[w.heap.size]? = some (.cells #[.string wa, .slice q1 wsub.length d1, .int .i64 e.kind, .int .i64 e.num, .slice q2 e.ix.1.length d2, .int .i64 e.ix.2, .string e.arr, .slice q3 e.subs.length d3, .slice q4 e.kids.length d4] 103 (0, 0)) by rw [← hW0, ← hwB]; exact blk_old (blk_old (blk_at rfl)))
 have BG0 := hid (show W0.heap[w.heap.size + 1]? = some (.cells #[] 3 (0, 0)) by rw [← hW0, ← hwB]; exact blk_old (blk_at (by simp)))
 have E0 : Hid (Ext w W0) := hid (by rw [← hW0, ← hwB]; exact (((Ext.refl w).alloc _).alloc _).alloc _)
 have HR0 : Hid (AccsO (w.heap.size + 2) W0 (.slice (some ⟨w.heap.size + 1 + 1, 0, none⟩) 0 0) []) := hid ⟨[], by
  have h := World.ownsRow_made (base := w.heap.size + 2) (size := 2) (e := 96) wB #[] 0 (by omega) (Nat.zero_le _) rfl
  rw [hzB, hW0] at h
  exact h, fun i x h => by simp at h⟩
 rw [hwB, hW0]
 clear hwB hW0
 refine (l3Reads_any d (w.heap.size + 2) 5 e _ w W0 _ [] HSH.out HEX.out E0.out (by omega) (by omega) HR0.out (by have := HCT.out; simp; omega)).mono ?_
 rintro r W1 ⟨⟨rv, rfl, hrv⟩, hE1, hK1, hz1'⟩
 rw [List.nil_append, HRD.out] at hrv
 obtain ⟨pr, cr, rfl⟩ := PairsOwn.slice hrv
 obtain ⟨m, hm⟩ : ∃ m, rds.length = m := ⟨_, rfl⟩
 rw [hm] at hrv hrl ⊢
 have HRV := hid hrv; have E1 := hid hE1; have HM := hid hm
 have BX1 := hid (hK1 _ _ _ _ (by decide) BX0.out); have BG1 := hid (hK1 _ _ _ _ (by decide) BG0.out)
 clear hrv hE1 hm hK1 HR0 BX0 BG0 HEX HSH HCT
 have HRC : Hid (readCells ars (wa, wsub, e) pt = rds.map (fun a => cellI a.1 a.2 pt 0 ars)) := hid (by simp only [readCells]; rw [HRD.out])
 have HCK : Hid (cellsOk ars (wa, wsub, e) pt = ((rds.map (fun a => cellI a.1 a.2 pt 0 ars)).all (fun c => decide (0 ≤ c)) && decide (0 ≤ cellI wa wsub pt 0 ars))) := hid (by unfold cellsOk; rw [HRC.out]; rfl)
 go_wp2
 go_loopw [9, 11] (fun ov i wr => ∃ (k : Nat) (po : Option Addr) (co : Nat), k ≤ m ∧ i = .int .i64 k ∧ ov = .slice po k co ∧ wr.ownsRow w.heap.size 3 1 (.slice po k co) k (((rds.map (fun a => cellI a.1 a.2 pt 0 ars)).take k).map (Value.int .i64)) ∧ (∀ b, (Value.slice po k co).ownBlock = some b → b = w.heap.size + 1 ∨ W1.heap.size ≤ b) ∧ Lv (fun b => b = w.heap.size + 1) W1 wr ∧ ((rds.map (fun a => cellI a.1 a.2 pt 0 ars)).take k).all (fun c => decide (0 ≤ c)) = true) (fun _ i _ => m - (intOf i).toNat)
 case atStart => exact ⟨0, _, _, by omega, rfl, rfl, ⟨rfl, .inr ⟨w.heap.size + 1, 0, #[], rfl, by omega, BG1.out, Nat.le_refl _, by unfold maxLen; omega, rfl, rfl⟩⟩, fun b h => .inl (by simpa [Value.ownBlock] using h.symm), Lv.refl _ _, by simp⟩
 case round =>
  obtain ⟨k, po, co, hk, rfl, rfl, hrow, hob, hlv, hall⟩ := hrel
  have hEr : Ext w wr := hlv.ext0 E1.out (fun b hb h => by omega)
  have hrv := AccsO.lvB HRV.out hlv (fun b h => by omega)
  have HER := hid hEr; have HRW := hid hrow; have HOB := hid hob; have HLV := hid hlv; have HALL := hid hall
  have BXR := hid (hlv.heap BX1.out (fun h => by omega))
  have hzr := hlv.size
  by_cases hlt : k < m
  ·obtain ⟨x, hx⟩ := get_some (xs := rds) (k := k) (by rw [HM.out]; exact hlt)
   obtain ⟨b, off, q, mm, rfl, c0, c1, hb, hsz, hr⟩ := hrv.at.elem hx
   have hxa := HRO.out x (List.mem_of_getElem? hx)
   obtain ⟨-, hxv, hxb, hxl⟩ := four_of_accB hxa
   have hxl2 : x.2.length ≤ 2 := by simp only [accB, Bool.and_eq_true, decide_eq_true_eq] at hxa; exact hxa.2.2.2
   have hcx := HCB.out x.1 x.2
   have HXN : Hid ((rds.map (fun a => cellI a.1 a.2 pt 0 ars))[k]? = some (cellI x.1 x.2 pt 0 ars)) := hid (by rw [List.getElem?_map, hx]; rfl)
   have htot := totN_bd HOK.out
   rw [HN.out] at htot
   obtain ⟨C, hC⟩ : ∃ C, cellI x.1 x.2 pt 0 ars = C := ⟨_, rfl⟩
   rw [hC] at hcx HXN
   have HC := hid hC; have HR := hid hr; have HXV := hid hxv; have HXB := hid hxb
   clear hx hr hxa hxv hxb hC hEr hrv hrow hob hlv hall
   go_wp2_with (fail)
   refine (l4Cell_any p n c ars x.1 _ _ x.2 pt wr HN.out (HA.out.ext HER.out) HOK.out h4 HXB.out HR.out HXV.out ⟨hxl, hxl2⟩ (HP.out.ext HER.out) HPW.out).mono ?_
   rw [HC.out]
   rintro r w4 ⟨rfl, hE4⟩
   have HE4 := hid hE4
   have hz4 := hE4.size_le
   clear hE4 c0 c1
   by_cases hc0 : C < 0
   ·have hb0 : decide (C < 0) = true := by simpa using hc0
    have HRF : Hid (cellsOk ars (wa, wsub, e) pt = false) := hid (by
     rw [HCK.out, all_false_of (p := fun c => decide (0 ≤ c)) HXN.out (by simpa using hc0)]; rfl)
    have HMD : Hid (IntsOwn w.heap.size (w4.alloc (.cells #[] 3)) (.slice (some ⟨w4.heap.size, 0, none⟩) 0 0) []) := hid (World.ownsRow_made w4 #[] 0 (by omega) (Nat.zero_le _) rfl)
    have HEE := hid ((HER.out.trans HE4.out).alloc (.cells #[] 3))
    go_wp2
    exact bodyPost_ret (v := .tuple #[.slice (some ⟨w4.heap.size, 0, none⟩) 0 0, .int .i64 0, .bool false]) (by simp [results, Tryz.results39, go_sem]) rfl ⟨⟨_, _, by rw [HRF.out], (fun h => by rw [HRF.out] at h; cases h), fun _ => ⟨rfl, HMD.out⟩⟩, HEE.out⟩
   ·have hb0 : decide (C < 0) = false := by simpa using hc0
    have hC0 : 0 ≤ C := by omega
    have hC1 : C < 1000 := by omega
    have ho : (w4.alloc (.cells #[.int .i64 C] 3)).ownsRow w.heap.size 3 1 (.slice po k co) k (((rds.map (fun a => cellI a.1 a.2 pt 0 ars)).take k).map (Value.int .i64)) := ownsRow_ext HRW.out (HE4.out.alloc _)
    have HO := hid ho
    go_wp2_with (at_builtin; refine wpList_append_own_at _ rfl (.tmp 35) (.tmp 37) 27 rfl w.heap.size 3 i0 (.int .i64 0) 1 8 underSliceInt hi hz0 hz1 hz2 rfl (by decide) (.slice po k co) k _ rfl HO.out ⟨w4.heap.size, 0, none⟩ 1 1 [.int .i64 C] rfl rfl ?c1 ?c2 ?c3 ?c4 ?c5 ?_)
    case c1 => exact one_cell rfl
    case c2 => intro u hu; simp at hu; subst hu; rfl
    case c3 => unfold maxLen; omega
    case c4 => omega
    case c5 => simp; omega
    intro v' w5 hown' hgrow _ hat
    obtain ⟨po', co', rfl⟩ : ∃ po' co', v' = .slice po' (k + 1) co' := by
     rcases hown'.2 with ⟨rfl, hn0⟩ | ⟨g, cap, cur, e, _⟩
     ·exact absurd hn0 (by omega)
     ·exact ⟨_, cap, e⟩
    have HRW' : Hid (w5.ownsRow w.heap.size 3 1 (.slice po' (k + 1) co') (k + 1) (((rds.map (fun a => cellI a.1 a.2 pt 0 ars)).take (k + 1)).map (Value.int .i64))) := hid (by rw [take_next HXN.out, List.map_append]; simpa using hown')
    have HOB' : Hid (∀ b, (Value.slice po' (k + 1) co').ownBlock = some b → b = w.heap.size + 1 ∨ W1.heap.size ≤ b) := hid (fun b hb => by
     rcases hat with h | h
     ·exact HOB.out b (h ▸ hb)
     ·rw [hb] at h; simp only [Option.some.injEq] at h; right; omega)
    have HLV' : Hid (Lv (fun b => b = w.heap.size + 1) W1 w5) := hid ((HLV.out.trans (Ext.lv (D := fun _ => False) (HE4.out.alloc (.cells #[.int .i64 C] 3))) (E := fun b => b = w.heap.size + 1) (fun _ _ h => h) (fun _ _ h => h.elim)).trans (Lv.grown (D := fun b => b = w.heap.size + 1 ∨ W1.heap.size ≤ b) hgrow (fun r hr _ => HOB.out r hr)) (fun _ _ h => h) (fun b hb h => by
     rcases h with h | h
     ·exact h
     ·omega))
    have HALL' : Hid (((rds.map (fun a => cellI a.1 a.2 pt 0 ars)).take (k + 1)).all (fun c => decide (0 ≤ c)) = true) := hid (all_take_next HXN.out HALL.out (by simpa using hC0))
    clear hown' hgrow hat ho
    go_wp2
    go_roundw
    case rel => exact ⟨k + 1, _, _, by omega, by go_num, rfl, HRW'.out, HOB'.out, HLV'.out, HALL'.out⟩
    case measure => simp [intOf]; omega
  ·obtain rfl : k = m := by omega
   have hcx := HCB.out wa wsub
   have htot := totN_bd HOK.out
   rw [HN.out] at htot
   obtain ⟨C, hC⟩ : ∃ C, cellI wa wsub pt 0 ars = C := ⟨_, rfl⟩
   rw [hC] at hcx
   have HC := hid hC
   have hmt : (rds.map (fun a => cellI a.1 a.2 pt 0 ars)).take k = rds.map (fun a => cellI a.1 a.2 pt 0 ars) := List.take_of_length_le (by rw [List.length_map, HM.out]; omega)
   have HIO : Hid (IntsOwn w.heap.size wr (.slice po k co) (readCells ars (wa, wsub, e) pt)) := hid (by
    have h := HRW.out
    rw [hmt] at h
    rw [HRC.out]
    exact IntsOwn.mk h (by rw [List.length_map, HM.out]))
   have HAL : Hid ((rds.map (fun a => cellI a.1 a.2 pt 0 ars)).all (fun c => decide (0 ≤ c)) = true) := hid (by have h := HALL.out; rw [hmt] at h; exact h)
   obtain ⟨y0, y1, -, -, -, -, -, -, -⟩ := blk9 BXR.out
   clear hC hEr hrv hrow hob hlv hall hmt
   go_wp2_with (fail)
   refine (l4Cell_any p n c ars wa _ _ wsub pt wr HN.out (HA.out.ext HER.out) HOK.out h4 HWB.out (HS.out.ext HER.out) HWV.out ⟨hwl, hwl2⟩ (HP.out.ext HER.out) HPW.out).mono ?_
   rw [HC.out]
   rintro r w4 ⟨rfl, hE4⟩
   have HE4 := hid hE4
   have hz4 := hE4.size_le
   clear hE4 y0 y1
   by_cases hc0 : C < 0
   ·have hb0 : decide (C < 0) = true := by simpa using hc0
    have HRF : Hid (cellsOk ars (wa, wsub, e) pt = false) := hid (by
     rw [HCK.out, HC.out, decide_eq_false (show ¬ 0 ≤ C by omega)]; simp)
    have HMD : Hid (IntsOwn w.heap.size (w4.alloc (.cells #[] 3)) (.slice (some ⟨w4.heap.size, 0, none⟩) 0 0) []) := hid (World.ownsRow_made w4 #[] 0 (by omega) (Nat.zero_le _) rfl)
    have HEE := hid ((HER.out.trans HE4.out).alloc (.cells #[] 3))
    go_wp2
    exact bodyPost_ret (v := .tuple #[.slice (some ⟨w4.heap.size, 0, none⟩) 0 0, .int .i64 0, .bool false]) (by simp [results, Tryz.results39, go_sem]) rfl ⟨⟨_, _, by rw [HRF.out], (fun h => by rw [HRF.out] at h; cases h), fun _ => ⟨rfl, HMD.out⟩⟩, HEE.out⟩
   ·have hb0 : decide (C < 0) = false := by simpa using hc0
    have HRT : Hid (cellsOk ars (wa, wsub, e) pt = true) := hid (by
     rw [HCK.out, HC.out, HAL.out, decide_eq_true (show 0 ≤ C by omega)]; rfl)
    have HEE := hid (HER.out.trans HE4.out)
    have HIE := hid (HIO.out.ext HE4.out)
    go_wp2
    exact bodyPost_ret (v := .tuple #[.slice po k co, .int .i64 C, .bool true]) (by simp [results, Tryz.results39, go_sem]) rfl ⟨⟨_, _, by rw [HRT.out], fun _ => ⟨HC.out.symm, HIE.out⟩, (fun h => by rw [HRT.out] at h; cases h)⟩, HEE.out⟩
end Go.Proofs.YtggpjapmhakklaaGreat

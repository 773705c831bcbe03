/- The texts G91, joined. No statement is proved here. -/
import Derived.Test.YtggpjapmhakklaaGreatQL31
import Derived.Test.YtggpjapmhakklaaGreatQL42
import Derived.Test.YtggpjapmhakklaaGreatQL28
import Derived.Test.YtggpjapmhakklaaGreatQL49
import Derived.Test.YtggpjapmhakklaaGreatQL50
set_option maxRecDepth 100000
set_option maxHeartbeats 8000000
set_option linter.unusedVariables false
set_option linter.unusedSimpArgs false
namespace Go.Proofs.YtggpjapmhakklaaGreat
open Go.Lib (hid)
open Go.RowKit Go.Maps
theorem row_shape {B n size : Nat} {e : TypeId} {w0 : World} {v : Value} {vs : List Value} (ho : w0.ownsRow B e size v n vs) : ∃ p c, v = .slice p n c := by
 rcases ho.2 with ⟨rfl, hn⟩ | ⟨g, cap, cur, rfl, _⟩
 ·exact ⟨none, 0, by rw [hn]⟩
 ·exact ⟨_, _, rfl⟩
theorem own_one (w : World) (x : Int) : IntsOwn w.heap.size (w.alloc (.cells #[.int .i64 x] 3)) (.slice (some ⟨w.heap.size, 0, none⟩) 1 1) [x] := made_own w 1 (by omega) [x] rfl
theorem own_empty (w : World) : IntsOwn w.heap.size (w.alloc (.cells #[] 3)) (.slice (some ⟨w.heap.size, 0, none⟩) 0 0) [] :=
 World.ownsRow_made w #[] 0 (Nat.le_refl _) (Nat.zero_le _) rfl
theorem lvCell {D : Nat → Prop} {A B : World} {b o : Nat} {v : Value} (h : Lv D A B) (hc : A.cell? ⟨b, o, none⟩ = some v) (hn : ¬ D b) : B.cell? ⟨b, o, none⟩ = some v := by
 have hb := h.block b (World.block_lt_of_cell? A _ hc) hn
 rw [← hc]
 unfold World.cell?
 simp only [hb]
theorem IntsAt.lv0 {D : Nat → Prop} {w w' : World} {q : Option Addr} {n c : Nat} {xs : List Int} (h : IntsAt w (.slice q n c) xs) (hv : Lv D w w') (hn : ∀ b o, q = some ⟨b, o, none⟩ → 0 < xs.length → ¬ D b) : IntsAt w' (.slice q n c) xs := by
 obtain ⟨p', c', e, hm, hc⟩ := h
 simp only [Value.slice.injEq] at e
 obtain ⟨rfl, rfl, rfl⟩ := e
 refine ⟨_, _, rfl, hm, fun i x hi => ?_⟩
 obtain ⟨b, off, hp, hcell⟩ := hc i x hi
 exact ⟨b, off, hp, lvCell hv hcell (hn b off hp (by have := (List.getElem?_eq_some_iff.1 hi).1; omega))⟩
def cellsL (us : List Us) (k : Nat) : List Int := (us.take k).flatMap (fun u => u.1 ++ [u.2])
def atL (ars : List Arr) (ps : List Pt) : List Int := if progB ars ps = true then (cellsL (usesM ars ps) (insM ps).length).take 600 else []
theorem atL_len (ars : List Arr) (ps : List Pt) : (atL ars ps).length ≤ 1000000 := by
 unfold atL
 split
 ·rw [List.length_take]; omega
 ·simp
theorem cells_next {us : List Us} {k : Nat} {u : Us} (h : us[k]? = some u) : cellsL us (k + 1) = cellsL us k ++ u.1 ++ [u.2] := by
 unfold cellsL
 rw [take_next h, List.flatMap_append, List.append_assoc]
 simp
theorem cells_pre (us : List Us) (k : Nat) : ∃ r, cellsL us us.length = cellsL us k ++ r := by
 refine ⟨(us.drop k).flatMap (fun u => u.1 ++ [u.2]), ?_⟩
 unfold cellsL
 rw [← List.flatMap_append, List.take_append_drop, List.take_length]
theorem evRd {ars : List Arr} {ps : List Pt} (hb : progB ars ps = true) : ∀ u ∈ usesM ars ps, u.1.length ≤ 1000 := by
 intro u hu
 unfold usesM at hu
 obtain ⟨y, hy, rfl⟩ := List.mem_map.1 hu
 obtain ⟨x, -, -, -, -, hvb, -⟩ := insM_good hb hy
 show (readCells ars y.2 y.1.2.2).length ≤ 1000
 unfold readCells
 rw [List.length_map]
 obtain ⟨-, -, hcnt⟩ := valid_shape hvb
 have h3 := reads_len 5 y.2.2.2
 omega
theorem specAddressTrace_any (v : Value) (ars : List Arr) (ps : List Pt) (w : World) (hp : PrR w v ars ps) :
  Calls Tryz.prog 6 #[v] w fun e w' => (∃ v', e = .returned v' ∧ IntsOwn w.heap.size w' v' (atL ars ps)) ∧ Ext w w' := by
 obtain ⟨qa, ca, qp, cp, rfl, -, -, -, -⟩ := hp.parts
 obtain ⟨na, hna⟩ : ∃ n, ars.length = n := ⟨_, rfl⟩
 obtain ⟨np, hnp⟩ : ∃ n, ps.length = n := ⟨_, rfl⟩
 rw [hna, hnp] at hp ⊢
 obtain ⟨pb, hpb⟩ : ∃ a, progB ars ps = a := ⟨_, rfl⟩
 have HP := hid hp; have HPB := hid hpb
 clear hp hna hnp hpb
 obtain ⟨B, hB⟩ : ∃ B, w.heap.size = B := ⟨_, rfl⟩
 obtain ⟨W1, hW1⟩ : ∃ W1, (w.alloc (.cells #[.slice qa na ca, .slice qp np cp] 32)).alloc (.cells #[] 3) = W1 := ⟨_, rfl⟩
 have E1 : Hid (Ext w W1) := hid (by rw [← hW1]; exact ((Ext.refl w).alloc _).alloc _)
 have B1 := hid (show W1.heap[B]? = some (.cells #[.slice qa na ca, .slice qp np cp] 32 (0, 0)) by rw [← hW1]; exact blk_old (blk_at hB.symm))
 have O1 : Hid (IntsOwn B W1 (.slice (some ⟨B + 1, 0, none⟩) 0 0) []) := hid (by rw [← hW1]; have h := (own_empty (w.alloc (.cells #[.slice qa na ca, .slice qp np cp] 32))).weak (B' := B) (by simp [hB]); rw [World.size_alloc, hB] at h; exact h)
 obtain ⟨y0, y1, -, -⟩ := blk2 B1.out
 go_enter Tryz.func6, Tryz.ntmps6
 go_wp2_with (fail)
 try rw [hW1]
 try rw [hB]
 have HB := hid hB
 clear hW1 hB
 refine (specProgramValid_any _ ars ps _ (HP.out.ext E1.out)).mono ?_
 rw [HPB.out]
 rintro e w2 ⟨rfl, hE2⟩
 have E2 := hid (E1.out.trans hE2); have B2 := hid (hE2.blk B1.out); have O2 := hid (O1.out.ext hE2)
 clear hE2 y0 y1
 cases pb with
 | false =>
  have HR : Hid (atL ars ps = []) := hid (by unfold atL; rw [HPB.out]; rfl)
  go_wp2
  go_ret
  exact ⟨⟨_, rfl, by rw [HR.out, HB.out]; exact O2.out⟩, E2.out⟩
 | true =>
  obtain ⟨y0, y1, -, -⟩ := blk2 B2.out
  obtain ⟨M, hM⟩ : ∃ M, (insM ps).length = M := ⟨_, rfl⟩
  have hM120 : M ≤ 120 := by rw [← hM]; exact insM_120 HPB.out
  go_wp2_with (fail)
  refine (l6Uses_any _ ars ps _ (HP.out.ext E2.out) HPB.out).mono ?_
  rintro e w3 ⟨⟨q, c, rfl, hu⟩, hE3⟩
  have hrd := evRd HPB.out
  obtain ⟨us, hus⟩ : ∃ us, usesM ars ps = us := ⟨_, rfl⟩
  have hul : us.length = M := by rw [← hus, ← hM]; simp [usesM]
  have HR : Hid (atL ars ps = (cellsL us M).take 600) := hid (by unfold atL; rw [if_pos HPB.out, hus, hM])
  rw [hus] at hu hrd
  rw [hM] at hu ⊢
  have HU := hid hu; have E3 := hid (E2.out.trans hE3); have O3 := hid (O2.out.ext hE3); have HRDs := hid hrd; have HUL := hid hul
  clear hu hE3 hrd hus hM y0 y1 hul
  go_wp2
  go_loopw [3, 5] (fun ov iv wr => ∃ (k m : Nat) (po : Option Addr) (co : Nat), k ≤ M ∧ iv = .int .i64 k ∧ ov = .slice po m co ∧ (cellsL us k).length = m ∧ m ≤ 600 ∧ wr.ownsRow B 3 1 (.slice po m co) m ((cellsL us k).map (Value.int .i64)) ∧ (∀ b, (Value.slice po m co).ownBlock = some b → b < w2.heap.size ∨ w3.heap.size ≤ b) ∧ Lv (fun b => B ≤ b ∧ b < w2.heap.size) w3 wr) (fun _ iv _ => M - (intOf iv).toNat)
  case atStart => exact ⟨0, 0, _, _, by omega, rfl, rfl, rfl, by omega, O3.out, fun b hb => by have := (World.ownsRow.lt O2.out b hb).2; exact .inl this, Lv.refl _ _⟩
  case round =>
   obtain ⟨k, m, po, co, hk, rfl, rfl, hm, hm6, hro, hrb, hE⟩ := hrel
   have HM := hid hm; have HRO' := hid hro; have HE := hid hE
   clear hm hro hE
   by_cases hlt : k < M
   ·obtain ⟨u, hu⟩ := get_some (xs := us) (k := k) (by rw [HUL.out]; exact hlt)
    obtain ⟨i0, hi, hz0, hz1, hz2⟩ := info_parts infoInt
    have hu1k := HRDs.out u (List.mem_of_getElem? hu)
    obtain ⟨o, r, rc, rfl, hol, c0, c1, hrr⟩ := HU.out.elem hu
    have hoB : w2.heap.size ≤ o := by obtain ⟨vs, ho, -⟩ := HU.out; exact (World.ownsRow.lt ho o rfl).1
    have hon : ¬ (B ≤ o ∧ o < w2.heap.size) := by omega
    have hc0 := lvCell HE.out c0 hon
    have hc1 := lvCell HE.out c1 hon
    have HRD : Hid (IntsAt wr (.slice r u.1.length rc) u.1) := hid (IntsOwn.at (row_lv hrr HE.out (fun b hb h => by have := (World.ownsRow.lt hrr b hb).1; omega)))
    obtain ⟨X, hX⟩ : ∃ X, cellsL us k = X := ⟨_, rfl⟩
    have HNX : Hid (cellsL us (k + 1) = X ++ u.1 ++ [u.2]) := hid (by rw [cells_next hu, hX])
    have HRO : Hid (wr.ownsRow B 3 1 (.slice po m co) m (X.map (Value.int .i64))) := hid (by rw [← hX]; exact HRO'.out)
    have HML : Hid ((cellsL us (k + 1)).length = m + u.1.length + 1) := hid (by rw [cells_next hu, List.length_append, List.length_append, HM.out]; rfl)
    have hBw : B ≤ wr.heap.size := by have := HE.out.size; have := E3.out.size_le; have := HB.out; omega
    have hw3 : w3.heap.size ≤ wr.heap.size := HE.out.size
    have HSL2 : Hid (∀ W, Lv (fun b => (Value.slice po m co).ownBlock = some b ∨ wr.heap.size ≤ b) wr W → W.cell? ⟨o, k * 2, none⟩ = some (.slice r u.1.length rc) ∧ W.cell? ⟨o, k * 2 + 1, none⟩ = some (.int .i64 u.2)) := hid (fun W h => by
     have hn : ¬ ((Value.slice po m co).ownBlock = some o ∨ wr.heap.size ≤ o) := fun h => by
      rcases h with h | h
      ·rcases hrb o h with h2 | h2 <;> omega
      ·omega
     exact ⟨lvCell h hc0 hn, lvCell h hc1 hn⟩)
    have HSL : Hid (∀ W, Lv (fun b => (Value.slice po m co).ownBlock = some b) wr W → W.cell? ⟨o, k * 2, none⟩ = some (.slice r u.1.length rc) ∧ W.cell? ⟨o, k * 2 + 1, none⟩ = some (.int .i64 u.2)) := hid (fun W h => HSL2.out W (h.mono (fun _ _ h => .inl h)))
    have HSO : Hid (∀ W, Ext wr W → W.cell? ⟨o, k * 2, none⟩ = some (.slice r u.1.length rc) ∧ W.cell? ⟨o, k * 2 + 1, none⟩ = some (.int .i64 u.2)) := hid (fun W h => HSL.out W h.lv)
    have HSTEP : Hid (∀ (q8 : Option Addr) (d8 : Nat) (w8 : World), Lv (fun b => (Value.slice po m co).ownBlock = some b ∨ wr.heap.size ≤ b) wr w8 → w8.ownsRow B 3 1 (.slice q8 (m + u.1.length + 1) d8) (m + u.1.length + 1) ((X ++ u.1 ++ [u.2]).map (Value.int .i64)) → (∀ b, (Value.slice q8 (m + u.1.length + 1) d8).ownBlock = some b → (Value.slice po m co).ownBlock = some b ∨ wr.heap.size ≤ b) →
      Lv (fun b => B ≤ b ∧ b < w2.heap.size) w3 w8 ∧ w8.ownsRow B 3 1 (.slice q8 (m + u.1.length + 1) d8) (m + u.1.length + 1) ((cellsL us (k + 1)).map (Value.int .i64)) ∧ ∀ b, (Value.slice q8 (m + u.1.length + 1) d8).ownBlock = some b → b < w2.heap.size ∨ w3.heap.size ≤ b) := hid (fun q8 d8 w8 hl ho hb => by
     refine ⟨HE.out.trans hl (fun _ _ h => h) (fun b hb2 h => ?_), by rw [HNX.out]; exact ho, fun b hb2 => ?_⟩
     ·rcases h with h | h
      ·have h1 := (World.ownsRow.lt HRO.out b h).1
       rcases hrb b h with h2 | h2
       ·exact ⟨h1, h2⟩
       ·omega
      ·omega
     ·rcases hb b hb2 with h | h
      ·exact hrb b h
      ·exact .inr (by omega))
    have hkI : (k : Int) < (M : Int) := by omega
    clear hrb hu hX c0 c1 hrr hol hon
    go_wp2_with (fail)
    refine wp_region_last (S := (fun W => W.cell? ⟨o, k * 2, none⟩ = some (.slice r u.1.length rc) ∧ W.cell? ⟨o, k * 2 + 1, none⟩ = some (.int .i64 u.2))) (by kernel_rfl) (HSO.out _ (Ext.refl wr).drew) (fun hHeld => ?_)
    refine tkL (some 19) 0 ?va0 rfl (by kernel_rfl) (by kernel_rfl) (fun _ _ _ h => h) (Or.inl ⟨by rfl, ?hya0⟩) (by assumption) ?ra0
    case hya0 => intro w hSw; (try dsimp only at hSw); go_simp; first | done | with_reducible rfl
    case' ra0 => try simp only [Act.put, sA9, sZ9, sS9]
    refine tkL (some 20) 1 ?va1 rfl (by kernel_rfl) (by kernel_rfl) (fun _ _ _ h => h) (Or.inl ⟨by rfl, ?hya1⟩) (by assumption) ?ra1
    case hya1 => intro w hSw; (try dsimp only at hSw); go_simp; first | done | with_reducible rfl
    case' ra1 => try simp only [Act.put, sA9, sZ9, sS9]
    refine tkL (some 21) 2 ?va2 rfl (by kernel_rfl) (by kernel_rfl) (fun _ _ _ h => h) (Or.inl ⟨by rfl, ?hya2⟩) (by assumption) ?ra2
    case hya2 => intro w hSw; (try dsimp only at hSw); go_simp; first | done | with_reducible rfl
    case' ra2 => try simp only [Act.put, sA9, sZ9, sS9]
    refine tkL (some 22) 3 ?va3 rfl (by kernel_rfl) (by kernel_rfl) (fun _ _ _ h => h) (Or.inl ⟨by rfl, ?hya3⟩) (by assumption) ?ra3
    case hya3 => intro w hSw; (try dsimp only at hSw); go_simp; first | done | with_reducible rfl
    case' ra3 => try simp only [Act.put, sA9, sZ9, sS9]
    refine tkL (some 23) 4 ?va4 rfl (by kernel_rfl) (by kernel_rfl) (fun _ _ _ h => h) (Or.inl ⟨by rfl, ?hya4⟩) (by assumption) ?ra4
    case hya4 => intro w hSw; (try dsimp only at hSw); go_simp; first | done | with_reducible rfl
    case' ra4 => try simp only [Act.put, sA9, sZ9, sS9]
    refine tkL (some 24) 5 ?va5 rfl (by kernel_rfl) (by kernel_rfl) (fun _ _ _ h => h) (Or.inl ⟨by rfl, ?hya5⟩) (by assumption) ?ra5
    case hya5 => intro w hSw; (try dsimp only at hSw); go_simp; first | done | with_reducible rfl
    case' ra5 => try simp only [Act.put, sA9, sZ9, sS9]
    refine tkL (some 26) 7 ?va6 rfl (by kernel_rfl) (by kernel_rfl) (fun _ _ _ h => h) (Or.inl ⟨by rfl, ?hya6⟩) (by assumption) ?ra6
    case hya6 => intro w hSw; (try dsimp only at hSw); go_simp; first | done | with_reducible rfl
    case' ra6 => try simp only [Act.put, sA9, sZ9, sS9]
    refine tkL (some 27) 8 ?va7 rfl (by kernel_rfl) (by kernel_rfl) (fun _ _ _ h => h) (Or.inl ⟨by rfl, ?hya7⟩) (by assumption) ?ra7
    case hya7 => intro w hSw; (try dsimp only at hSw); go_simp; first | done | with_reducible rfl
    case' ra7 => try simp only [Act.put, sA9, sZ9, sS9]
    refine tkL (some 28) 9 ?va8 rfl (by kernel_rfl) (by kernel_rfl) (fun _ _ _ h => h) (Or.inl ⟨by rfl, ?hya8⟩) (by assumption) ?ra8
    case hya8 => intro w hSw; (try dsimp only at hSw); go_simp; first | done | with_reducible rfl
    case' ra8 => try simp only [Act.put, sA9, sZ9, sS9]
    refine tkL (some 29) 10 ?va9 rfl (by kernel_rfl) (by kernel_rfl) (fun _ _ _ h => h) (Or.inl ⟨by rfl, ?hya9⟩) (by assumption) ?ra9
    case hya9 => intro w hSw; (try dsimp only at hSw); go_simp; first | done | with_reducible rfl
    case' ra9 => try simp only [Act.put, sA9, sZ9, sS9]
    refine tkL (some 30) 11 ?va10 rfl (by kernel_rfl) (by kernel_rfl) (fun _ _ _ h => h) (Or.inl ⟨by rfl, ?hya10⟩) (by assumption) ?ra10
    case hya10 => intro w hSw; (try dsimp only at hSw); go_simp; first | done | with_reducible rfl
    case' ra10 => try simp only [Act.put, sA9, sZ9, sS9]
    refine twoL (i := 6) (j := 12) rfl rfl (by kernel_rfl) (fun K9 hK => ?_) (fun K9 hK => ?_)
    ·skip
     refine step_append_ints _ rfl (.tmp 19) (.tmp 24) rfl B (.slice po m co) m X rfl (ownsRow_ext HRO.out (Ext.refl wr).drew) r u.1.length rc u.1 rfl (HRD.out.ext (Ext.refl wr).drew) (by unfold maxLen; omega) (by omega) (by first | (have := (Ext.refl wr).drew.size_le; omega) | (simp; omega)) ?_
     intro v7 w7 hown7 hgr7 hat7
     obtain ⟨q7, d7, rfl⟩ := row_shape hown7
     have hl7 : Lv (fun b => (Value.slice po m co).ownBlock = some b) wr w7 := ((Ext.refl wr).drew.lv (D := fun _ => False)).trans (Lv.grown hgr7 (fun r e _ => e)) (fun _ _ h => h.elim) (fun _ _ h => h)
     have hs7 := hl7.size
     refine hK.out _ _ (HSL.out _ hl7) (fun hH9 => ?_)
     clear hK K9
     try simp only [Act.put, sA9, sZ9, sS9]
     refine oneL (i := 12) rfl (by kernel_rfl) (fun K9 hK => ?_)
     go_simp
     have hEa : Ext w7 (w7.alloc (.cells #[.int .i64 u.2] 3)) := (Ext.refl w7).alloc _
     refine hK.out _ _ (HSL.out _ (hl7.trans (hEa.lv (D := fun _ => False)) (fun _ _ h => h) (fun _ _ h => h.elim))) (fun hH9 => ?_)
     clear hK K9
     try simp only [Act.put, sA9, sZ9, sS9]
     refine oneL (i := 13) rfl (by kernel_rfl) (fun K9 hK => ?_)
     have hsa : (w7.alloc (.cells #[.int .i64 u.2] 3)).heap.size = w7.heap.size + 1 := by simp
     refine step_append_ints _ rfl (.tmp 25) (.tmp 31) rfl B (.slice q7 (m + u.1.length) d7) (m + u.1.length) (X ++ u.1) rfl (ownsRow_ext hown7 hEa) (some ⟨w7.heap.size, 0, none⟩) 1 1 [u.2] rfl (own_one w7 u.2).at (by unfold maxLen; omega) (by omega) (by omega) ?_
     intro v8 w8 hown8 hgr8 hat8
     obtain ⟨q8, d8, rfl⟩ := row_shape hown8
     have hl8 : Lv (fun b => (Value.slice po m co).ownBlock = some b ∨ wr.heap.size ≤ b) wr w8 := (hl7.trans (hEa.lv (D := fun _ => False)) (E := fun b => (Value.slice po m co).ownBlock = some b ∨ wr.heap.size ≤ b) (fun _ _ h => .inl h) (fun _ _ h => h.elim)).trans (Lv.grown (D := fun b => (Value.slice q7 (m + u.1.length) d7).ownBlock = some b) hgr8 (fun r e _ => e)) (fun _ _ h => h) (fun b hb h => by rcases hat7 with e | e; exact .inl (e ▸ h); rw [h] at e; cases e; exact .inr (by simp))
     refine hK.out _ _ (HSL2.out _ hl8) (fun hH9 => ?_)
     clear hK K9
     try simp only [Act.put, sA9, sZ9, sS9]
     refine lastL (i := 14) rfl (by kernel_rfl) (by kernel_rfl) (fun K9 hK => ?_)
     go_simp
     refine hK.out _ _ ?_
     clear hK K9
     try simp only [Act.put, sA9, sZ9, sS9]
     have hnb : ∀ b, (Value.slice q8 (m + u.1.length + 1) d8).ownBlock = some b → (Value.slice po m co).ownBlock = some b ∨ wr.heap.size ≤ b := fun b hb => by
      rcases hat8 with e | e
      ·rw [hb] at e
       rcases hat7 with e7 | e7
       ·exact .inl (by rw [← e7, ← e])
       ·rw [e7] at e; cases e; exact .inr (by simp)
      ·rw [hb] at e; cases e; exact .inr (by first | omega | (simp; omega))
     have hfin := HSTEP.out _ _ _ hl8 hown8 hnb
     clear hl7 hl8 hs7 hown7 hgr7 hat7 hown8 hgr8 hat8 hHeld hH9 hEa hsa hnb
     obtain ⟨hE8, hr8, hb8⟩ := hfin
     have HE8 := hid hE8; have HR8 := hid hr8; have HB8 := hid hb8
     clear hE8 hr8 hb8
     by_cases hbig : (600 : Int) < ((m + u.1.length + 1 : Nat) : Int)
     ·obtain ⟨g8, rfl, hd8⟩ : ∃ g8, q8 = some ⟨g8, 0, none⟩ ∧ m + u.1.length + 1 ≤ d8 := by
       rcases HR8.out.2 with ⟨e, _⟩ | ⟨g', cap, cur, e, _, _, h, _⟩
       ·cases e
       ·cases e; exact ⟨g', rfl, h⟩
      have hd8I : (600 : Int) ≤ (d8 : Int) := by omega
      have E9 : Ext w8 (w8.alloc (.cells #[] 3)) := (Ext.refl w8).alloc _
      have HN9 : Hid (∀ (i : Nat) (v : Value), (((cellsL us (k + 1)).take 600).map (Value.int .i64))[i]? = some v → (w8.alloc (.cells #[] 3)).cell? ((⟨g8, 0, none⟩ : Addr).add i) = some v) := hid (fun i v hv => World.ownsRow.cells (ownsRow_ext HR8.out E9) (g := g8) rfl i v (by
       rw [List.map_take] at hv
       have hi6 : i < 600 := by have := (List.getElem?_eq_some_iff.1 hv).1; simp at this; omega
       rwa [List.getElem?_take_of_lt hi6] at hv))
      have HX9 : Hid ((w8.alloc (.cells #[] 3)).ownsRow w8.heap.size 3 1 (.slice (some ⟨w8.heap.size, 0, none⟩) 0 0) 0 (([] : List Int).map (Value.int .i64))) := hid (own_empty w8)
      have HL9 : Hid (((cellsL us (k + 1)).take 600).length = 600) := hid (by rw [List.length_take, HML.out]; omega)
      have HP9 : Hid (((cellsL us (k + 1)).take 600) = (cellsL us M).take 600) := hid (by
       obtain ⟨r9, hr9⟩ := cells_pre us (k + 1)
       rw [HUL.out] at hr9
       rw [hr9, List.take_append_of_le_length (by rw [HML.out]; omega)])
      go_wp2_with (at_builtin; refine wpList_append_own_at _ rfl (.tmp 36) (.tmp 38) 27 rfl w8.heap.size 3 i0 (.int .i64 0) 1 8 Tryz.underlying27 hi hz0 hz1 hz2 rfl (by decide) (.slice (some ⟨w8.heap.size, 0, none⟩) 0 0) 0 _ rfl HX9.out ⟨g8, 0, none⟩ 600 d8 (((cellsL us (k + 1)).take 600).map (Value.int .i64)) rfl ?e1 HN9.out ?e2 ?e3 ?e4 ?e5 ?_)
      case e1 => rw [List.length_map, HL9.out]
      case e2 => intro v hv; obtain ⟨z, -, rfl⟩ := List.mem_map.1 hv; rfl
      case e3 => unfold maxLen; omega
      case e4 => omega
      case e5 => simp
      intro v9 w9 hown9 hgr9 hnil9 hat9
      obtain ⟨q9, d9, rfl⟩ := row_shape hown9
      have HI9 : Hid (IntsOwn w.heap.size w9 (.slice q9 (0 + 600) d9) (atL ars ps)) := hid (by
       rw [HR.out, ← HP9.out]
       exact IntsOwn.weak (IntsOwn.mk (by simpa using hown9) HL9.out) (by have := HE8.out.size; have := E3.out.size_le; omega))
      have HE9 := hid (Ext.grown ((HE8.out.ext0 E3.out (fun b hb h => by have := HB.out; omega)).alloc (.cells #[] 3)) hgr9 (fun b hb => by simp only [Value.ownBlock, Option.some.injEq] at hb; have := HE8.out.size; have := E3.out.size_le; omega))
      clear hown9 hgr9 hnil9 hat9 E9
      go_wp2
      go_ret
      exact ⟨⟨_, rfl, HI9.out⟩, HE9.out⟩
     ·go_wp2
      go_roundw
      case rel => exact ⟨k + 1, m + u.1.length + 1, q8, d8, by omega, by go_num, rfl, HML.out, by omega, HR8.out, HB8.out, HE8.out⟩
      case measure => simp [intOf]; omega
    ·skip
     go_simp
     have hEa : Ext wr (wr.drew.alloc (.cells #[.int .i64 u.2] 3)) := (Ext.refl wr).drew.alloc _
     have hsd : wr.drew.heap.size = wr.heap.size := rfl
     refine hK.out _ _ (HSO.out _ hEa) (fun hH9 => ?_)
     clear hK K9
     try simp only [Act.put, sA9, sZ9, sS9]
     refine oneL (i := 6) rfl (by kernel_rfl) (fun K9 hK => ?_)
     refine step_append_ints _ rfl (.tmp 19) (.tmp 24) rfl B (.slice po m co) m X rfl (ownsRow_ext HRO.out hEa) r u.1.length rc u.1 rfl (HRD.out.ext hEa) (by unfold maxLen; omega) (by omega) (by first | (have := hEa.size_le; omega) | (simp; omega)) ?_
     intro v7 w7 hown7 hgr7 hat7
     obtain ⟨q7, d7, rfl⟩ := row_shape hown7
     have hl7 : Lv (fun b => (Value.slice po m co).ownBlock = some b) wr w7 := (hEa.lv (D := fun _ => False)).trans (Lv.grown hgr7 (fun r e _ => e)) (fun _ _ h => h.elim) (fun _ _ h => h)
     have hs7 := hl7.size
     refine hK.out _ _ (HSL.out _ hl7) (fun hH9 => ?_)
     clear hK K9
     try simp only [Act.put, sA9, sZ9, sS9]
     refine oneL (i := 13) rfl (by kernel_rfl) (fun K9 hK => ?_)
     have hone : IntsAt w7 (.slice (some ⟨wr.drew.heap.size, 0, none⟩) 1 1) [u.2] := ((own_one wr.drew u.2).at).lv0 (Lv.grown (D := fun b => (Value.slice po m co).ownBlock = some b) hgr7 (fun r e _ => e)) (fun b o e _ h => by cases e; have := (World.ownsRow.lt HRO.out _ h).2; omega)
     refine step_append_ints _ rfl (.tmp 25) (.tmp 31) rfl B (.slice q7 (m + u.1.length) d7) (m + u.1.length) (X ++ u.1) rfl hown7 (some ⟨wr.drew.heap.size, 0, none⟩) 1 1 [u.2] rfl hone (by unfold maxLen; omega) (by omega) (by omega) ?_
     intro v8 w8 hown8 hgr8 hat8
     obtain ⟨q8, d8, rfl⟩ := row_shape hown8
     have hl8 : Lv (fun b => (Value.slice po m co).ownBlock = some b ∨ wr.heap.size ≤ b) wr w8 := hl7.trans (Lv.grown (D := fun b => (Value.slice q7 (m + u.1.length) d7).ownBlock = some b) hgr8 (fun r e _ => e)) (fun _ _ h => .inl h) (fun b hb h => by rcases hat7 with e | e; exact .inl (e ▸ h); rw [h] at e; cases e; exact .inr (by simp [hsd]))
     refine hK.out _ _ (HSL2.out _ hl8) (fun hH9 => ?_)
     clear hK K9
     try simp only [Act.put, sA9, sZ9, sS9]
     refine lastL (i := 14) rfl (by kernel_rfl) (by kernel_rfl) (fun K9 hK => ?_)
     go_simp
     refine hK.out _ _ ?_
     clear hK K9
     try simp only [Act.put, sA9, sZ9, sS9]
     have hnb : ∀ b, (Value.slice q8 (m + u.1.length + 1) d8).ownBlock = some b → (Value.slice po m co).ownBlock = some b ∨ wr.heap.size ≤ b := fun b hb => by
      rcases hat8 with e | e
      ·rw [hb] at e
       rcases hat7 with e7 | e7
       ·exact .inl (by rw [← e7, ← e])
       ·rw [e7] at e; cases e; exact .inr (by simp)
      ·rw [hb] at e; cases e; exact .inr (by first | omega | (simp; omega))
     have hfin := HSTEP.out _ _ _ hl8 hown8 hnb
     clear hl7 hl8 hs7 hown7 hgr7 hat7 hown8 hgr8 hat8 hHeld hH9 hEa hsd hone hnb
     obtain ⟨hE8, hr8, hb8⟩ := hfin
     have HE8 := hid hE8; have HR8 := hid hr8; have HB8 := hid hb8
     clear hE8 hr8 hb8
     by_cases hbig : (600 : Int) < ((m + u.1.length + 1 : Nat) : Int)
     ·obtain ⟨g8, rfl, hd8⟩ : ∃ g8, q8 = some ⟨g8, 0, none⟩ ∧ m + u.1.length + 1 ≤ d8 := by
       rcases HR8.out.2 with ⟨e, _⟩ | ⟨g', cap, cur, e, _, _, h, _⟩
       ·cases e
       ·cases e; exact ⟨g', rfl, h⟩
      have hd8I : (600 : Int) ≤ (d8 : Int) := by omega
      have E9 : Ext w8 (w8.alloc (.cells #[] 3)) := (Ext.refl w8).alloc _
      have HN9 : Hid (∀ (i : Nat) (v : Value), (((cellsL us (k + 1)).take 600).map (Value.int .i64))[i]? = some v → (w8.alloc (.cells #[] 3)).cell? ((⟨g8, 0, none⟩ : Addr).add i) = some v) := hid (fun i v hv => World.ownsRow.cells (ownsRow_ext HR8.out E9) (g := g8) rfl i v (by
       rw [List.map_take] at hv
       have hi6 : i < 600 := by have := (List.getElem?_eq_some_iff.1 hv).1; simp at this; omega
       rwa [List.getElem?_take_of_lt hi6] at hv))
      have HX9 : Hid ((w8.alloc (.cells #[] 3)).ownsRow w8.heap.size 3 1 (.slice (some ⟨w8.heap.size, 0, none⟩) 0 0) 0 (([] : List Int).map (Value.int .i64))) := hid (own_empty w8)
      have HL9 : Hid (((cellsL us (k + 1)).take 600).length = 600) := hid (by rw [List.length_take, HML.out]; omega)
      have HP9 : Hid (((cellsL us (k + 1)).take 600) = (cellsL us M).take 600) := hid (by
       obtain ⟨r9, hr9⟩ := cells_pre us (k + 1)
       rw [HUL.out] at hr9
       rw [hr9, List.take_append_of_le_length (by rw [HML.out]; omega)])
      go_wp2_with (at_builtin; refine wpList_append_own_at _ rfl (.tmp 36) (.tmp 38) 27 rfl w8.heap.size 3 i0 (.int .i64 0) 1 8 Tryz.underlying27 hi hz0 hz1 hz2 rfl (by decide) (.slice (some ⟨w8.heap.size, 0, none⟩) 0 0) 0 _ rfl HX9.out ⟨g8, 0, none⟩ 600 d8 (((cellsL us (k + 1)).take 600).map (Value.int .i64)) rfl ?e1 HN9.out ?e2 ?e3 ?e4 ?e5 ?_)
      case e1 => rw [List.length_map, HL9.out]
      case e2 => intro v hv; obtain ⟨z, -, rfl⟩ := List.mem_map.1 hv; rfl
      case e3 => unfold maxLen; omega
      case e4 => omega
      case e5 => simp
      intro v9 w9 hown9 hgr9 hnil9 hat9
      obtain ⟨q9, d9, rfl⟩ := row_shape hown9
      have HI9 : Hid (IntsOwn w.heap.size w9 (.slice q9 (0 + 600) d9) (atL ars ps)) := hid (by
       rw [HR.out, ← HP9.out]
       exact IntsOwn.weak (IntsOwn.mk (by simpa using hown9) HL9.out) (by have := HE8.out.size; have := E3.out.size_le; omega))
      have HE9 := hid (Ext.grown ((HE8.out.ext0 E3.out (fun b hb h => by have := HB.out; omega)).alloc (.cells #[] 3)) hgr9 (fun b hb => by simp only [Value.ownBlock, Option.some.injEq] at hb; have := HE8.out.size; have := E3.out.size_le; omega))
      clear hown9 hgr9 hnil9 hat9 E9
      go_wp2
      go_ret
      exact ⟨⟨_, rfl, HI9.out⟩, HE9.out⟩
     ·go_wp2
      go_roundw
      case rel => exact ⟨k + 1, m + u.1.length + 1, q8, d8, by omega, by go_num, rfl, HML.out, by omega, HR8.out, HB8.out, HE8.out⟩
      case measure => simp [intOf]; omega
   ·obtain rfl : k = M := by omega
    have HI : Hid (IntsOwn w.heap.size wr (.slice po m co) (atL ars ps)) := hid (by
     rw [HR.out, List.take_of_length_le (by rw [HM.out]; exact hm6), HB.out]
     exact IntsOwn.mk HRO'.out HM.out)
    have HEE := hid (HE.out.ext0 E3.out (fun b hb h => by have := HB.out; omega))
    go_wp2
    go_ret
    exact ⟨⟨_, rfl, HI.out⟩, HEE.out⟩
end Go.Proofs.YtggpjapmhakklaaGreat

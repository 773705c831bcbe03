/- The texts G14, joined. No statement is proved here. -/
import Derived.Test.YtggpjapmhakklaaGreatQL31
import Derived.Test.YtggpjapmhakklaaGreatQL40
import Derived.Test.YtggpjapmhakklaaGreatQL02
import Derived.Test.YtggpjapmhakklaaGreatQL34
set_option maxRecDepth 100000
set_option maxHeartbeats 8000000
set_option linter.unusedVariables false
set_option linter.unusedSimpArgs false
namespace Go.Proofs.YtggpjapmhakklaaGreat
open Go.Lib (hid)
open Go.RowKit Go.Maps
theorem totN_snoc (l : List Arr) (x : Arr) : totN (l ++ [x]) = totN l + dimsN x.2 := by simp [totN]
theorem lastIs {ars : List Arr} {k : Nat} {x : Arr} (hx : ars[k]? = some x) (j : Nat) (y : Arr) (h : k + 1 = j + 1) (hy : ars[j]? = some y) : x.1 = y.1 := by
 obtain rfl : k = j := by omega
 rw [hx] at hy; cases hy; rfl
theorem layoutOf_any (p : Option Addr) (n c : Nat) (ars : List Arr) (w00 w : World) (hn : ars.length = n) (hs : ArrsAt w00 (.slice p n c) ars) (h00 : Ext w00 w) :
  Calls Tryz.prog 42 #[.slice p n c] w fun e w' => (∃ mo T, e = .returned (.tuple #[.agg #[.map mo, .int .i64 T], .bool (arrsB ars)]) ∧ (arrsB ars = true → T = totN ars ∧ ∃ B D, mo = some B ∧ w.heap.size ≤ B ∧ w'.ownsMap Tryz.prog 9 rawE B 4 D ∧ MapIs w00 D ars)) ∧ Ext w w' := by
 have hm : n ≤ 9223372036854775807 := by obtain ⟨_, _, _, hm⟩ := hs.form; rw [← hn]; exact hm
 have HS := hid hs; have HN := hid hn; have H00 := hid h00; clear hs hn h00
 have hmm := @run_makeMap Tryz.prog
 go_enter Tryz.func42, Tryz.ntmps42
 go_wp2
 clear hmm
 obtain ⟨wB, hwB⟩ : ∃ wB, (w.alloc (.cells #[.map none, .int .i64 0] 53)) = wB := ⟨_, rfl⟩
 have hzB : wB.heap.size = w.heap.size + 1 := by rw [← hwB]; simp
 obtain ⟨W0, hW0⟩ : ∃ W0, (wB.alloc (.map #[] 0)).alloc (.cells #[.map (some (w.heap.size + 1)), .int .i64 0] 53) = W0 := ⟨_, rfl⟩
 have hz0 : W0.heap.size = w.heap.size + 3 := by rw [← hW0]; simp [hzB]
 have E0 : Hid (Ext w W0) := hid (by rw [← hW0, ← hwB]; exact (((Ext.refl w).alloc _).alloc _).alloc _)
 have R0 := hid (show W0.heap[w.heap.size]? = some (.cells #[.map none, .int .i64 0] 53 (0, 0)) by rw [← hW0, ← hwB]; exact blk_old (blk_old (blk_at rfl)))
 have G0 := hid (show W0.heap[w.heap.size + 2]? = some (.cells #[.map (some (w.heap.size + 1)), .int .i64 0] 53 (0, 0)) by rw [← hW0]; exact blk_at (by simp [hzB]))
 have M0 : Hid (W0.ownsMap Tryz.prog 9 rawE (w.heap.size + 1) 0 (.map [])) := hid (by
  have h := World.ownsMap_made wB Tryz.prog 9 rawE
  rw [hzB] at h
  rw [← hW0]; exact h.alloc _)
 try rw [hwB]
 try rw [hW0]
 clear hwB hW0
 go_loopw [5, 12] (fun lv iv wr => ∃ (k : Nat) (L : ByteArray) (T : Int) (D : DataW Value), k ≤ n ∧ iv = .int .i64 k ∧ lv = .string L ∧ arrsTo ars k ∧ (k = 0 → L = ⟨#[]⟩) ∧ (∀ j y, k = j + 1 → ars[j]? = some y → L = y.1) ∧ totN (ars.take k) = T ∧ wr.heap[w.heap.size + 2]? = some (.cells #[.map (some (w.heap.size + 1)), .int .i64 T] 53 (0, 0)) ∧ wr.ownsMap Tryz.prog 9 rawE (w.heap.size + 1) k D ∧ MapIs w00 D (ars.take k) ∧ wr.heap[w.heap.size]? = some (.cells #[.map none, .int .i64 0] 53 (0, 0)) ∧ Ext w wr ∧ w.heap.size + 3 ≤ wr.heap.size) (fun _ iv _ => n - (intOf iv).toNat)
 case atStart => exact ⟨0, ⟨#[]⟩, 0, .map [], by omega, rfl, rfl, ⟨by simp, rfl⟩, fun _ => rfl, fun j y h => by omega, by simp [totN], G0.out, M0.out, by simpa using MapIs.empty w00, R0.out, E0.out, by omega⟩
 case round =>
  obtain ⟨k, L, T, D, hk, rfl, rfl, hto, hL0, hL1, hT, hG, hM, hMI, hR, hE, hz⟩ := hrel
  have HT := hid hto; have HL0 := hid hL0; have HL1 := hid hL1; have HTT := hid hT; have HG := hid hG; have HM := hid hM; have HMI := hid hMI; have HR := hid hR; have HE := hid hE
  have hk4 : k ≤ 4 := by
   have h := arrs_len (ars := ars.take k) (by simp only [arrsB, Bool.and_eq_true, List.all_eq_true]; exact hto)
   rw [List.length_take, HN.out] at h; omega
  have hTb := totN_bd hto.1
  rw [hT, List.length_take, HN.out] at hTb
  have hTb2 : 0 ≤ T ∧ T ≤ 144 := by omega
  clear hto hL0 hL1 hT hG hM hMI hR hE hTb
  by_cases hlt : k < n
  ·obtain ⟨x, hx⟩ := get_some (xs := ars) (k := k) (by rw [HN.out]; exact hlt)
   obtain ⟨b, off, q, mm, rfl, c0, c1, hb0, hsz, hr⟩ := HS.out.elem hx
   have a0 := (H00.out.trans HE.out).keep c0; have a1 := (H00.out.trans HE.out).keep c1
   have hb : b < wr.heap.size := Nat.lt_of_lt_of_le hb0 (H00.out.trans HE.out).size_le
   obtain ⟨nm, ds⟩ := x
   dsimp only at *
   have HX := hid hx; have HRI := hid hr
   clear hx hr c0 c1
   obtain ⟨ob, hob⟩ : ∃ ob, arrOkB (nm, ds) = ob := ⟨_, rfl⟩
   have HOB := hid hob; clear hob
   go_wp2_with (fail)
   refine (arrayValid2_any nm ds _ _ hsz (HRI.out.ext ((H00.out.trans HE.out).alloc _))).mono ?_
   rw [HOB.out]
   rintro e w1 ⟨rfl, h1⟩
   have HE1 := hid h1
   have EW1 := hid ((HE.out.alloc _).trans h1)
   have R1 := hid (h1.blk (blk_old HR.out))
   have G1 := hid (h1.blk (blk_old HG.out))
   have A1 := hid (h1.blk (blk_at (w := wr) rfl))
   have M1 := hid ((HM.out.alloc (.cells #[.string nm, .slice q ds.length mm] 106)).kept (h1.grownBy none) (by simp))
   have hz1 : wr.heap.size + 1 ≤ w1.heap.size := by have := h1.size_le; simpa using this
   clear h1 a0 a1
   obtain ⟨y0, y1, -, -⟩ := blk2 A1.out
   cases ob with
   | false =>
    have HRF : Hid (arrsB ars = false) := hid (arrsB_no HX.out HOB.out)
    have RZ := R1.out
    obtain ⟨z0, z1, zf0, zf1⟩ := blk2 RZ
    have hzl := lt_of_block RZ
    go_wp2
    obtain ⟨WF, hWF⟩ : ∃ WF, ((w1.setCell ⟨w.heap.size, 0, none⟩ (.map none)).setCell ⟨w.heap.size, 1, none⟩ (.int .i64 0)) = WF := ⟨_, rfl⟩
    have EF : Ext w WF := by rw [← hWF]; exact ((EW1.out).setCell (Nat.le_refl _) _).setCell (Nat.le_refl _) _
    obtain ⟨f0, f1, -, -⟩ := blk2 (W := WF) (g := w.heap.size) (by rw [← hWF]; exact blk2_set RZ)
    rw [hWF]
    exact bodyPost_ret (v := .tuple #[.agg #[.map none, .int .i64 0], .bool false]) (by simp [results, Tryz.results42, go_sem, f0, f1]) rfl ⟨⟨_, _, by rw [HRF.out], fun h => (by rw [HRF.out] at h; cases h)⟩, EF⟩
   | true =>
    obtain ⟨b1, rfl, hb1, hb2⟩ := arr_byte (arrOk_parts HOB.out).1
    have hbl := dimsN_bd (arrOk_parts HOB.out).2.1 (arrOk_parts HOB.out).2.2
    obtain ⟨dn, hdn⟩ : ∃ dn, dimsN ds = dn := ⟨_, rfl⟩
    rw [hdn] at hbl
    have HDN := hid hdn
    have hlen1 : (ByteArray.mk #[b1]).size ≤ maxLen := by unfold maxLen; exact hsz
    have x0 : w1.cell? ⟨w.heap.size + 1 + 1, 0, none⟩ = some (.map (some (w.heap.size + 1))) := (blk2 G1.out).1
    have x1 : w1.cell? ⟨w.heap.size + 1 + 1, 1, none⟩ = some (.int .i64 T) := (blk2 G1.out).2.1
    clear hdn
    by_cases h0 : k = 0
    ·have HL : L = ⟨#[]⟩ := HL0.out h0
     have HT2 : Hid (arrsTo ars (k + 1)) := hid (arrsTo_next HT.out HX.out HOB.out (fun j y h => by omega))
     subst HL
     clear HL0 HL1 h0
     go_wp2_with (first | (at_mapUpdate; refine wpList_mapUpdate_own _ rfl _ _ _ 51 rfl 9 163 keyStr Tryz.underlying51 rawE (w.heap.size + 1) k D rfl M1.out (by unfold maxLen; omega) _ _ _ rfl rfl (WideMaps.keyOf_string_mk Tryz.underlying9 hlen1) _ [] rfl ?_; intro w2 hown2 hgrow2) | fail)
     have hM2 : w2.ownsMap Tryz.prog 9 rawE (w.heap.size + 1) (k + 1) (D.put (kl ⟨#[b1]⟩) (.held (.agg #[.int .i64 T, .slice q ds.length mm]))) := hown2
     have HM2 := hid hM2
     have HMS := hid (show MapIs w00 (D.put (kl ⟨#[b1]⟩) (.held (.agg #[.int .i64 T, .slice q ds.length mm]))) (ars.take (k + 1)) by
      rw [take_next HX.out, ← HTT.out]
      exact MapIs.step (x := (⟨#[b1]⟩, ds)) HMI.out HM.out.isMap (arrsTo_new HT2.out HX.out) HRI.out)
     have HTS := hid (show totN (ars.take (k + 1)) = T + dn by
      rw [take_next HX.out, totN_snoc, HTT.out, HDN.out])
     have EW2 := hid (EW1.out.grown hgrow2 (fun r hr => by cases hr; omega))
     have R2 := hid (grownBy_blk hgrow2 R1.out (fun e => by simp at e))
     have G2 := hid (grownBy_blk hgrow2 G1.out (fun e => by simp at e))
     have A2 := hid (grownBy_blk hgrow2 A1.out (fun e => by simp at e; omega))
     have hz2 : wr.heap.size + 1 ≤ w2.heap.size := Nat.le_trans hz1 hgrow2.size
     clear hown2 hM2 hgrow2 x0 x1 y0 y1
     obtain ⟨y0, y1, -, -⟩ := blk2 A2.out
     have x1 : w2.cell? ⟨w.heap.size + 1 + 1, 1, none⟩ = some (.int .i64 T) := (blk2 G2.out).2.1
     refine wp_region_held_drew (S := (fun W => W.cell? ⟨wr.heap.size, 0, none⟩ = some (.string ⟨#[b1]⟩) ∧ W.cell? ⟨wr.heap.size, 1, none⟩ = some (.slice q ds.length mm))) (by kernel_rfl) ⟨y0, y1⟩ (fun hHeld => ?_)
     refine tkD9 (some 37) 0 ?vsz1 rfl (by kernel_rfl) (by kernel_rfl) (fun _ _ _ h => h) (Or.inl ⟨by rfl, ?hysz1⟩) (by assumption) ?rsz1
     case hysz1 => intro w hSw; (try dsimp only at hSw); go_simp; first | done | with_reducible rfl
     case' rsz1 => try simp only [Act.put, sA9, sZ9, sS9]
     refine tkD9 (some 39) 2 ?vsz2 rfl (by kernel_rfl) (by kernel_rfl) (fun _ _ _ h => h) (Or.inl ⟨by rfl, ?hysz2⟩) (by assumption) ?rsz2
     case hysz2 => intro w hSw; (try dsimp only at hSw); go_simp; first | done | with_reducible rfl
     case' rsz2 => try simp only [Act.put, sA9, sZ9, sS9]
     refine wpAnyH_ready (rs := [1, 3]) (by kernel_rfl) (by simp) ?_
     refine AllReadyH.cons rfl (fun K9 hK => ?_) (AllReadyH.cons rfl (fun K9 hK => ?_) AllReadyH.nil)
     ·skip
      go_simp
      refine hK.out _ _ ⟨y0, y1⟩ (fun hHsz3 => ?_)
      clear hK K9
      try simp only [Act.put, sA9, sZ9, sS9]
      refine wpAnyH_ready (rs := [3]) (by kernel_rfl) (by simp) ?_
      refine AllReadyH.cons rfl (fun K9 hK => ?_) AllReadyH.nil
      (go_simp; refine (arraySize_any _ ds _ _ (HRI.out.ext (H00.out.trans EW2.out.drew)) HOB.out).mono ?_; rw [HDN.out]; rintro e w5 ⟨rfl, hE5⟩; have hwr : IntKind.i64.wrap (T + dn) = T + dn := IntWalk.i64_in _ (by omega); have X5 : Ext w2 w5 := (Ext.refl w2).drew.trans hE5; have x1' := X5.keep x1; have fz' : w5.frozen? ⟨w.heap.size + 1 + 1, 1, none⟩ = false := (blk2 (X5.blk G2.out)).2.2.2; have B6 := setCell_blk (g' := w.heap.size + 1 + 1) (o' := 1) (X5.blk A2.out) (by omega) (.int .i64 (T + dn)))
      refine hK.out _ _ ⟨X5.keep y0, X5.keep y1⟩ (fun hHsz4 => ?_)
      clear hK K9
      try simp only [Act.put, sA9, sZ9, sS9]
      refine wpAnyH_ready (rs := [4]) (by kernel_rfl) (by simp) ?_
      refine AllReadyH.cons rfl (fun K9 hK => ?_) AllReadyH.nil
      go_simp
      refine hK.out _ _ ⟨X5.keep y0, X5.keep y1⟩ (fun hHsz5 => ?_)
      clear hK K9
      try simp only [Act.put, sA9, sZ9, sS9]
      refine tkD9 (some 42) 5 ?vsz6 rfl (by kernel_rfl) (by kernel_rfl) (fun _ _ _ h => h) (Or.inl ⟨by rfl, ?hysz6⟩) (by assumption) ?rsz6
      case hysz6 => intro w hSw; (try dsimp only at hSw); go_simp; first | done | with_reducible rfl
      case' rsz6 => try simp only [Act.put, sA9, sZ9, sS9]
      refine wpAnyH_ready (rs := [6]) (by kernel_rfl) (by simp) ?_
      refine AllReadyH.cons rfl (fun K9 hK => ?_) AllReadyH.nil
      go_simp
      refine hK.out _ _ ⟨(blk2 B6).1, (blk2 B6).2.1⟩ (fun hHsz7 => ?_)
      clear hK K9
      try simp only [Act.put, sA9, sZ9, sS9]
      refine wpAnyH_done (by kernel_rfl) ?_ _
      obtain ⟨W6, hW6⟩ : ∃ W6, w5.setCell ⟨w.heap.size + 1 + 1, 1, none⟩ (.int .i64 (T + dn)) = W6 := ⟨_, rfl⟩
      have G6 := hid (show W6.heap[w.heap.size + 2]? = some (.cells #[.map (some (w.heap.size + 1)), .int .i64 (T + dn)] 53 (0, 0)) by rw [← hW6]; exact blk2_set1' (c := .int .i64 (T + dn)) (X5.blk G2.out))
      have M6 := hid (show W6.ownsMap Tryz.prog 9 rawE (w.heap.size + 1) (k + 1) (D.put (kl ⟨#[b1]⟩) (.held (.agg #[.int .i64 T, .slice q ds.length mm]))) by rw [← hW6]; exact (HM2.out.kept (X5.grownBy none) (by simp)).setCell (by simp) _)
      have R6 := hid (show W6.heap[w.heap.size]? = some (.cells #[.map none, .int .i64 0] 53 (0, 0)) by rw [← hW6]; exact setCell_blk (X5.blk R2.out) (by omega) _)
      have E6 := hid (show Ext w W6 by rw [← hW6]; exact (EW2.out.trans X5).setCell (by simp; omega) _)
      have hz6 : w.heap.size + 3 ≤ W6.heap.size := by have h := X5.size_le; rw [← hW6]; simp; omega
      rw [hW6]
      clear hW6 X5 x1 x1' B6 y0 y1 fz' hwr
      go_wp2
      go_roundw
      case rel => exact ⟨k + 1, _, T + dn, _, by omega, by go_num, rfl, HT2.out, fun h => (by omega), lastIs HX.out, HTS.out, G6.out, M6.out, HMS.out, R6.out, E6.out, hz6⟩
      case measure => simp [intOf]; omega
     ·skip
      (go_simp; refine (arraySize_any _ ds _ _ (HRI.out.ext (H00.out.trans EW2.out.drew)) HOB.out).mono ?_; rw [HDN.out]; rintro e w5 ⟨rfl, hE5⟩; have hwr : IntKind.i64.wrap (T + dn) = T + dn := IntWalk.i64_in _ (by omega); have X5 : Ext w2 w5 := (Ext.refl w2).drew.trans hE5; have x1' := X5.keep x1; have fz' : w5.frozen? ⟨w.heap.size + 1 + 1, 1, none⟩ = false := (blk2 (X5.blk G2.out)).2.2.2; have B6 := setCell_blk (g' := w.heap.size + 1 + 1) (o' := 1) (X5.blk A2.out) (by omega) (.int .i64 (T + dn)))
      refine hK.out _ _ ⟨X5.keep y0, X5.keep y1⟩ (fun hHsz8 => ?_)
      clear hK K9
      try simp only [Act.put, sA9, sZ9, sS9]
      refine wpAnyH_ready (rs := [1]) (by kernel_rfl) (by simp) ?_
      refine AllReadyH.cons rfl (fun K9 hK => ?_) AllReadyH.nil
      go_simp
      refine hK.out _ _ ⟨X5.keep y0, X5.keep y1⟩ (fun hHsz9 => ?_)
      clear hK K9
      try simp only [Act.put, sA9, sZ9, sS9]
      refine wpAnyH_ready (rs := [4]) (by kernel_rfl) (by simp) ?_
      refine AllReadyH.cons rfl (fun K9 hK => ?_) AllReadyH.nil
      go_simp
      refine hK.out _ _ ⟨X5.keep y0, X5.keep y1⟩ (fun hHsz10 => ?_)
      clear hK K9
      try simp only [Act.put, sA9, sZ9, sS9]
      refine tkD9 (some 42) 5 ?vsz11 rfl (by kernel_rfl) (by kernel_rfl) (fun _ _ _ h => h) (Or.inl ⟨by rfl, ?hysz11⟩) (by assumption) ?rsz11
      case hysz11 => intro w hSw; (try dsimp only at hSw); go_simp; first | done | with_reducible rfl
      case' rsz11 => try simp only [Act.put, sA9, sZ9, sS9]
      refine wpAnyH_ready (rs := [6]) (by kernel_rfl) (by simp) ?_
      refine AllReadyH.cons rfl (fun K9 hK => ?_) AllReadyH.nil
      go_simp
      refine hK.out _ _ ⟨(blk2 B6).1, (blk2 B6).2.1⟩ (fun hHsz12 => ?_)
      clear hK K9
      try simp only [Act.put, sA9, sZ9, sS9]
      refine wpAnyH_done (by kernel_rfl) ?_ _
      obtain ⟨W6, hW6⟩ : ∃ W6, w5.setCell ⟨w.heap.size + 1 + 1, 1, none⟩ (.int .i64 (T + dn)) = W6 := ⟨_, rfl⟩
      have G6 := hid (show W6.heap[w.heap.size + 2]? = some (.cells #[.map (some (w.heap.size + 1)), .int .i64 (T + dn)] 53 (0, 0)) by rw [← hW6]; exact blk2_set1' (c := .int .i64 (T + dn)) (X5.blk G2.out))
      have M6 := hid (show W6.ownsMap Tryz.prog 9 rawE (w.heap.size + 1) (k + 1) (D.put (kl ⟨#[b1]⟩) (.held (.agg #[.int .i64 T, .slice q ds.length mm]))) by rw [← hW6]; exact (HM2.out.kept (X5.grownBy none) (by simp)).setCell (by simp) _)
      have R6 := hid (show W6.heap[w.heap.size]? = some (.cells #[.map none, .int .i64 0] 53 (0, 0)) by rw [← hW6]; exact setCell_blk (X5.blk R2.out) (by omega) _)
      have E6 := hid (show Ext w W6 by rw [← hW6]; exact (EW2.out.trans X5).setCell (by simp; omega) _)
      have hz6 : w.heap.size + 3 ≤ W6.heap.size := by have h := X5.size_le; rw [← hW6]; simp; omega
      rw [hW6]
      clear hW6 X5 x1 x1' B6 y0 y1 fz' hwr
      go_wp2
      go_roundw
      case rel => exact ⟨k + 1, _, T + dn, _, by omega, by go_num, rfl, HT2.out, fun h => (by omega), lastIs HX.out, HTS.out, G6.out, M6.out, HMS.out, R6.out, E6.out, hz6⟩
      case measure => simp [intOf]; omega
    ·obtain ⟨j, hj⟩ : ∃ j, k = j + 1 := ⟨k - 1, by omega⟩
     obtain ⟨y, hy⟩ := get_some (xs := ars) (k := j) (by rw [HN.out]; omega)
     have hyo : arrOkB y = true := HT.out.1 y (List.mem_of_getElem? (i := j) (by rw [List.getElem?_take, if_pos (by omega)]; exact hy))
     obtain ⟨b2, hb2n, hc1, hc2⟩ := arr_byte (arrOk_parts hyo).1
     have HL : L = ⟨#[b2]⟩ := (HL1.out j y hj hy).trans hb2n
     subst HL
     have hyn : nmN y.1 = b2.toNat := by rw [hb2n]; rfl
     clear HL0 HL1
     by_cases hlt2 : b2.toNat < b1.toNat
     ·have HT2 : Hid (arrsTo ars (k + 1)) := hid (arrsTo_next HT.out HX.out HOB.out (fun j' y' h h' => by
       obtain rfl : j' = j := by omega
       rw [hy] at h'; cases h'
       rw [hyn]; exact hlt2))
      have hq1 : Op.bytesLess [b1] [b2] = false := by simp [Op.bytesLess, UInt8.lt_iff_toNat_lt]; omega
      have hq2 : (b1 == b2) = false := by simp; intro h; subst h; omega
      clear hyo hb2n hyn hc1 hc2 hj h0
      go_wp2_with (first | (at_mapUpdate; refine wpList_mapUpdate_own _ rfl _ _ _ 51 rfl 9 163 keyStr Tryz.underlying51 rawE (w.heap.size + 1) k D rfl M1.out (by unfold maxLen; omega) _ _ _ rfl rfl (WideMaps.keyOf_string_mk Tryz.underlying9 hlen1) _ [] rfl ?_; intro w2 hown2 hgrow2) | fail)
      have hM2 : w2.ownsMap Tryz.prog 9 rawE (w.heap.size + 1) (k + 1) (D.put (kl ⟨#[b1]⟩) (.held (.agg #[.int .i64 T, .slice q ds.length mm]))) := hown2
      have HM2 := hid hM2
      have HMS := hid (show MapIs w00 (D.put (kl ⟨#[b1]⟩) (.held (.agg #[.int .i64 T, .slice q ds.length mm]))) (ars.take (k + 1)) by
       rw [take_next HX.out, ← HTT.out]
       exact MapIs.step (x := (⟨#[b1]⟩, ds)) HMI.out HM.out.isMap (arrsTo_new HT2.out HX.out) HRI.out)
      have HTS := hid (show totN (ars.take (k + 1)) = T + dn by
       rw [take_next HX.out, totN_snoc, HTT.out, HDN.out])
      have EW2 := hid (EW1.out.grown hgrow2 (fun r hr => by cases hr; omega))
      have R2 := hid (grownBy_blk hgrow2 R1.out (fun e => by simp at e))
      have G2 := hid (grownBy_blk hgrow2 G1.out (fun e => by simp at e))
      have A2 := hid (grownBy_blk hgrow2 A1.out (fun e => by simp at e; omega))
      have hz2 : wr.heap.size + 1 ≤ w2.heap.size := Nat.le_trans hz1 hgrow2.size
      clear hown2 hM2 hgrow2 x0 x1 y0 y1
      obtain ⟨y0, y1, -, -⟩ := blk2 A2.out
      have x1 : w2.cell? ⟨w.heap.size + 1 + 1, 1, none⟩ = some (.int .i64 T) := (blk2 G2.out).2.1
      refine wp_region_held_drew (S := (fun W => W.cell? ⟨wr.heap.size, 0, none⟩ = some (.string ⟨#[b1]⟩) ∧ W.cell? ⟨wr.heap.size, 1, none⟩ = some (.slice q ds.length mm))) (by kernel_rfl) ⟨y0, y1⟩ (fun hHeld => ?_)
      refine tkD9 (some 37) 0 ?vsy1 rfl (by kernel_rfl) (by kernel_rfl) (fun _ _ _ h => h) (Or.inl ⟨by rfl, ?hysy1⟩) (by assumption) ?rsy1
      case hysy1 => intro w hSw; (try dsimp only at hSw); go_simp; first | done | with_reducible rfl
      case' rsy1 => try simp only [Act.put, sA9, sZ9, sS9]
      refine tkD9 (some 39) 2 ?vsy2 rfl (by kernel_rfl) (by kernel_rfl) (fun _ _ _ h => h) (Or.inl ⟨by rfl, ?hysy2⟩) (by assumption) ?rsy2
      case hysy2 => intro w hSw; (try dsimp only at hSw); go_simp; first | done | with_reducible rfl
      case' rsy2 => try simp only [Act.put, sA9, sZ9, sS9]
      refine wpAnyH_ready (rs := [1, 3]) (by kernel_rfl) (by simp) ?_
      refine AllReadyH.cons rfl (fun K9 hK => ?_) (AllReadyH.cons rfl (fun K9 hK => ?_) AllReadyH.nil)
      ·skip
       go_simp
       refine hK.out _ _ ⟨y0, y1⟩ (fun hHsy3 => ?_)
       clear hK K9
       try simp only [Act.put, sA9, sZ9, sS9]
       refine wpAnyH_ready (rs := [3]) (by kernel_rfl) (by simp) ?_
       refine AllReadyH.cons rfl (fun K9 hK => ?_) AllReadyH.nil
       (go_simp; refine (arraySize_any _ ds _ _ (HRI.out.ext (H00.out.trans EW2.out.drew)) HOB.out).mono ?_; rw [HDN.out]; rintro e w5 ⟨rfl, hE5⟩; have hwr : IntKind.i64.wrap (T + dn) = T + dn := IntWalk.i64_in _ (by omega); have X5 : Ext w2 w5 := (Ext.refl w2).drew.trans hE5; have x1' := X5.keep x1; have fz' : w5.frozen? ⟨w.heap.size + 1 + 1, 1, none⟩ = false := (blk2 (X5.blk G2.out)).2.2.2; have B6 := setCell_blk (g' := w.heap.size + 1 + 1) (o' := 1) (X5.blk A2.out) (by omega) (.int .i64 (T + dn)))
       refine hK.out _ _ ⟨X5.keep y0, X5.keep y1⟩ (fun hHsy4 => ?_)
       clear hK K9
       try simp only [Act.put, sA9, sZ9, sS9]
       refine wpAnyH_ready (rs := [4]) (by kernel_rfl) (by simp) ?_
       refine AllReadyH.cons rfl (fun K9 hK => ?_) AllReadyH.nil
       go_simp
       refine hK.out _ _ ⟨X5.keep y0, X5.keep y1⟩ (fun hHsy5 => ?_)
       clear hK K9
       try simp only [Act.put, sA9, sZ9, sS9]
       refine tkD9 (some 42) 5 ?vsy6 rfl (by kernel_rfl) (by kernel_rfl) (fun _ _ _ h => h) (Or.inl ⟨by rfl, ?hysy6⟩) (by assumption) ?rsy6
       case hysy6 => intro w hSw; (try dsimp only at hSw); go_simp; first | done | with_reducible rfl
       case' rsy6 => try simp only [Act.put, sA9, sZ9, sS9]
       refine wpAnyH_ready (rs := [6]) (by kernel_rfl) (by simp) ?_
       refine AllReadyH.cons rfl (fun K9 hK => ?_) AllReadyH.nil
       go_simp
       refine hK.out _ _ ⟨(blk2 B6).1, (blk2 B6).2.1⟩ (fun hHsy7 => ?_)
       clear hK K9
       try simp only [Act.put, sA9, sZ9, sS9]
       refine wpAnyH_done (by kernel_rfl) ?_ _
       obtain ⟨W6, hW6⟩ : ∃ W6, w5.setCell ⟨w.heap.size + 1 + 1, 1, none⟩ (.int .i64 (T + dn)) = W6 := ⟨_, rfl⟩
       have G6 := hid (show W6.heap[w.heap.size + 2]? = some (.cells #[.map (some (w.heap.size + 1)), .int .i64 (T + dn)] 53 (0, 0)) by rw [← hW6]; exact blk2_set1' (c := .int .i64 (T + dn)) (X5.blk G2.out))
       have M6 := hid (show W6.ownsMap Tryz.prog 9 rawE (w.heap.size + 1) (k + 1) (D.put (kl ⟨#[b1]⟩) (.held (.agg #[.int .i64 T, .slice q ds.length mm]))) by rw [← hW6]; exact (HM2.out.kept (X5.grownBy none) (by simp)).setCell (by simp) _)
       have R6 := hid (show W6.heap[w.heap.size]? = some (.cells #[.map none, .int .i64 0] 53 (0, 0)) by rw [← hW6]; exact setCell_blk (X5.blk R2.out) (by omega) _)
       have E6 := hid (show Ext w W6 by rw [← hW6]; exact (EW2.out.trans X5).setCell (by simp; omega) _)
       have hz6 : w.heap.size + 3 ≤ W6.heap.size := by have h := X5.size_le; rw [← hW6]; simp; omega
       rw [hW6]
       clear hW6 X5 x1 x1' B6 y0 y1 fz' hwr
       go_wp2
       go_roundw
       case rel => exact ⟨k + 1, _, T + dn, _, by omega, by go_num, rfl, HT2.out, fun h => (by omega), lastIs HX.out, HTS.out, G6.out, M6.out, HMS.out, R6.out, E6.out, hz6⟩
       case measure => simp [intOf]; omega
      ·skip
       (go_simp; refine (arraySize_any _ ds _ _ (HRI.out.ext (H00.out.trans EW2.out.drew)) HOB.out).mono ?_; rw [HDN.out]; rintro e w5 ⟨rfl, hE5⟩; have hwr : IntKind.i64.wrap (T + dn) = T + dn := IntWalk.i64_in _ (by omega); have X5 : Ext w2 w5 := (Ext.refl w2).drew.trans hE5; have x1' := X5.keep x1; have fz' : w5.frozen? ⟨w.heap.size + 1 + 1, 1, none⟩ = false := (blk2 (X5.blk G2.out)).2.2.2; have B6 := setCell_blk (g' := w.heap.size + 1 + 1) (o' := 1) (X5.blk A2.out) (by omega) (.int .i64 (T + dn)))
       refine hK.out _ _ ⟨X5.keep y0, X5.keep y1⟩ (fun hHsy8 => ?_)
       clear hK K9
       try simp only [Act.put, sA9, sZ9, sS9]
       refine wpAnyH_ready (rs := [1]) (by kernel_rfl) (by simp) ?_
       refine AllReadyH.cons rfl (fun K9 hK => ?_) AllReadyH.nil
       go_simp
       refine hK.out _ _ ⟨X5.keep y0, X5.keep y1⟩ (fun hHsy9 => ?_)
       clear hK K9
       try simp only [Act.put, sA9, sZ9, sS9]
       refine wpAnyH_ready (rs := [4]) (by kernel_rfl) (by simp) ?_
       refine AllReadyH.cons rfl (fun K9 hK => ?_) AllReadyH.nil
       go_simp
       refine hK.out _ _ ⟨X5.keep y0, X5.keep y1⟩ (fun hHsy10 => ?_)
       clear hK K9
       try simp only [Act.put, sA9, sZ9, sS9]
       refine tkD9 (some 42) 5 ?vsy11 rfl (by kernel_rfl) (by kernel_rfl) (fun _ _ _ h => h) (Or.inl ⟨by rfl, ?hysy11⟩) (by assumption) ?rsy11
       case hysy11 => intro w hSw; (try dsimp only at hSw); go_simp; first | done | with_reducible rfl
       case' rsy11 => try simp only [Act.put, sA9, sZ9, sS9]
       refine wpAnyH_ready (rs := [6]) (by kernel_rfl) (by simp) ?_
       refine AllReadyH.cons rfl (fun K9 hK => ?_) AllReadyH.nil
       go_simp
       refine hK.out _ _ ⟨(blk2 B6).1, (blk2 B6).2.1⟩ (fun hHsy12 => ?_)
       clear hK K9
       try simp only [Act.put, sA9, sZ9, sS9]
       refine wpAnyH_done (by kernel_rfl) ?_ _
       obtain ⟨W6, hW6⟩ : ∃ W6, w5.setCell ⟨w.heap.size + 1 + 1, 1, none⟩ (.int .i64 (T + dn)) = W6 := ⟨_, rfl⟩
       have G6 := hid (show W6.heap[w.heap.size + 2]? = some (.cells #[.map (some (w.heap.size + 1)), .int .i64 (T + dn)] 53 (0, 0)) by rw [← hW6]; exact blk2_set1' (c := .int .i64 (T + dn)) (X5.blk G2.out))
       have M6 := hid (show W6.ownsMap Tryz.prog 9 rawE (w.heap.size + 1) (k + 1) (D.put (kl ⟨#[b1]⟩) (.held (.agg #[.int .i64 T, .slice q ds.length mm]))) by rw [← hW6]; exact (HM2.out.kept (X5.grownBy none) (by simp)).setCell (by simp) _)
       have R6 := hid (show W6.heap[w.heap.size]? = some (.cells #[.map none, .int .i64 0] 53 (0, 0)) by rw [← hW6]; exact setCell_blk (X5.blk R2.out) (by omega) _)
       have E6 := hid (show Ext w W6 by rw [← hW6]; exact (EW2.out.trans X5).setCell (by simp; omega) _)
       have hz6 : w.heap.size + 3 ≤ W6.heap.size := by have h := X5.size_le; rw [← hW6]; simp; omega
       rw [hW6]
       clear hW6 X5 x1 x1' B6 y0 y1 fz' hwr
       go_wp2
       go_roundw
       case rel => exact ⟨k + 1, _, T + dn, _, by omega, by go_num, rfl, HT2.out, fun h => (by omega), lastIs HX.out, HTS.out, G6.out, M6.out, HMS.out, R6.out, E6.out, hz6⟩
       case measure => simp [intOf]; omega
     ·have HRF : Hid (arrsB ars = false) := hid (by
       refine arrsB_no2 (j := j) hy (by rw [← hj]; exact HX.out) ?_
       rw [hyn]; exact hlt2)
      clear hyo hb2n hyn hc1 hc2 hj
      by_cases hlt3 : b1.toNat < b2.toNat
      ·have hq1 : Op.bytesLess [b1] [b2] = true := by simp [Op.bytesLess, UInt8.lt_iff_toNat_lt]; omega
       have RZ := R1.out
       obtain ⟨z0, z1, zf0, zf1⟩ := blk2 RZ
       have hzl := lt_of_block RZ
       go_wp2
       obtain ⟨WF, hWF⟩ : ∃ WF, ((w1.setCell ⟨w.heap.size, 0, none⟩ (.map none)).setCell ⟨w.heap.size, 1, none⟩ (.int .i64 0)) = WF := ⟨_, rfl⟩
       have EF : Ext w WF := by rw [← hWF]; exact ((EW1.out).setCell (Nat.le_refl _) _).setCell (Nat.le_refl _) _
       obtain ⟨f0, f1, -, -⟩ := blk2 (W := WF) (g := w.heap.size) (by rw [← hWF]; exact blk2_set RZ)
       rw [hWF]
       exact bodyPost_ret (v := .tuple #[.agg #[.map none, .int .i64 0], .bool false]) (by simp [results, Tryz.results42, go_sem, f0, f1]) rfl ⟨⟨_, _, by rw [HRF.out], fun h => (by rw [HRF.out] at h; cases h)⟩, EF⟩
      ·have hbe : b1 = b2 := by apply UInt8.toNat.inj; omega
       subst hbe
       have RZ := R1.out
       obtain ⟨z0, z1, zf0, zf1⟩ := blk2 RZ
       have hzl := lt_of_block RZ
       go_wp2
       obtain ⟨WF, hWF⟩ : ∃ WF, ((w1.setCell ⟨w.heap.size, 0, none⟩ (.map none)).setCell ⟨w.heap.size, 1, none⟩ (.int .i64 0)) = WF := ⟨_, rfl⟩
       have EF : Ext w WF := by rw [← hWF]; exact ((EW1.out).setCell (Nat.le_refl _) _).setCell (Nat.le_refl _) _
       obtain ⟨f0, f1, -, -⟩ := blk2 (W := WF) (g := w.heap.size) (by rw [← hWF]; exact blk2_set RZ)
       rw [hWF]
       exact bodyPost_ret (v := .tuple #[.agg #[.map none, .int .i64 0], .bool false]) (by simp [results, Tryz.results42, go_sem, f0, f1]) rfl ⟨⟨_, _, by rw [HRF.out], fun h => (by rw [HRF.out] at h; cases h)⟩, EF⟩
  ·obtain rfl : k = n := by omega
   have hal : ars.take k = ars := List.take_of_length_le (by rw [HN.out]; omega)
   have HRT : Hid (arrsB ars = true) := hid (arrsTo_all (by rw [HN.out]; exact HT.out))
   obtain ⟨z0, z1, zf0, zf1⟩ := blk2 HR.out
   obtain ⟨x0, x1, -, -⟩ := blk2 HG.out
   have hzl := lt_of_block HR.out
   have HA2 := hid hal
   clear hal
   go_wp2
   obtain ⟨WF, hWF⟩ : ∃ WF, ((wr.setCell ⟨w.heap.size, 0, none⟩ (.map (some (w.heap.size + 1)))).setCell ⟨w.heap.size, 1, none⟩ (.int .i64 T)) = WF := ⟨_, rfl⟩
   have EF : Ext w WF := by rw [← hWF]; exact (HE.out.setCell (Nat.le_refl _) _).setCell (Nat.le_refl _) _
   have MF : WF.ownsMap Tryz.prog 9 rawE (w.heap.size + 1) k D := by rw [← hWF]; exact (HM.out.setCell (by simp) _).setCell (by simp) _
   obtain ⟨f0, f1, -, -⟩ := blk2 (W := WF) (g := w.heap.size) (by rw [← hWF]; exact blk2_set HR.out)
   rw [hWF]
   exact bodyPost_ret (v := .tuple #[.agg #[.map (some (w.heap.size + 1)), .int .i64 T], .bool true]) (by simp [results, Tryz.results42, go_sem, f0, f1]) rfl ⟨⟨_, _, by rw [HRT.out], fun _ => ⟨by rw [← HTT.out, HA2.out], _, D, rfl, by omega, MF.mono hk4, by have h := HMI.out; rw [HA2.out] at h; exact h⟩⟩, EF⟩
end Go.Proofs.YtggpjapmhakklaaGreat

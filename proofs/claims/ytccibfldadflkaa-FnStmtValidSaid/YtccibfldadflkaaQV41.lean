/- The texts G6 Hw, joined. No statement is proved here. -/
import Derived.Test.YtccibfldadflkaaQV37
import Derived.Test.YtccibfldadflkaaQV09
import Derived.Test.YtccibfldadflkaaQV35
import Derived.Test.YtccibfldadflkaaQV44
/- The model's copies of accesses; its list of reads. (Written by g6.py.) No statement is proved here. -/
namespace Go.Proofs.Ytccibfldadflkaa
open Go.RowKit

set_option maxRecDepth 100000 in
set_option maxHeartbeats 2000000 in
theorem l3CopyAffine4_any (r : Value) (a b c d k : Int) (w : World) (hr : IntsAt w r [a, b, c, d]) :
    Calls Try.prog 115 #[.agg #[r, .int .i64 k]] w fun e w' => (∃ p cc, e = .returned (.agg #[.slice p 4 cc, .int .i64 k]) ∧ IntsOwn w.heap.size w' (.slice p 4 cc) [a, b, c, d]) ∧ Ext w w' := by
  obtain ⟨i0, hi, hz0, hz1, hz2⟩ := info_parts infoInt
  obtain ⟨bl, off, cap, rfl, h0, h1, h2, h3, hbl⟩ := hr.four
  clear hr
  go_enter Try.func115, Try.ntmps115
  go_wp2_with (fail)
  obtain ⟨W0, hW0⟩ : ∃ W0, (w.alloc (.cells #[.slice (some ⟨bl, off, none⟩) 4 cap, .int .i64 k] 36)).alloc (.cells #[.slice none 0 0, .int .i64 0] 36) = W0 := ⟨_, rfl⟩
  have E0 : Hid (Ext w W0) := Lib.hid (by rw [← hW0]; exact ((Ext.refl w).alloc _).alloc _)
  have X0 : W0.heap[w.heap.size]? = some (.cells #[.slice (some ⟨bl, off, none⟩) 4 cap, .int .i64 k] 36 (0, 0)) := by rw [← hW0]; exact blk_old (blk_at rfl)
  have R0 := Lib.hid (show W0.heap[w.heap.size + 1]? = some (.cells #[.slice none 0 0, .int .i64 0] 36 (0, 0)) by rw [← hW0]; exact blk_at (by simp))
  have HS0 : Hid (W0.heap.size = w.heap.size + 2) := Lib.hid (by rw [← hW0]; simp)
  rw [hW0]
  clear hW0
  replace h0 := E0.out.keep h0; replace h1 := E0.out.keep h1; replace h2 := E0.out.keep h2; replace h3 := E0.out.keep h3
  obtain ⟨x0, x1, -, -⟩ := blk2 X0
  have z0 := ((Ext.refl W0).alloc (.cells #[] 3)).drew.keep x0
  have z1 := ((Ext.refl W0).alloc (.cells #[] 3)).drew.keep x1
  have d0 := (Ext.refl W0).drew.keep x0
  have d1 := (Ext.refl W0).drew.keep x1
  have H0 := Lib.hid h0; have H1 := Lib.hid h1; have H2 := Lib.hid h2; have H3 := Lib.hid h3
  have hl0 := lt_of_block X0
  clear h0 h1 h2 h3 X0
  have OA : Hid ((W0.alloc (.cells #[] 3)).drew.ownsRow W0.heap.size 3 1 (.slice (some ⟨W0.heap.size, 0, none⟩) 0 0) 0 []) := Lib.hid (World.ownsRow_made W0 #[] 0 (Nat.le_refl _) (Nat.zero_le _) rfl)
  have HK : ∀ W, Ext W0 W → ∀ j u, [Value.int .i64 a, .int .i64 b, .int .i64 c, .int .i64 d][j]? = some u → W.cell? ((⟨bl, off, none⟩ : Addr).add j) = some u := by
    intro W hE j u hu
    match j, hu with
    | 0, hu => simp at hu; subst hu; exact hE.keep H0.out
    | 1, hu => simp at hu; subst hu; exact hE.keep H1.out
    | 2, hu => simp at hu; subst hu; exact hE.keep H2.out
    | 3, hu => simp at hu; subst hu; exact hE.keep H3.out
  have hlr := lt_of_block R0.out
  go_region_held3 (fun W => W.cell? ⟨w.heap.size, 0, none⟩ = some (.slice (some ⟨bl, off, none⟩) 4 cap) ∧ W.cell? ⟨w.heap.size, 1, none⟩ = some (.int .i64 k))
    (first | exact ⟨x0, x1⟩ | exact ⟨d0, d1⟩ | exact ⟨z0, z1⟩ | with_reducible exact ⟨y0, y1⟩ | exact ⟨(cell_setAt _ (by omega)).trans ((cell_setAt _ (by omega)).trans y0), (cell_setAt _ (by omega)).trans ((cell_setAt _ (by omega)).trans y1)⟩)
    (first
      | (refine step_append_lies _ rfl (.tmp 10) (.tmp 12) 22 rfl W0.heap.size 3 i0 (.int .i64 0) 1 8 underSliceInt hi hz0 hz1 hz2 rfl (by decide) (.slice (some ⟨W0.heap.size, 0, none⟩) 0 0) 0 [] rfl OA.out ⟨bl, off, none⟩ 4 cap [.int .i64 a, .int .i64 b, .int .i64 c, .int .i64 d] rfl rfl (HK _ ((Ext.refl W0).alloc (.cells #[] 3)).drew) (by intro u hu; simp at hu; rcases hu with rfl | rfl | rfl | rfl <;> rfl) (by omega) (by unfold maxLen; omega) (by omega) (by simp <;> omega) _ rfl ?_; intro g cap' w1 hown hgrow hgeq _; have EX : Ext W0 w1 := Ext.grown (((Ext.refl W0).alloc (.cells #[] 3)).drew) hgrow (fun b hb => by have hb' : W0.heap.size = b := Option.some.inj hb; omega); have y0 := EX.keep x0; have y1 := EX.keep x1; have R1 := EX.blk R0.out; have hl1 := lt_of_block R1; obtain ⟨r0, r1, f0, f1⟩ := blk2 R1)
      | fail)
  have HI := Lib.hid (IntsOwn.mk (xs := [a, b, c, d]) hown rfl)
  have HE := Lib.hid (E0.out.trans EX)
  have RF := blk2_set (c := .slice (some ⟨g, 0, none⟩) 4 cap') (d := .int .i64 k) R1
  obtain ⟨WF, hWF⟩ : ∃ WF, ((w1.setCell ⟨w.heap.size + 1, 0, none⟩ (.slice (some ⟨g, 0, none⟩) 4 cap')).setCell ⟨w.heap.size + 1, 1, none⟩ (.int .i64 k)) = WF := ⟨_, rfl⟩
  have HIF : Hid (IntsOwn W0.heap.size WF (.slice (some ⟨g, 0, none⟩) 4 cap') [a, b, c, d]) := Lib.hid (by rw [← hWF]; exact (HI.out.setOld (by simpa using hlr) _).setOld (by simpa using hlr) _)
  have HEF : Hid (Ext w WF) := Lib.hid (by rw [← hWF]; exact (HE.out.setCell (by simp) _).setCell (by simp) _)
  rw [hWF] at RF ⊢
  obtain ⟨rr0, rr1, -, -⟩ := blk2 RF
  clear hWF RF hown hgrow hgeq EX y0 y1 R1 r0 r1 f0 f1 x0 x1 z0 z1 d0 d1 hl0 hl1 hlr
  go_wp2
  exact bodyPost_ret (v := .agg #[.slice (some ⟨g, 0, none⟩) 4 cap', .int .i64 k]) (by simp [results, Try.results115, go_sem, rr0, rr1]) rfl ⟨⟨_, _, rfl, HIF.out.weak (by rw [HS0.out]; omega)⟩, HEF.out⟩

/-- An access: array and subscripts, in two cells. -/
def AccO (B : Nat) (w : World) (u0 u1 : Value) (a : Acc) : Prop := u0 = .string a.1 ∧ a.1.size ≤ 9223372036854775807 ∧ AffsOwn B w u1 a.2
def AccsO : Nat → World → Value → List Acc → Prop := PairsOwn 51 AccO
theorem AccO.ext {B : Nat} {w w' : World} {u0 u1 : Value} {a : Acc} (h : AccO B w u0 u1 a) (hE : Ext w w') : AccO B w' u0 u1 a := ⟨h.1, h.2.1, h.2.2.ext hE⟩
theorem AccO.weak {B B' : Nat} {w : World} {u0 u1 : Value} {a : Acc} (h : AccO B w u0 u1 a) (hB : B' ≤ B) : AccO B' w u0 u1 a := ⟨h.1, h.2.1, h.2.2.weak hB⟩
theorem AccO.grow {B : Nat} {w w' : World} {u0 u1 : Value} {x : Acc} {row : Option Nat} (h : AccO B w u0 u1 x) (hg : w.grownBy w' row) (ht : Tag w row 51) : AccO B w' u0 u1 x := ⟨h.1, h.2.1, AffsOwn.tag h.2.2 hg ht (by decide) (by decide)⟩
theorem AccsO.ext {B : Nat} {w w' : World} {v : Value} {xs : List Acc} (h : AccsO B w v xs) (hb : Ext w w') : AccsO B w' v xs := PairsOwn.map' h (fun _ h => ownsRow_ext h hb) (fun h => h.ext hb)
theorem AccsO.weak {B B' : Nat} {w : World} {v : Value} {xs : List Acc} (h : AccsO B w v xs) (hB : B' ≤ B) : AccsO B' w v xs := PairsOwn.map' h (fun _ h => ownsRow_weak h hB) (fun h => h.weak hB)
set_option linter.unusedSimpArgs false in
set_option linter.unusedVariables false in
set_option maxRecDepth 100000 in
set_option maxHeartbeats 4000000 in
theorem l3CopyAccess_any (arr : ByteArray) (s : Value) (subs : List Aff) (w : World) (hs : AffsAt w s subs) (hf : FourA 1000 subs) :
    Calls Try.prog 104 #[.agg #[.string arr, s]] w fun e w' => (∃ q d, e = .returned (.agg #[.string arr, .slice q subs.length d]) ∧ AffsOwn w.heap.size w' (.slice q subs.length d) subs) ∧ Ext w w' := by
  obtain ⟨p, c, rfl, hm⟩ := hs.form
  obtain ⟨i1, ha, hy0, hy1, hy2⟩ := info_parts infoAff
  have HS := Lib.hid hs; have HF := Lib.hid hf; clear hs hf
  generalize hn : subs.length = n at *
  have HN := Lib.hid hn; clear hn
  go_enter Try.func104, Try.ntmps104
  go_wp2_with (fail)
  obtain ⟨wA, hwA⟩ : ∃ wA, w.alloc (.cells #[.string arr, .slice p n c] 51) = wA := ⟨_, rfl⟩
  have EA : Hid (Ext w wA) := Lib.hid (by rw [← hwA]; exact (Ext.refl w).alloc _)
  have BA := Lib.hid (show wA.heap[w.heap.size]? = some (.cells #[.string arr, .slice p n c] 51 (0, 0)) by rw [← hwA]; exact blk_at rfl)
  have HSA : Hid (wA.heap.size = w.heap.size + 1) := Lib.hid (by rw [← hwA]; simp)
  obtain ⟨W0, hW0⟩ : ∃ W0, (wA.alloc (.cells #[.string ⟨#[]⟩, .slice none 0 0] 51)).alloc (.cells #[.string arr, .slice none 0 0] 51) = W0 := ⟨_, rfl⟩
  have E0 : Hid (Ext wA W0) := Lib.hid (by rw [← hW0]; exact ((Ext.refl wA).alloc _).alloc _)
  have R0 := Lib.hid (show W0.heap[w.heap.size + 1]? = some (.cells #[.string ⟨#[]⟩, .slice none 0 0] 51 (0, 0)) by rw [← hW0]; exact blk_old (blk_at (by rw [HSA.out])))
  have G0 := Lib.hid (show W0.heap[w.heap.size + 2]? = some (.cells #[.string arr, .slice none 0 0] 51 (0, 0)) by rw [← hW0]; exact blk_at (by simp [HSA.out]))
  have HS0 : Hid (W0.heap.size = w.heap.size + 3) := Lib.hid (by rw [← hW0]; simp [HSA.out])
  try rw [hwA]
  try rw [hW0]
  clear hwA hW0
  go_loopw [4] (fun i wr => ∃ (k : Nat) (v : Value), k ≤ n ∧ i = .int .i64 k ∧ wr.heap[w.heap.size + 2]? = some (.cells #[.string arr, v] 51 (0, 0)) ∧ AffsOwn W0.heap.size wr v (subs.take k) ∧ Dr W0 (w.heap.size + 2) wr) (fun i _ => n - (intOf i).toNat)
  case atStart => exact ⟨0, .slice none 0 0, by omega, rfl, G0.out, by simpa using AffsOwn.nil _ _, Dr.refl _ _⟩
  case round =>
    obtain ⟨k, v, hk, rfl, hgx, hv, hD⟩ := hrel
    obtain ⟨wq, hwq⟩ : ∃ wq, wq = wr := ⟨_, rfl⟩
    subst hwq
    have hszA := HSA.out; have hsz0 := HS0.out; have hszq := hD.size
    have hEA : Ext wA wq := hD.ext0 E0.out (by omega)
    have HEA := Lib.hid hEA
    obtain ⟨ya, yb, -, -⟩ := blk2 (hEA.blk BA.out)
    have htl : (subs.take k).length = k := by rw [List.length_take, HN.out]; omega
    obtain ⟨pv, cv, rfl⟩ := PairsOwn.slice hv
    rw [htl] at hv hgx
    have HX := Lib.hid hgx; have HV := Lib.hid hv; have HD := Lib.hid hD; have HTL := Lib.hid htl
    clear hgx hv hD htl hEA
    by_cases hlt : k < n
    · obtain ⟨x, hx⟩ := get_some (xs := subs) (k := k) (by rw [HN.out]; exact hlt)
      obtain ⟨b, off, q3, m3, rfl, c0, c1, hb, hr⟩ := (HS.out.ext EA.out).elem hx
      have hf4 := HF.out.2 x (List.mem_of_getElem? hx)
      obtain ⟨xs, z⟩ := x
      dsimp only at *
      match xs, hf4 with
      | [xa, xb, xc, xd], _ =>
      have HXX := Lib.hid hx; have HR := Lib.hid hr
      have d0 := HEA.out.keep c0; have d1 := HEA.out.keep c1
      obtain ⟨xg0, xg1, fg0, fg1⟩ := blk2 HX.out
      have hkn : (k : Int) < (n : Int) := by omega
      have hMk : k ≤ 1000 := by have := HF.out.1; rw [HN.out] at this; omega
      have hlgx := lt_of_block HX.out
      have C0 := Lib.hid c0; have C1 := Lib.hid c1
      have YB := Lib.hid (blk2 BA.out).2.1
      clear hx hr c0 c1
      go_wp2_with (fail)
      refine wp_region_held_drew (S := (fun W => W.cell? ⟨w.heap.size, 1, none⟩ = some (.slice (some ⟨b, off, none⟩) n c) ∧ W.cell? ⟨b, off + k * 2, none⟩ = some (.slice q3 4 m3) ∧ W.cell? ⟨b, off + k * 2 + 1, none⟩ = some (.int .i64 z))) (by kernel_rfl) ⟨yb, d0, d1⟩ (fun hHeld => ?_)
      refine wpAnyH_takeDw (some 15) (i := 0) (v := ?vac1) rfl (by kernel_rfl) (by kernel_rfl) (by kernel_rfl) (by kernel_rfl) (fun _ _ _ h => h) (Or.inl ⟨by rfl, ?hyac1⟩) (by assumption) ?rac1
      case hyac1 => intro w hSw; (try dsimp only at hSw); go_simp; first | done | with_reducible rfl
      case' rac1 => try simp only [Act.put, List.setIfInBounds_toArray, List.set_cons_zero, List.set_cons_succ]
      refine wpAnyH_takeDw (some 17) (i := 2) (v := ?vac2) rfl (by kernel_rfl) (by kernel_rfl) (by kernel_rfl) (by kernel_rfl) (fun _ _ _ h => h) (Or.inl ⟨by rfl, ?hyac2⟩) (by assumption) ?rac2
      case hyac2 => intro w hSw; (try dsimp only at hSw); go_simp; first | done | with_reducible rfl
      case' rac2 => try simp only [Act.put, List.setIfInBounds_toArray, List.set_cons_zero, List.set_cons_succ]
      refine wpAnyH_takeDw (some 18) (i := 3) (v := ?vac3) rfl (by kernel_rfl) (by kernel_rfl) (by kernel_rfl) (by kernel_rfl) (fun _ _ _ h => h) (Or.inl ⟨by rfl, ?hyac3⟩) (by assumption) ?rac3
      case hyac3 => intro w hSw; (try dsimp only at hSw); go_simp; first | done | with_reducible rfl
      case' rac3 => try simp only [Act.put, List.setIfInBounds_toArray, List.set_cons_zero, List.set_cons_succ]
      refine wpAnyH_takeDw (some 19) (i := 4) (v := ?vac4) rfl (by kernel_rfl) (by kernel_rfl) (by kernel_rfl) (by kernel_rfl) (fun _ _ _ h => h) (Or.inl ⟨by rfl, ?hyac4⟩) (by assumption) ?rac4
      case hyac4 => intro w hSw; (try dsimp only at hSw); go_simp; first | done | with_reducible rfl
      case' rac4 => try simp only [Act.put, List.setIfInBounds_toArray, List.set_cons_zero, List.set_cons_succ]
      refine wpAnyH_takeDw (some 20) (i := 5) (v := ?vac5) rfl (by kernel_rfl) (by kernel_rfl) (by kernel_rfl) (by kernel_rfl) (fun _ _ _ h => h) (Or.inl ⟨by rfl, ?hyac5⟩) (by assumption) ?rac5
      case hyac5 => intro w hSw; (try dsimp only at hSw); go_simp; first | done | with_reducible rfl
      case' rac5 => try simp only [Act.put, List.setIfInBounds_toArray, List.set_cons_zero, List.set_cons_succ]
      refine wpAnyH_takeDw (some 21) (i := 6) (v := ?vac6) rfl (by kernel_rfl) (by kernel_rfl) (by kernel_rfl) (by kernel_rfl) (fun _ _ _ h => h) (Or.inl ⟨by rfl, ?hyac6⟩) (by assumption) ?rac6
      case hyac6 => intro w hSw; (try dsimp only at hSw); go_simp; first | done | with_reducible rfl
      case' rac6 => try simp only [Act.put, List.setIfInBounds_toArray, List.set_cons_zero, List.set_cons_succ]
      refine wpAnyH_ready (rs := [1, 7]) (by kernel_rfl) (by simp) ?_
      refine AllReadyH.cons rfl (fun K9 hK => ?_) (AllReadyH.cons rfl (fun K9 hK => ?_) AllReadyH.nil)
      · skip
        go_simp
        refine hK.out _ _ ⟨yb, d0, d1⟩ (fun hHac7 => ?_)
        clear hK K9
        try simp only [Act.put, List.setIfInBounds_toArray, List.set_cons_zero, List.set_cons_succ]
        refine wpAnyH_ready (rs := [7]) (by kernel_rfl) (by simp) ?_
        refine AllReadyH.cons rfl (fun K9 hK => ?_) AllReadyH.nil
        (go_simp; refine (l3CopyAffine4_any _ xa xb xc xd z _ ((HR.out.ext HEA.out).ext (Ext.refl wq).drew)).mono ?_; rintro e w1 ⟨⟨p1, c1', rfl, hv1⟩, hE1⟩; have X1 : Ext wq w1 := (Ext.refl wq).drew.trans hE1; have xg1' := X1.keep xg1; have EB := X1.alloc (.cells #[.slice p1 4 c1', .int .i64 z] 36); have xg1'' := EB.keep xg1; have hl1 : w.heap.size + 2 < w1.heap.size := Nat.lt_of_lt_of_le hlgx X1.size_le)
        refine hK.out _ _ ⟨X1.keep yb, X1.keep d0, X1.keep d1⟩ (fun hHac8 => ?_)
        clear hK K9
        try simp only [Act.put, List.setIfInBounds_toArray, List.set_cons_zero, List.set_cons_succ]
        refine wpAnyH_ready (rs := [8]) (by kernel_rfl) (by simp) ?_
        refine AllReadyH.cons rfl (fun K9 hK => ?_) AllReadyH.nil
        go_simp
        refine hK.out _ _ ⟨EB.keep yb, EB.keep d0, EB.keep d1⟩ (fun hHac9 => ?_)
        clear hK K9
        try simp only [Act.put, List.setIfInBounds_toArray, List.set_cons_zero, List.set_cons_succ]
        refine wpAnyH_ready (rs := [9]) (by kernel_rfl) (by simp) ?_
        refine AllReadyH.cons rfl (fun K9 hK => ?_) AllReadyH.nil
        (obtain ⟨vs, ho, he⟩ := AffsOwn.ext HV.out EB; rw [HTL.out] at ho; have hvl := ho.1; refine step_append_lies _ rfl (.tmp 16) (.tmp 23) 49 rfl W0.heap.size 36 i1 (.agg #[.slice none 0 0, .int .i64 0]) 2 32 underSliceAff ha hy0 hy1 hy2 rfl (by decide) (.slice pv k cv) k vs rfl ho ⟨w1.heap.size, 0, none⟩ 1 1 [.slice p1 4 c1', .int .i64 z] rfl rfl (pair_cells rfl) (by intro u hu; simp at hu; rcases hu with rfl | rfl <;> rfl) (by omega) (by unfold maxLen; omega) (by omega) (by have := X1.size_le; simp <;> omega) _ rfl ?_; intro gn cn w4 hown' hgrow' hgeq' hltg; have htag := own_tag ho; have GX4 := blk_tag (EB.blk HX.out) hgrow' htag (by decide); obtain ⟨y0', y1', f0', f1'⟩ := blk2 GX4; have hDr := (HD.out.ext EB).fresh hgrow' (fun b hb => (ho.lt b hb).1); have E4 : Ext wA w4 := hDr.ext0 E0.out (by omega); have hres : AffsOwn W0.heap.size w4 (.slice (some ⟨gn, 0, none⟩) (k + 1) cn) (subs.take k ++ [([xa, xb, xc, xd], z)]) := PairsOwn.push (R := AffO) (fun h a b => AffO.grow h a b) HTL.out he hvl hown' hgrow' htag ⟨(hv1.weak (by have := HD.out.size; simp; omega)).ext ((Ext.refl w1).alloc _), rfl⟩; have E5 := E4.setCell (p := ⟨w.heap.size + 2, 1, none⟩) (by simp; omega) (.slice (some ⟨gn, 0, none⟩) (k + 1) cn))
        refine hK.out _ _ ⟨E4.keep YB.out, E4.keep C0.out, E4.keep C1.out⟩ (fun hHac10 => ?_)
        clear hK K9
        try simp only [Act.put, List.setIfInBounds_toArray, List.set_cons_zero, List.set_cons_succ]
        refine wpAnyH_takeDw (some 25) (i := 10) (v := ?vac11) rfl (by kernel_rfl) (by kernel_rfl) (by kernel_rfl) (by kernel_rfl) (fun _ _ _ h => h) (Or.inl ⟨by rfl, ?hyac11⟩) (by assumption) ?rac11
        case hyac11 => intro w hSw; (try dsimp only at hSw); go_simp; first | done | with_reducible rfl
        case' rac11 => try simp only [Act.put, List.setIfInBounds_toArray, List.set_cons_zero, List.set_cons_succ]
        refine wpAnyH_ready (rs := [11]) (by kernel_rfl) (by simp) ?_
        refine AllReadyH.cons rfl (fun K9 hK => ?_) AllReadyH.nil
        go_simp
        refine hK.out _ _ ⟨E5.keep YB.out, E5.keep C0.out, E5.keep C1.out⟩ (fun hHac12 => ?_)
        clear hK K9
        try simp only [Act.put, List.setIfInBounds_toArray, List.set_cons_zero, List.set_cons_succ]
        refine wpAnyH_done (by kernel_rfl) ?_ _
        rw [← take_next HXX.out] at hres
        have HRS := Lib.hid (AffsOwn.tag hres (grown_set w4 (w.heap.size + 2) 1 (.slice (some ⟨gn, 0, none⟩) (k + 1) cn)) (Tag.blk GX4) (by decide) (by decide)); have HDD := Lib.hid (Dr.trans hDr (grown_set w4 (w.heap.size + 2) 1 (.slice (some ⟨gn, 0, none⟩) (k + 1) cn))); have HGX := Lib.hid (blk2_set1' (c := .slice (some ⟨gn, 0, none⟩) (k + 1) cn) GX4)
        clear hres hDr GX4 htag X1 EB xg1' xg1'' E4 E5 y0' y1' f0' f1'
        go_wp2
        go_roundw
        case rel => exact ⟨k + 1, _, by omega, by go_num, HGX.out, HRS.out, HDD.out⟩
        case measure => simp [intOf]; omega
      · skip
        (go_simp; refine (l3CopyAffine4_any _ xa xb xc xd z _ ((HR.out.ext HEA.out).ext (Ext.refl wq).drew)).mono ?_; rintro e w1 ⟨⟨p1, c1', rfl, hv1⟩, hE1⟩; have X1 : Ext wq w1 := (Ext.refl wq).drew.trans hE1; have xg1' := X1.keep xg1; have EB := X1.alloc (.cells #[.slice p1 4 c1', .int .i64 z] 36); have xg1'' := EB.keep xg1; have hl1 : w.heap.size + 2 < w1.heap.size := Nat.lt_of_lt_of_le hlgx X1.size_le)
        refine hK.out _ _ ⟨X1.keep yb, X1.keep d0, X1.keep d1⟩ (fun hHac13 => ?_)
        clear hK K9
        try simp only [Act.put, List.setIfInBounds_toArray, List.set_cons_zero, List.set_cons_succ]
        refine wpAnyH_ready (rs := [1, 8]) (by kernel_rfl) (by simp) ?_
        refine AllReadyH.cons rfl (fun K9 hK => ?_) (AllReadyH.cons rfl (fun K9 hK => ?_) AllReadyH.nil)
        · skip
          go_simp
          refine hK.out _ _ ⟨X1.keep yb, X1.keep d0, X1.keep d1⟩ (fun hHac14 => ?_)
          clear hK K9
          try simp only [Act.put, List.setIfInBounds_toArray, List.set_cons_zero, List.set_cons_succ]
          refine wpAnyH_ready (rs := [8]) (by kernel_rfl) (by simp) ?_
          refine AllReadyH.cons rfl (fun K9 hK => ?_) AllReadyH.nil
          go_simp
          refine hK.out _ _ ⟨EB.keep yb, EB.keep d0, EB.keep d1⟩ (fun hHac15 => ?_)
          clear hK K9
          try simp only [Act.put, List.setIfInBounds_toArray, List.set_cons_zero, List.set_cons_succ]
          refine wpAnyH_ready (rs := [9]) (by kernel_rfl) (by simp) ?_
          refine AllReadyH.cons rfl (fun K9 hK => ?_) AllReadyH.nil
          (obtain ⟨vs, ho, he⟩ := AffsOwn.ext HV.out EB; rw [HTL.out] at ho; have hvl := ho.1; refine step_append_lies _ rfl (.tmp 16) (.tmp 23) 49 rfl W0.heap.size 36 i1 (.agg #[.slice none 0 0, .int .i64 0]) 2 32 underSliceAff ha hy0 hy1 hy2 rfl (by decide) (.slice pv k cv) k vs rfl ho ⟨w1.heap.size, 0, none⟩ 1 1 [.slice p1 4 c1', .int .i64 z] rfl rfl (pair_cells rfl) (by intro u hu; simp at hu; rcases hu with rfl | rfl <;> rfl) (by omega) (by unfold maxLen; omega) (by omega) (by have := X1.size_le; simp <;> omega) _ rfl ?_; intro gn cn w4 hown' hgrow' hgeq' hltg; have htag := own_tag ho; have GX4 := blk_tag (EB.blk HX.out) hgrow' htag (by decide); obtain ⟨y0', y1', f0', f1'⟩ := blk2 GX4; have hDr := (HD.out.ext EB).fresh hgrow' (fun b hb => (ho.lt b hb).1); have E4 : Ext wA w4 := hDr.ext0 E0.out (by omega); have hres : AffsOwn W0.heap.size w4 (.slice (some ⟨gn, 0, none⟩) (k + 1) cn) (subs.take k ++ [([xa, xb, xc, xd], z)]) := PairsOwn.push (R := AffO) (fun h a b => AffO.grow h a b) HTL.out he hvl hown' hgrow' htag ⟨(hv1.weak (by have := HD.out.size; simp; omega)).ext ((Ext.refl w1).alloc _), rfl⟩; have E5 := E4.setCell (p := ⟨w.heap.size + 2, 1, none⟩) (by simp; omega) (.slice (some ⟨gn, 0, none⟩) (k + 1) cn))
          refine hK.out _ _ ⟨E4.keep YB.out, E4.keep C0.out, E4.keep C1.out⟩ (fun hHac16 => ?_)
          clear hK K9
          try simp only [Act.put, List.setIfInBounds_toArray, List.set_cons_zero, List.set_cons_succ]
          refine wpAnyH_takeDw (some 25) (i := 10) (v := ?vac17) rfl (by kernel_rfl) (by kernel_rfl) (by kernel_rfl) (by kernel_rfl) (fun _ _ _ h => h) (Or.inl ⟨by rfl, ?hyac17⟩) (by assumption) ?rac17
          case hyac17 => intro w hSw; (try dsimp only at hSw); go_simp; first | done | with_reducible rfl
          case' rac17 => try simp only [Act.put, List.setIfInBounds_toArray, List.set_cons_zero, List.set_cons_succ]
          refine wpAnyH_ready (rs := [11]) (by kernel_rfl) (by simp) ?_
          refine AllReadyH.cons rfl (fun K9 hK => ?_) AllReadyH.nil
          go_simp
          refine hK.out _ _ ⟨E5.keep YB.out, E5.keep C0.out, E5.keep C1.out⟩ (fun hHac18 => ?_)
          clear hK K9
          try simp only [Act.put, List.setIfInBounds_toArray, List.set_cons_zero, List.set_cons_succ]
          refine wpAnyH_done (by kernel_rfl) ?_ _
          rw [← take_next HXX.out] at hres
          have HRS := Lib.hid (AffsOwn.tag hres (grown_set w4 (w.heap.size + 2) 1 (.slice (some ⟨gn, 0, none⟩) (k + 1) cn)) (Tag.blk GX4) (by decide) (by decide)); have HDD := Lib.hid (Dr.trans hDr (grown_set w4 (w.heap.size + 2) 1 (.slice (some ⟨gn, 0, none⟩) (k + 1) cn))); have HGX := Lib.hid (blk2_set1' (c := .slice (some ⟨gn, 0, none⟩) (k + 1) cn) GX4)
          clear hres hDr GX4 htag X1 EB xg1' xg1'' E4 E5 y0' y1' f0' f1'
          go_wp2
          go_roundw
          case rel => exact ⟨k + 1, _, by omega, by go_num, HGX.out, HRS.out, HDD.out⟩
          case measure => simp [intOf]; omega
        · skip
          go_simp
          refine hK.out _ _ ⟨EB.keep yb, EB.keep d0, EB.keep d1⟩ (fun hHac19 => ?_)
          clear hK K9
          try simp only [Act.put, List.setIfInBounds_toArray, List.set_cons_zero, List.set_cons_succ]
          refine wpAnyH_ready (rs := [1]) (by kernel_rfl) (by simp) ?_
          refine AllReadyH.cons rfl (fun K9 hK => ?_) AllReadyH.nil
          go_simp
          refine hK.out _ _ ⟨EB.keep yb, EB.keep d0, EB.keep d1⟩ (fun hHac20 => ?_)
          clear hK K9
          try simp only [Act.put, List.setIfInBounds_toArray, List.set_cons_zero, List.set_cons_succ]
          refine wpAnyH_ready (rs := [9]) (by kernel_rfl) (by simp) ?_
          refine AllReadyH.cons rfl (fun K9 hK => ?_) AllReadyH.nil
          (obtain ⟨vs, ho, he⟩ := AffsOwn.ext HV.out EB; rw [HTL.out] at ho; have hvl := ho.1; refine step_append_lies _ rfl (.tmp 16) (.tmp 23) 49 rfl W0.heap.size 36 i1 (.agg #[.slice none 0 0, .int .i64 0]) 2 32 underSliceAff ha hy0 hy1 hy2 rfl (by decide) (.slice pv k cv) k vs rfl ho ⟨w1.heap.size, 0, none⟩ 1 1 [.slice p1 4 c1', .int .i64 z] rfl rfl (pair_cells rfl) (by intro u hu; simp at hu; rcases hu with rfl | rfl <;> rfl) (by omega) (by unfold maxLen; omega) (by omega) (by have := X1.size_le; simp <;> omega) _ rfl ?_; intro gn cn w4 hown' hgrow' hgeq' hltg; have htag := own_tag ho; have GX4 := blk_tag (EB.blk HX.out) hgrow' htag (by decide); obtain ⟨y0', y1', f0', f1'⟩ := blk2 GX4; have hDr := (HD.out.ext EB).fresh hgrow' (fun b hb => (ho.lt b hb).1); have E4 : Ext wA w4 := hDr.ext0 E0.out (by omega); have hres : AffsOwn W0.heap.size w4 (.slice (some ⟨gn, 0, none⟩) (k + 1) cn) (subs.take k ++ [([xa, xb, xc, xd], z)]) := PairsOwn.push (R := AffO) (fun h a b => AffO.grow h a b) HTL.out he hvl hown' hgrow' htag ⟨(hv1.weak (by have := HD.out.size; simp; omega)).ext ((Ext.refl w1).alloc _), rfl⟩; have E5 := E4.setCell (p := ⟨w.heap.size + 2, 1, none⟩) (by simp; omega) (.slice (some ⟨gn, 0, none⟩) (k + 1) cn))
          refine hK.out _ _ ⟨E4.keep YB.out, E4.keep C0.out, E4.keep C1.out⟩ (fun hHac21 => ?_)
          clear hK K9
          try simp only [Act.put, List.setIfInBounds_toArray, List.set_cons_zero, List.set_cons_succ]
          refine wpAnyH_takeDw (some 25) (i := 10) (v := ?vac22) rfl (by kernel_rfl) (by kernel_rfl) (by kernel_rfl) (by kernel_rfl) (fun _ _ _ h => h) (Or.inl ⟨by rfl, ?hyac22⟩) (by assumption) ?rac22
          case hyac22 => intro w hSw; (try dsimp only at hSw); go_simp; first | done | with_reducible rfl
          case' rac22 => try simp only [Act.put, List.setIfInBounds_toArray, List.set_cons_zero, List.set_cons_succ]
          refine wpAnyH_ready (rs := [11]) (by kernel_rfl) (by simp) ?_
          refine AllReadyH.cons rfl (fun K9 hK => ?_) AllReadyH.nil
          go_simp
          refine hK.out _ _ ⟨E5.keep YB.out, E5.keep C0.out, E5.keep C1.out⟩ (fun hHac23 => ?_)
          clear hK K9
          try simp only [Act.put, List.setIfInBounds_toArray, List.set_cons_zero, List.set_cons_succ]
          refine wpAnyH_done (by kernel_rfl) ?_ _
          rw [← take_next HXX.out] at hres
          have HRS := Lib.hid (AffsOwn.tag hres (grown_set w4 (w.heap.size + 2) 1 (.slice (some ⟨gn, 0, none⟩) (k + 1) cn)) (Tag.blk GX4) (by decide) (by decide)); have HDD := Lib.hid (Dr.trans hDr (grown_set w4 (w.heap.size + 2) 1 (.slice (some ⟨gn, 0, none⟩) (k + 1) cn))); have HGX := Lib.hid (blk2_set1' (c := .slice (some ⟨gn, 0, none⟩) (k + 1) cn) GX4)
          clear hres hDr GX4 htag X1 EB xg1' xg1'' E4 E5 y0' y1' f0' f1'
          go_wp2
          go_roundw
          case rel => exact ⟨k + 1, _, by omega, by go_num, HGX.out, HRS.out, HDD.out⟩
          case measure => simp [intOf]; omega
    · obtain rfl : k = n := by omega
      have hal : subs.take k = subs := List.take_of_length_le (by rw [HN.out]; omega)
      have HVA : Hid (AffsOwn W0.heap.size wq (.slice pv k cv) subs) := Lib.hid (by have h := HV.out; rw [hal] at h; exact h)
      obtain ⟨xg0, xg1, fg0, fg1⟩ := blk2 HX.out
      have hEW0 : Ext W0 W0 := Ext.refl _
      have RR := grownBy_blk HD.out R0.out (fun e => by simp at e)
      obtain ⟨r0, r1, rf0, rf1⟩ := blk2 RR
      have HRR := Lib.hid RR
      have HE := Lib.hid (EA.out.trans HEA.out)
      have hl2 := lt_of_block RR
      clear hal hEW0 RR
      go_wp2
      obtain ⟨WF, hWF⟩ : ∃ WF, ((wq.setCell ⟨w.heap.size + 1, 0, none⟩ (.string arr)).setCell ⟨w.heap.size + 1, 1, none⟩ (.slice pv k cv)) = WF := ⟨_, rfl⟩
      have HIF : Hid (AffsOwn W0.heap.size WF (.slice pv k cv) subs) := Lib.hid (by rw [← hWF]; exact (HVA.out.setOld (by simp; omega) _).setOld (by simp; omega) _)
      have HEF : Hid (Ext w WF) := Lib.hid (by rw [← hWF]; exact (HE.out.setCell (by simp) _).setCell (by simp) _)
      have RF : WF.heap[w.heap.size + 1]? = some (.cells #[.string arr, .slice pv k cv] 51 (0, 0)) := by rw [← hWF]; exact blk2_set HRR.out
      rw [hWF]
      obtain ⟨rr0, rr1, -, -⟩ := blk2 RF
      exact bodyPost_ret (v := .agg #[.string arr, .slice pv k cv]) (by simp [results, Try.results104, go_sem, rr0, rr1]) rfl ⟨⟨_, _, rfl, HIF.out.weak (by rw [HS0.out]; omega)⟩, HEF.out⟩

end Go.Proofs.Ytccibfldadflkaa

/- Two ready operations of a drawn region; appending a list of ints that may be nil. No statement is proved here. -/
namespace Go.Proofs.Ytccibfldadflkaa
open Go.RowKit

theorem twoL {P : Program} {md : Region.Mode} {ops : Array Oper} {Q : Exit → Act → World → Prop} {S : World → Prop} {i j : Nat} {oi oj : Oper} {fuel : Nat} {listed : Array Bool} {a : Act} {w : World} (hi : ops[i]? = some oi) (hj : ops[j]? = some oj) (hr : Region.ready md ops listed = [i, j])
    (h1 : ∀ K' : Act → World → Prop, Shut (∀ a w, S w → (S w → wpAnyL P md ops Q S fuel (listed.setIfInBounds i true) a w) → K' a w) → if Region.wanted oi (yielded ops a.tmps) = true then Oper.wp P oi a w K' Q else K' (a.put oi.dst undef) w)
    (h2 : ∀ K' : Act → World → Prop, Shut (∀ a w, S w → (S w → wpAnyL P md ops Q S fuel (listed.setIfInBounds j true) a w) → K' a w) → if Region.wanted oj (yielded ops a.tmps) = true then Oper.wp P oj a w K' Q else K' (a.put oj.dst undef) w) :
    wpAnyL P md ops Q S (fuel + 1) listed a w :=
  ⟨fun h0 => (by rw [h0] at hr; cases hr), fun k hk => by
    rw [hr] at hk
    simp only [List.mem_cons, List.not_mem_nil, or_false] at hk
    rcases hk with rfl | rfl
    · exact wpOp_step hi (fun K' hK => h1 K' (fun a w hS hW => hK a w ⟨fun _ => hS, hW hS⟩))
    · exact wpOp_step hj (fun K' hK => h2 K' (fun a w hS hW => hK a w ⟨fun _ => hS, hW hS⟩))⟩
end Go.Proofs.Ytccibfldadflkaa

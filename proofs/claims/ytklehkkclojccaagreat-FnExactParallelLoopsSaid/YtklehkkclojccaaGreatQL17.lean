/- The texts G6, joined. No statement is proved here. -/
import Derived.Test.YtklehkkclojccaaGreatQL27
import Derived.Test.YtklehkkclojccaaGreatQL30
import Derived.Test.YtklehkkclojccaaGreatQL02
import Derived.Test.YtklehkkclojccaaGreatQL20
set_option maxRecDepth 100000
set_option maxHeartbeats 8000000
set_option linter.unusedVariables false
set_option linter.unusedSimpArgs false
namespace Go.Proofs.YtklehkkclojccaaGreat
open Go.Lib (hid)
open Go.RowKit
theorem jXC (r : Value) (a b c d k : Int) (w : World) (hr : IntsAt w r [a, b, c, d]) :
  Calls Tryz.prog 303 #[.agg #[r, .int .i64 k]] w fun e w' => (∃ p cc, e = .returned (.agg #[.slice p 4 cc, .int .i64 k]) /\ jZ1 w.heap.size w' (.slice p 4 cc) [a, b, c, d]) /\ Ext w w' := by
 obtain ⟨i0, hi, hz0, hz1, hz2⟩ := info_parts jZK
 obtain ⟨bl, off, cap, rfl, h0, h1, h2, h3, hbl⟩ := hr.four
 clear hr
 go_enter Tryz.func303, Tryz.ntmps303
 go_wp2_with (fail)
 obtain ⟨W0, hW0⟩ : ∃ W0, (w.alloc (.cells #[.slice (some ⟨bl, off, none⟩) 4 cap, .int .i64 k] 176)).alloc (.cells #[.slice none 0 0, .int .i64 0] 176) = W0 := ⟨_, rfl⟩
 have E0 : Hid (Ext w W0) := hid (by rw [<- hW0]; exact ((Ext.refl w).alloc _).alloc _)
 have X0 : W0.heap[w.heap.size]? = some (.cells #[.slice (some ⟨bl, off, none⟩) 4 cap, .int .i64 k] 176 (0, 0)) := by rw [<- hW0]; exact jZ4 (blk_at rfl)
 have R0 := hid (show W0.heap[w.heap.size + 1]? = some (.cells #[.slice none 0 0, .int .i64 0] 176 (0, 0)) by rw [<- hW0]; exact blk_at (by simp))
 have HS0 : Hid (W0.heap.size = w.heap.size + 2) := hid (by rw [<- hW0]; simp)
 rw [hW0]
 clear hW0
 replace h0 := E0.o.keep h0; replace h1 := E0.o.keep h1; replace h2 := E0.o.keep h2; replace h3 := E0.o.keep h3
 obtain ⟨x0, x1, -, -⟩ := blk2 X0
 have z0 := ((Ext.refl W0).alloc (.cells #[] 3)).drew.keep x0
 have z1 := ((Ext.refl W0).alloc (.cells #[] 3)).drew.keep x1
 have d0 := (Ext.refl W0).drew.keep x0
 have d1 := (Ext.refl W0).drew.keep x1
 have H0 := hid h0; have H1 := hid h1; have H2 := hid h2; have H3 := hid h3
 have hl0 := lt_of_block X0
 clear h0 h1 h2 h3 X0
 have OA : Hid ((W0.alloc (.cells #[] 3)).drew.ownsRow W0.heap.size 3 1 (.slice (some ⟨W0.heap.size, 0, none⟩) 0 0) 0 []) := hid (World.ownsRow_made W0 #[] 0 (Nat.le_refl _) (Nat.zero_le _) rfl)
 have HK : ∀ W, Ext W0 W -> ∀ j u, [Value.int .i64 a, .int .i64 b, .int .i64 c, .int .i64 d][j]? = some u -> W.cell? ((⟨bl, off, none⟩ : Addr).add j) = some u := by
  intro W hE j u hu
  match j, hu with
  | 0, hu => simp at hu; subst hu; exact hE.keep H0.o
  | 1, hu => simp at hu; subst hu; exact hE.keep H1.o
  | 2, hu => simp at hu; subst hu; exact hE.keep H2.o
  | 3, hu => simp at hu; subst hu; exact hE.keep H3.o
 have hlr := lt_of_block R0.o
 go_region_held3 (fun W => W.cell? ⟨w.heap.size, 0, none⟩ = some (.slice (some ⟨bl, off, none⟩) 4 cap) /\ W.cell? ⟨w.heap.size, 1, none⟩ = some (.int .i64 k))
  (first | exact ⟨x0, x1⟩ | exact ⟨d0, d1⟩ | exact ⟨z0, z1⟩ | with_reducible exact ⟨y0, y1⟩ | exact ⟨(jW8 _ (by omega)).trans ((jW8 _ (by omega)).trans y0), (jW8 _ (by omega)).trans ((jW8 _ (by omega)).trans y1)⟩)
  (first
   | (refine step_append_lies _ rfl (.tmp 10) (.tmp 12) 39 rfl W0.heap.size 3 i0 (.int .i64 0) 1 8 jZG hi hz0 hz1 hz2 rfl (by decide) (.slice (some ⟨W0.heap.size, 0, none⟩) 0 0) 0 [] rfl OA.o ⟨bl, off, none⟩ 4 cap [.int .i64 a, .int .i64 b, .int .i64 c, .int .i64 d] rfl rfl (HK _ ((Ext.refl W0).alloc (.cells #[] 3)).drew) (by intro u hu; simp at hu; rcases hu with rfl | rfl | rfl | rfl <;> rfl) (by omega) (by unfold maxLen; omega) (by omega) (by simp <;> omega) _ rfl ?_; intro g cap' w1 hown hgrow hgeq _; have EX : Ext W0 w1 := Ext.grown (((Ext.refl W0).alloc (.cells #[] 3)).drew) hgrow (fun b hb => by have hb' : W0.heap.size = b := Option.some.inj hb; omega); have y0 := EX.keep x0; have y1 := EX.keep x1; have R1 := EX.blk R0.o; have hl1 := lt_of_block R1; obtain ⟨r0, r1, f0, f1⟩ := blk2 R1)
   | fail)
 have HI := hid (jZ1.mk (xs := [a, b, c, d]) hown rfl)
 have HE := hid (E0.o.trans EX)
 have RF := jZI (c := .slice (some ⟨g, 0, none⟩) 4 cap') (d := .int .i64 k) R1
 obtain ⟨WF, hWF⟩ : ∃ WF, ((w1.setCell ⟨w.heap.size + 1, 0, none⟩ (.slice (some ⟨g, 0, none⟩) 4 cap')).setCell ⟨w.heap.size + 1, 1, none⟩ (.int .i64 k)) = WF := ⟨_, rfl⟩
 have HIF : Hid (jZ1 W0.heap.size WF (.slice (some ⟨g, 0, none⟩) 4 cap') [a, b, c, d]) := hid (by rw [<- hWF]; exact (HI.o.setOld (by simpa using hlr) _).setOld (by simpa using hlr) _)
 have HEF : Hid (Ext w WF) := hid (by rw [<- hWF]; exact (HE.o.setCell (by simp) _).setCell (by simp) _)
 rw [hWF] at RF ⊢
 obtain ⟨rr0, rr1, -, -⟩ := blk2 RF
 clear hWF RF hown hgrow hgeq EX y0 y1 R1 r0 r1 f0 f1 x0 x1 z0 z1 d0 d1 hl0 hl1 hlr
 go_wp2
 exact bodyPost_ret (v := .agg #[.slice (some ⟨g, 0, none⟩) 4 cap', .int .i64 k]) (by simp [results, Tryz.results303, go_sem, rr0, rr1]) rfl ⟨⟨_, _, rfl, HIF.o.weak (by rw [HS0.o]; omega)⟩, HEF.o⟩
def AccO (B : Nat) (w : World) (u0 u1 : Value) (a : Acc) : Prop := u0 = .string a.1 /\ a.1.size <= 9223372036854775807 /\ jZ8 B w u1 a.2
def AccsO : Nat -> World -> Value -> List Acc -> Prop := jZ9 174 AccO
theorem AccO.ext {B : Nat} {w w' : World} {u0 u1 : Value} {a : Acc} (h : AccO B w u0 u1 a) (hE : Ext w w') : AccO B w' u0 u1 a := ⟨h.1, h.2.1, h.2.2.ext hE⟩
theorem AccO.weak {B B' : Nat} {w : World} {u0 u1 : Value} {a : Acc} (h : AccO B w u0 u1 a) (hB : B' <= B) : AccO B' w u0 u1 a := ⟨h.1, h.2.1, h.2.2.weak hB⟩
theorem AccO.grow {B : Nat} {w w' : World} {u0 u1 : Value} {x : Acc} {row : Option Nat} (h : AccO B w u0 u1 x) (hg : w.grownBy w' row) (ht : Tag w row 174) : AccO B w' u0 u1 x := ⟨h.1, h.2.1, jZ8.tag h.2.2 hg ht (by decide) (by decide)⟩
theorem AccsO.ext {B : Nat} {w w' : World} {v : Value} {xs : List Acc} (h : AccsO B w v xs) (hb : Ext w w') : AccsO B w' v xs := jZ9.map' h (fun _ h => jZ3 h hb) (fun h => h.ext hb)
theorem AccsO.weak {B B' : Nat} {w : World} {v : Value} {xs : List Acc} (h : AccsO B w v xs) (hB : B' <= B) : AccsO B' w v xs := jZ9.map' h (fun _ h => jZ7 h hB) (fun h => h.weak hB)
theorem jY4w : (Tryz.prog.info? 174).map (fun i => (i.zero, i.size, i.bytes)) = some (some (.agg #[.string ⟨#[]⟩, .slice none 0 0]), 2, 40) := by kernel_rfl
theorem jY1m : Tryz.prog.underlying 321 = some (.slice 174) := Tryz.underlying321
theorem jVo (arr : ByteArray) (s : Value) (subs : List Aff) (w : World) (hs : AffsAt w s subs) (hf : FourA 1000 subs) :
  Calls Tryz.prog 267 #[.agg #[.string arr, s]] w fun e w' => (∃ q d, e = .returned (.agg #[.string arr, .slice q subs.length d]) /\ jZ8 w.heap.size w' (.slice q subs.length d) subs) /\ Ext w w' := by
 obtain ⟨p, c, rfl, hm⟩ := hs.form
 obtain ⟨i1, ha, hy0, hy1, hy2⟩ := info_parts jY4A
 have HS := hid hs; have HF := hid hf; clear hs hf
 generalize hn : subs.length = n at *
 have HN := hid hn; clear hn
 go_enter Tryz.func267, Tryz.ntmps267
 go_wp2_with (fail)
 obtain ⟨wA, hwA⟩ : ∃ wA, w.alloc (.cells #[.string arr, .slice p n c] 174) = wA := ⟨_, rfl⟩
 have EA : Hid (Ext w wA) := hid (by rw [<- hwA]; exact (Ext.refl w).alloc _)
 have BA := hid (show wA.heap[w.heap.size]? = some (.cells #[.string arr, .slice p n c] 174 (0, 0)) by rw [<- hwA]; exact blk_at rfl)
 have HSA : Hid (wA.heap.size = w.heap.size + 1) := hid (by rw [<- hwA]; simp)
 obtain ⟨W0, hW0⟩ : ∃ W0, (wA.alloc (.cells #[.string ⟨#[]⟩, .slice none 0 0] 174)).alloc (.cells #[.string arr, .slice none 0 0] 174) = W0 := ⟨_, rfl⟩
 have E0 : Hid (Ext wA W0) := hid (by rw [<- hW0]; exact ((Ext.refl wA).alloc _).alloc _)
 have R0 := hid (show W0.heap[w.heap.size + 1]? = some (.cells #[.string ⟨#[]⟩, .slice none 0 0] 174 (0, 0)) by rw [<- hW0]; exact jZ4 (blk_at (by rw [HSA.o])))
 have G0 := hid (show W0.heap[w.heap.size + 2]? = some (.cells #[.string arr, .slice none 0 0] 174 (0, 0)) by rw [<- hW0]; exact blk_at (by simp [HSA.o]))
 have HS0 : Hid (W0.heap.size = w.heap.size + 3) := hid (by rw [<- hW0]; simp [HSA.o])
 try rw [hwA]
 try rw [hW0]
 clear hwA hW0
 go_loopw [4] (fun i wr => ∃ (k : Nat) (v : Value), k <= n /\ i = .int .i64 k /\ wr.heap[w.heap.size + 2]? = some (.cells #[.string arr, v] 174 (0, 0)) /\ jZ8 W0.heap.size wr v (subs.take k) /\ Dr W0 (w.heap.size + 2) wr) (fun i _ => n - (intOf i).toNat)
 case atStart => exact ⟨0, .slice none 0 0, by omega, rfl, G0.o, by simpa using jZ8.nil _ _, Dr.refl _ _⟩
 case round =>
  obtain ⟨k, v, hk, rfl, hgx, hv, hD⟩ := hrel; obtain ⟨wq, hwq⟩ : ∃ wq, wq = wr := ⟨_, rfl⟩; subst hwq; have hszA := HSA.o; have hsz0 := HS0.o; have hszq := hD.size; have hEA : Ext wA wq := hD.ext0 E0.o (by omega); have HEA := hid hEA; obtain ⟨ya, yb, -, -⟩ := blk2 (hEA.blk BA.o); have htl : (subs.take k).length = k := by rw [List.length_take, HN.o]; omega
  obtain ⟨pv, cv, rfl⟩ := jZ9.slice hv; rw [htl] at hv hgx; have HX := hid hgx; have HV := hid hv; have HD := hid hD; have HTL := hid htl; clear hgx hv hD htl hEA; by_cases hlt : k < n
  ·obtain ⟨x, hx⟩ := jZ0 (xs := subs) (k := k) (by rw [HN.o]; exact hlt)
   obtain ⟨b, off, q3, m3, rfl, c0, c1, hb, hr⟩ := (HS.o.ext EA.o).elem hx; have hf4 := HF.o.2 x (List.mem_of_getElem? hx); obtain ⟨xs, z⟩ := x; dsimp only at *
   match xs, hf4 with
   | [xa, xb, xc, xd], _ =>
   have HXX := hid hx; have HR := hid hr; have d0 := HEA.o.keep c0; have d1 := HEA.o.keep c1; obtain ⟨xg0, xg1, fg0, fg1⟩ := blk2 HX.o; have hkn : (k : Int) < (n : Int) := by omega
   have hMk : k <= 1000 := by have := HF.o.1; rw [HN.o] at this; omega
   have hlgx := lt_of_block HX.o; have C0 := hid c0; have C1 := hid c1; have YB := hid (blk2 BA.o).2.1; clear hx hr c0 c1; go_wp2_with (fail); refine wp_region_held_drew (S := (fun W => W.cell? ⟨w.heap.size, 1, none⟩ = some (.slice (some ⟨b, off, none⟩) n c) /\ W.cell? ⟨b, off + k * 2, none⟩ = some (.slice q3 4 m3) /\ W.cell? ⟨b, off + k * 2 + 1, none⟩ = some (.int .i64 z))) (by kernel_rfl) ⟨yb, d0, d1⟩ (fun hHeld => ?_); refine tkD9 (some 15) 0 ?vac1 rfl (by kernel_rfl) (by kernel_rfl) (fun _ _ _ h => h) (Or.inl ⟨by rfl, ?hyac1⟩) (by assumption) ?rac1
   case hyac1 => intro w hSw; (try dsimp only at hSw); go_simp; first | done | with_reducible rfl
   case' rac1 => try simp only [Act.put, sA9, sZ9, sS9]
   refine tkD9 (some 17) 2 ?vac2 rfl (by kernel_rfl) (by kernel_rfl) (fun _ _ _ h => h) (Or.inl ⟨by rfl, ?hyac2⟩) (by assumption) ?rac2
   case hyac2 => intro w hSw; (try dsimp only at hSw); go_simp; first | done | with_reducible rfl
   case' rac2 => try simp only [Act.put, sA9, sZ9, sS9]
   refine tkD9 (some 18) 3 ?vac3 rfl (by kernel_rfl) (by kernel_rfl) (fun _ _ _ h => h) (Or.inl ⟨by rfl, ?hyac3⟩) (by assumption) ?rac3
   case hyac3 => intro w hSw; (try dsimp only at hSw); go_simp; first | done | with_reducible rfl
   case' rac3 => try simp only [Act.put, sA9, sZ9, sS9]
   refine tkD9 (some 19) 4 ?vac4 rfl (by kernel_rfl) (by kernel_rfl) (fun _ _ _ h => h) (Or.inl ⟨by rfl, ?hyac4⟩) (by assumption) ?rac4
   case hyac4 => intro w hSw; (try dsimp only at hSw); go_simp; first | done | with_reducible rfl
   case' rac4 => try simp only [Act.put, sA9, sZ9, sS9]
   refine tkD9 (some 20) 5 ?vac5 rfl (by kernel_rfl) (by kernel_rfl) (fun _ _ _ h => h) (Or.inl ⟨by rfl, ?hyac5⟩) (by assumption) ?rac5
   case hyac5 => intro w hSw; (try dsimp only at hSw); go_simp; first | done | with_reducible rfl
   case' rac5 => try simp only [Act.put, sA9, sZ9, sS9]
   refine tkD9 (some 21) 6 ?vac6 rfl (by kernel_rfl) (by kernel_rfl) (fun _ _ _ h => h) (Or.inl ⟨by rfl, ?hyac6⟩) (by assumption) ?rac6
   case hyac6 => intro w hSw; (try dsimp only at hSw); go_simp; first | done | with_reducible rfl
   case' rac6 => try simp only [Act.put, sA9, sZ9, sS9]
   refine wpAnyH_ready (rs := [1, 7]) (by kernel_rfl) (by simp) ?_; refine AllReadyH.cons rfl (fun K9 hK => ?_) (AllReadyH.cons rfl (fun K9 hK => ?_) AllReadyH.nil)
   ·skip
    go_simp; refine hK.out _ _ ⟨yb, d0, d1⟩ (fun hHac7 => ?_); clear hK K9
    try simp only [Act.put, sA9, sZ9, sS9]
    refine wpAnyH_ready (rs := [7]) (by kernel_rfl) (by simp) ?_; refine AllReadyH.cons rfl (fun K9 hK => ?_) AllReadyH.nil
    (go_simp; refine (jXC _ xa xb xc xd z _ ((HR.o.ext HEA.o).ext (Ext.refl wq).drew)).mono ?_; rintro e w1 ⟨⟨p1, c1', rfl, hv1⟩, hE1⟩; have X1 : Ext wq w1 := (Ext.refl wq).drew.trans hE1; have xg1' := X1.keep xg1; have EB := X1.alloc (.cells #[.slice p1 4 c1', .int .i64 z] 176); have xg1'' := EB.keep xg1; have hl1 : w.heap.size + 2 < w1.heap.size := Nat.lt_of_lt_of_le hlgx X1.size_le)
    refine hK.out _ _ ⟨X1.keep yb, X1.keep d0, X1.keep d1⟩ (fun hHac8 => ?_); clear hK K9
    try simp only [Act.put, sA9, sZ9, sS9]
    refine wpAnyH_ready (rs := [8]) (by kernel_rfl) (by simp) ?_; refine AllReadyH.cons rfl (fun K9 hK => ?_) AllReadyH.nil; go_simp; refine hK.out _ _ ⟨EB.keep yb, EB.keep d0, EB.keep d1⟩ (fun hHac9 => ?_); clear hK K9
    try simp only [Act.put, sA9, sZ9, sS9]
    refine wpAnyH_ready (rs := [9]) (by kernel_rfl) (by simp) ?_; refine AllReadyH.cons rfl (fun K9 hK => ?_) AllReadyH.nil
    (obtain ⟨vs, ho, he⟩ := jZ8.ext HV.o EB; rw [HTL.o] at ho; have hvl := ho.1; refine step_append_lies _ rfl (.tmp 16) (.tmp 23) 172 rfl W0.heap.size 176 i1 (.agg #[.slice none 0 0, .int .i64 0]) 2 32 jXN ha hy0 hy1 hy2 rfl (by decide) (.slice pv k cv) k vs rfl ho ⟨w1.heap.size, 0, none⟩ 1 1 [.slice p1 4 c1', .int .i64 z] rfl rfl (jXi rfl) (by intro u hu; simp at hu; rcases hu with rfl | rfl <;> rfl) (by omega) (by unfold maxLen; omega) (by omega) (by have := X1.size_le; simp <;> omega) _ rfl ?_; intro gn cn w4 hown' hgrow' hgeq' hltg; have htag := jZx ho; have GX4 := jX6 (EB.blk HX.o) hgrow' htag (by decide); obtain ⟨y0', y1', f0', f1'⟩ := blk2 GX4; have hDr := (HD.o.ext EB).fresh hgrow' (fun b hb => (ho.lt b hb).1); have E4 : Ext wA w4 := hDr.ext0 E0.o (by omega); have hres : jZ8 W0.heap.size w4 (.slice (some ⟨gn, 0, none⟩) (k + 1) cn) (subs.take k ++ [([xa, xb, xc, xd], z)]) := jZ9.push (R := AffO) (fun h a b => AffO.grow h a b) HTL.o he hvl hown' hgrow' htag ⟨(hv1.weak (by have := HD.o.size; simp; omega)).ext ((Ext.refl w1).alloc _), rfl⟩; have E5 := E4.setCell (p := ⟨w.heap.size + 2, 1, none⟩) (by simp; omega) (.slice (some ⟨gn, 0, none⟩) (k + 1) cn))
    refine hK.out _ _ ⟨E4.keep YB.o, E4.keep C0.o, E4.keep C1.o⟩ (fun hHac10 => ?_); clear hK K9
    try simp only [Act.put, sA9, sZ9, sS9]
    refine tkD9 (some 25) 10 ?vac11 rfl (by kernel_rfl) (by kernel_rfl) (fun _ _ _ h => h) (Or.inl ⟨by rfl, ?hyac11⟩) (by assumption) ?rac11
    case hyac11 => intro w hSw; (try dsimp only at hSw); go_simp; first | done | with_reducible rfl
    case' rac11 => try simp only [Act.put, sA9, sZ9, sS9]
    refine wpAnyH_ready (rs := [11]) (by kernel_rfl) (by simp) ?_; refine AllReadyH.cons rfl (fun K9 hK => ?_) AllReadyH.nil; go_simp; refine hK.out _ _ ⟨E5.keep YB.o, E5.keep C0.o, E5.keep C1.o⟩ (fun hHac12 => ?_); clear hK K9
    try simp only [Act.put, sA9, sZ9, sS9]
    refine wpAnyH_done (by kernel_rfl) ?_ _; rw [<- jZ6 HXX.o] at hres; have HRS := hid (jZ8.tag hres (jZJ w4 (w.heap.size + 2) 1 (.slice (some ⟨gn, 0, none⟩) (k + 1) cn)) (Tag.blk GX4) (by decide) (by decide)); have HDD := hid (Dr.trans hDr (jZJ w4 (w.heap.size + 2) 1 (.slice (some ⟨gn, 0, none⟩) (k + 1) cn))); have HGX := hid (jX7 (c := .slice (some ⟨gn, 0, none⟩) (k + 1) cn) GX4); clear hres hDr GX4 htag X1 EB xg1' xg1'' E4 E5 y0' y1' f0' f1'; go_wp2; go_roundw
    case rel => exact ⟨k + 1, _, by omega, by go_num, HGX.o, HRS.o, HDD.o⟩
    case measure => simp [intOf]; omega
   ·skip
    (go_simp; refine (jXC _ xa xb xc xd z _ ((HR.o.ext HEA.o).ext (Ext.refl wq).drew)).mono ?_; rintro e w1 ⟨⟨p1, c1', rfl, hv1⟩, hE1⟩; have X1 : Ext wq w1 := (Ext.refl wq).drew.trans hE1; have xg1' := X1.keep xg1; have EB := X1.alloc (.cells #[.slice p1 4 c1', .int .i64 z] 176); have xg1'' := EB.keep xg1; have hl1 : w.heap.size + 2 < w1.heap.size := Nat.lt_of_lt_of_le hlgx X1.size_le)
    refine hK.out _ _ ⟨X1.keep yb, X1.keep d0, X1.keep d1⟩ (fun hHac13 => ?_); clear hK K9
    try simp only [Act.put, sA9, sZ9, sS9]
    refine wpAnyH_ready (rs := [1, 8]) (by kernel_rfl) (by simp) ?_; refine AllReadyH.cons rfl (fun K9 hK => ?_) (AllReadyH.cons rfl (fun K9 hK => ?_) AllReadyH.nil)
    ·skip
     go_simp; refine hK.out _ _ ⟨X1.keep yb, X1.keep d0, X1.keep d1⟩ (fun hHac14 => ?_); clear hK K9
     try simp only [Act.put, sA9, sZ9, sS9]
     refine wpAnyH_ready (rs := [8]) (by kernel_rfl) (by simp) ?_; refine AllReadyH.cons rfl (fun K9 hK => ?_) AllReadyH.nil; go_simp; refine hK.out _ _ ⟨EB.keep yb, EB.keep d0, EB.keep d1⟩ (fun hHac15 => ?_); clear hK K9
     try simp only [Act.put, sA9, sZ9, sS9]
     refine wpAnyH_ready (rs := [9]) (by kernel_rfl) (by simp) ?_; refine AllReadyH.cons rfl (fun K9 hK => ?_) AllReadyH.nil
     (obtain ⟨vs, ho, he⟩ := jZ8.ext HV.o EB; rw [HTL.o] at ho; have hvl := ho.1; refine step_append_lies _ rfl (.tmp 16) (.tmp 23) 172 rfl W0.heap.size 176 i1 (.agg #[.slice none 0 0, .int .i64 0]) 2 32 jXN ha hy0 hy1 hy2 rfl (by decide) (.slice pv k cv) k vs rfl ho ⟨w1.heap.size, 0, none⟩ 1 1 [.slice p1 4 c1', .int .i64 z] rfl rfl (jXi rfl) (by intro u hu; simp at hu; rcases hu with rfl | rfl <;> rfl) (by omega) (by unfold maxLen; omega) (by omega) (by have := X1.size_le; simp <;> omega) _ rfl ?_; intro gn cn w4 hown' hgrow' hgeq' hltg; have htag := jZx ho; have GX4 := jX6 (EB.blk HX.o) hgrow' htag (by decide); obtain ⟨y0', y1', f0', f1'⟩ := blk2 GX4; have hDr := (HD.o.ext EB).fresh hgrow' (fun b hb => (ho.lt b hb).1); have E4 : Ext wA w4 := hDr.ext0 E0.o (by omega); have hres : jZ8 W0.heap.size w4 (.slice (some ⟨gn, 0, none⟩) (k + 1) cn) (subs.take k ++ [([xa, xb, xc, xd], z)]) := jZ9.push (R := AffO) (fun h a b => AffO.grow h a b) HTL.o he hvl hown' hgrow' htag ⟨(hv1.weak (by have := HD.o.size; simp; omega)).ext ((Ext.refl w1).alloc _), rfl⟩; have E5 := E4.setCell (p := ⟨w.heap.size + 2, 1, none⟩) (by simp; omega) (.slice (some ⟨gn, 0, none⟩) (k + 1) cn))
     refine hK.out _ _ ⟨E4.keep YB.o, E4.keep C0.o, E4.keep C1.o⟩ (fun hHac16 => ?_); clear hK K9
     try simp only [Act.put, sA9, sZ9, sS9]
     refine tkD9 (some 25) 10 ?vac17 rfl (by kernel_rfl) (by kernel_rfl) (fun _ _ _ h => h) (Or.inl ⟨by rfl, ?hyac17⟩) (by assumption) ?rac17
     case hyac17 => intro w hSw; (try dsimp only at hSw); go_simp; first | done | with_reducible rfl
     case' rac17 => try simp only [Act.put, sA9, sZ9, sS9]
     refine wpAnyH_ready (rs := [11]) (by kernel_rfl) (by simp) ?_; refine AllReadyH.cons rfl (fun K9 hK => ?_) AllReadyH.nil; go_simp; refine hK.out _ _ ⟨E5.keep YB.o, E5.keep C0.o, E5.keep C1.o⟩ (fun hHac18 => ?_); clear hK K9
     try simp only [Act.put, sA9, sZ9, sS9]
     refine wpAnyH_done (by kernel_rfl) ?_ _; rw [<- jZ6 HXX.o] at hres; have HRS := hid (jZ8.tag hres (jZJ w4 (w.heap.size + 2) 1 (.slice (some ⟨gn, 0, none⟩) (k + 1) cn)) (Tag.blk GX4) (by decide) (by decide)); have HDD := hid (Dr.trans hDr (jZJ w4 (w.heap.size + 2) 1 (.slice (some ⟨gn, 0, none⟩) (k + 1) cn))); have HGX := hid (jX7 (c := .slice (some ⟨gn, 0, none⟩) (k + 1) cn) GX4); clear hres hDr GX4 htag X1 EB xg1' xg1'' E4 E5 y0' y1' f0' f1'; go_wp2; go_roundw
     case rel => exact ⟨k + 1, _, by omega, by go_num, HGX.o, HRS.o, HDD.o⟩
     case measure => simp [intOf]; omega
    ·skip
     go_simp; refine hK.out _ _ ⟨EB.keep yb, EB.keep d0, EB.keep d1⟩ (fun hHac19 => ?_); clear hK K9
     try simp only [Act.put, sA9, sZ9, sS9]
     refine wpAnyH_ready (rs := [1]) (by kernel_rfl) (by simp) ?_; refine AllReadyH.cons rfl (fun K9 hK => ?_) AllReadyH.nil; go_simp; refine hK.out _ _ ⟨EB.keep yb, EB.keep d0, EB.keep d1⟩ (fun hHac20 => ?_); clear hK K9
     try simp only [Act.put, sA9, sZ9, sS9]
     refine wpAnyH_ready (rs := [9]) (by kernel_rfl) (by simp) ?_; refine AllReadyH.cons rfl (fun K9 hK => ?_) AllReadyH.nil
     (obtain ⟨vs, ho, he⟩ := jZ8.ext HV.o EB; rw [HTL.o] at ho; have hvl := ho.1; refine step_append_lies _ rfl (.tmp 16) (.tmp 23) 172 rfl W0.heap.size 176 i1 (.agg #[.slice none 0 0, .int .i64 0]) 2 32 jXN ha hy0 hy1 hy2 rfl (by decide) (.slice pv k cv) k vs rfl ho ⟨w1.heap.size, 0, none⟩ 1 1 [.slice p1 4 c1', .int .i64 z] rfl rfl (jXi rfl) (by intro u hu; simp at hu; rcases hu with rfl | rfl <;> rfl) (by omega) (by unfold maxLen; omega) (by omega) (by have := X1.size_le; simp <;> omega) _ rfl ?_; intro gn cn w4 hown' hgrow' hgeq' hltg; have htag := jZx ho; have GX4 := jX6 (EB.blk HX.o) hgrow' htag (by decide); obtain ⟨y0', y1', f0', f1'⟩ := blk2 GX4; have hDr := (HD.o.ext EB).fresh hgrow' (fun b hb => (ho.lt b hb).1); have E4 : Ext wA w4 := hDr.ext0 E0.o (by omega); have hres : jZ8 W0.heap.size w4 (.slice (some ⟨gn, 0, none⟩) (k + 1) cn) (subs.take k ++ [([xa, xb, xc, xd], z)]) := jZ9.push (R := AffO) (fun h a b => AffO.grow h a b) HTL.o he hvl hown' hgrow' htag ⟨(hv1.weak (by have := HD.o.size; simp; omega)).ext ((Ext.refl w1).alloc _), rfl⟩; have E5 := E4.setCell (p := ⟨w.heap.size + 2, 1, none⟩) (by simp; omega) (.slice (some ⟨gn, 0, none⟩) (k + 1) cn))
     refine hK.out _ _ ⟨E4.keep YB.o, E4.keep C0.o, E4.keep C1.o⟩ (fun hHac21 => ?_); clear hK K9
     try simp only [Act.put, sA9, sZ9, sS9]
     refine tkD9 (some 25) 10 ?vac22 rfl (by kernel_rfl) (by kernel_rfl) (fun _ _ _ h => h) (Or.inl ⟨by rfl, ?hyac22⟩) (by assumption) ?rac22
     case hyac22 => intro w hSw; (try dsimp only at hSw); go_simp; first | done | with_reducible rfl
     case' rac22 => try simp only [Act.put, sA9, sZ9, sS9]
     refine wpAnyH_ready (rs := [11]) (by kernel_rfl) (by simp) ?_; refine AllReadyH.cons rfl (fun K9 hK => ?_) AllReadyH.nil; go_simp; refine hK.out _ _ ⟨E5.keep YB.o, E5.keep C0.o, E5.keep C1.o⟩ (fun hHac23 => ?_); clear hK K9
     try simp only [Act.put, sA9, sZ9, sS9]
     refine wpAnyH_done (by kernel_rfl) ?_ _; rw [<- jZ6 HXX.o] at hres; have HRS := hid (jZ8.tag hres (jZJ w4 (w.heap.size + 2) 1 (.slice (some ⟨gn, 0, none⟩) (k + 1) cn)) (Tag.blk GX4) (by decide) (by decide)); have HDD := hid (Dr.trans hDr (jZJ w4 (w.heap.size + 2) 1 (.slice (some ⟨gn, 0, none⟩) (k + 1) cn))); have HGX := hid (jX7 (c := .slice (some ⟨gn, 0, none⟩) (k + 1) cn) GX4); clear hres hDr GX4 htag X1 EB xg1' xg1'' E4 E5 y0' y1' f0' f1'; go_wp2; go_roundw
     case rel => exact ⟨k + 1, _, by omega, by go_num, HGX.o, HRS.o, HDD.o⟩
     case measure => simp [intOf]; omega
  ·obtain rfl : k = n := by omega
   have hal : subs.take k = subs := List.take_of_length_le (by rw [HN.o]; omega); have HVA : Hid (jZ8 W0.heap.size wq (.slice pv k cv) subs) := hid (by have h := HV.o; rw [hal] at h; exact h); obtain ⟨xg0, xg1, fg0, fg1⟩ := blk2 HX.o; have hEW0 : Ext W0 W0 := Ext.refl _; have RR := jZg HD.o R0.o (fun e => by simp at e); obtain ⟨r0, r1, rf0, rf1⟩ := blk2 RR; have HRR := hid RR; have HE := hid (EA.o.trans HEA.o); have hl2 := lt_of_block RR; clear hal hEW0 RR; go_wp2; obtain ⟨WF, hWF⟩ : ∃ WF, ((wq.setCell ⟨w.heap.size + 1, 0, none⟩ (.string arr)).setCell ⟨w.heap.size + 1, 1, none⟩ (.slice pv k cv)) = WF := ⟨_, rfl⟩; have HIF : Hid (jZ8 W0.heap.size WF (.slice pv k cv) subs) := hid (by rw [<- hWF]; exact (HVA.o.setOld (by simp; omega) _).setOld (by simp; omega) _); have HEF : Hid (Ext w WF) := hid (by rw [<- hWF]; exact (HE.o.setCell (by simp) _).setCell (by simp) _); have RF : WF.heap[w.heap.size + 1]? = some (.cells #[.string arr, .slice pv k cv] 174 (0, 0)) := by rw [<- hWF]; exact jZI HRR.o
   rw [hWF]; obtain ⟨rr0, rr1, -, -⟩ := blk2 RF; exact bodyPost_ret (v := .agg #[.string arr, .slice pv k cv]) (by simp [results, Tryz.results267, go_sem, rr0, rr1]) rfl ⟨⟨_, _, rfl, HIF.o.weak (by rw [HS0.o]; omega)⟩, HEF.o⟩
end Go.Proofs.YtklehkkclojccaaGreat

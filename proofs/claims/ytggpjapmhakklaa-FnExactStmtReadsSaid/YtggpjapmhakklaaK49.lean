/- The texts Ra Rm, joined. No statement is proved here. -/
import Derived.Test.YtggpjapmhakklaaK25
import Derived.Test.YtggpjapmhakklaaK28
import Derived.Test.YtggpjapmhakklaaK35
import Derived.Test.YtggpjapmhakklaaK19
/- Subscripts handed back in new memory, with their blocks: affines and the access of an element; the model's StmtReads. No statement is proved here. -/
namespace Go.Proofs.Ytggpjapmhakklaa
open Go.RowKit Go.Maps

theorem Kp.of_lv {D : Nat → Prop} {w w' : World} (F : List Nat) (h : Lv D w w') (hd : ∀ b ∈ F, ¬ D b) : ∃ G, Kp G w w' ∧ ∀ x ∈ F, x ∉ G :=
  ⟨(List.range w.heap.size).filter (fun b => decide (b ∉ F)), ⟨h.os, h.tape, h.output, h.size, fun b hb hn => h.block b hb (fun hD => hn (List.mem_filter.2 ⟨List.mem_range.2 hb, by simpa using fun hF => hd b hF hD⟩))⟩, fun x hx hG => by have := (List.mem_filter.1 hG).2; simp [hx] at this⟩
theorem AccsF.lv {D : Nat → Prop} {B : Nat} {w w' : World} {v : Value} {xs : List Acc} {F : List Nat} (h : AccsF B w v xs F) (hl : Lv D w w') (hd : ∀ b ∈ F, ¬ D b) : AccsF B w' v xs F := by
  obtain ⟨G, hG, hn⟩ := Kp.of_lv F hl hd
  exact h.kp hG hn
theorem own_toList_nodup (v : Value) : v.ownBlock.toList.Nodup := by cases v.ownBlock <;> simp

/-- What a list of expressions needs to be one longer. -/
theorem AffsF.push1 {B n c m : Nat} {w1 w4 : World} {p : Option Addr} {v' u0 : Value} {zs : List Aff} {x : Aff} {F : List Nat} {vs : List Value} {Fs : List (List Nat)}
    (hxn : zs.length = n) (hl : Fs.length = zs.length) (hF : F = (Value.slice p n c).ownBlock.toList ++ Fs.flatten) (hn : F.Nodup)
    (he : ∀ i y, zs[i]? = some y → ∃ u0 u1 Fi, vs[i * 2]? = some u0 ∧ vs[i * 2 + 1]? = some u1 ∧ Fs[i]? = some Fi ∧ AffF B w1 u0 u1 y Fi) (hvl : vs.length = n * 2)
    (ho' : w4.ownsRow B 45 2 v' (n + 1) (vs ++ [u0, .int .i64 x.2])) (hg : w1.grownBy w4 (Value.slice p n c).ownBlock) (hat : v'.ownBlock = (Value.slice p n c).ownBlock ∨ v'.ownBlock = some w1.heap.size)
    (hi : IntsOwn B w1 u0 x.1) (hm : ∀ y ∈ F, y < m) (hd : ∀ b, u0.ownBlock = some b → m ≤ b) (hmd : m ≤ w1.heap.size) : ∃ F', AffsF B w4 v' (zs ++ [x]) F' ∧ ∀ y ∈ F', y < w4.heap.size := by
  have hx : AffF B w1 u0 (.int .i64 x.2) x u0.ownBlock.toList := ⟨⟨hi, rfl⟩, rfl⟩
  exact PairsF.push (T := 45) (R := AffF) (fun h hk hd => AffF.kp h hk hd) hxn hl hF hn he hvl ho' hg hat hx (own_toList_nodup _)
    (fun y hy hyF => by rw [Option.mem_toList] at hy; have := hd y hy; have := hm y hyF; omega) (fun y hy => by have := hm y hy; omega) (fun y hy => by rw [Option.mem_toList] at hy; exact (World.ownsRow.lt hi y hy).2)

set_option maxRecDepth 100000 in
set_option maxHeartbeats 2000000 in
theorem affines_F (Bs : Nat) (p : Option Addr) (n c : Nat) (zs : List Aff) (w : World) (hn : zs.length = n) (hs : LinsOwn Bs w (.slice p n c) zs) (h2 : n ≤ 1000) :
    Calls Try.prog 82 #[.slice p n c] w fun e w' => (∃ q d F, e = .returned (.slice q n d) ∧ AffsF w.heap.size w' (.slice q n d) zs F ∧ ∀ y ∈ F, y < w'.heap.size) ∧ Ext w w' := by
  obtain ⟨i0, hi, hz0, hz1, hz2⟩ := info_parts infoAff
  have HS := Lib.hid hs; have HN := Lib.hid hn; clear hs hn
  go_enter Try.func82, Try.ntmps82
  go_wp2
  go_loopw [3, 10] (fun v i wr => ∃ k : Nat, k ≤ n ∧ i = .int .i64 k ∧ (∃ F, AffsF w.heap.size wr v (zs.take k) F ∧ ∀ y ∈ F, y < wr.heap.size) ∧ Ext w wr) (fun _ i _ => n - (intOf i).toNat)
  case atStart => exact ⟨0, by omega, rfl, ⟨[], AffsF.nil _ _, fun y hy => by cases hy⟩, Ext.refl w⟩
  case round =>
    obtain ⟨k, hk, rfl, ⟨F, hF, hFl⟩, hE⟩ := hrel
    have htl : (zs.take k).length = k := by rw [List.length_take, HN.out]; omega
    obtain ⟨pv, cv, rfl⟩ := PairsF.slice hF
    have HTL := Lib.hid htl
    rw [htl] at hF ⊢
    clear htl
    by_cases hlt : k < n
    · obtain ⟨x, hx⟩ := get_some (xs := zs) (k := k) (by rw [HN.out]; exact hlt)
      obtain ⟨g, a, b, cc, d, kk, rfl, hva, rfl, hg, c0, c1, c2, c3, c4⟩ := (HS.out.ext hE).get hx
      have HX := Lib.hid hx; have HVA := Lib.hid hva; have HF := Lib.hid hF; have HFL := Lib.hid hFl; have HE := Lib.hid hE; clear hx hva hF hFl hE
      go_wp2_with (fail)
      refine (affine_yes a b cc d kk _ HVA.out).mono ?_
      rintro e W1 ⟨⟨pa, ca, rfl, ho1⟩, hE1⟩
      have g1 := ((Ext.refl wr).alloc _).trans hE1
      have hsz1 : wr.heap.size + 1 ≤ W1.heap.size := by have := hE1.size_le; simpa using this
      clear hE1 c0 c1 c2 c3 c4
      obtain ⟨W2, hW2⟩ : ∃ W2, (W1.alloc (.cells #[.slice pa 4 ca, .int .i64 kk] 45)).alloc (.cells #[.slice pa 4 ca, .int .i64 kk] 45) = W2 := ⟨_, rfl⟩
      have E12 : Ext W1 W2 := by rw [← hW2]; exact ((Ext.refl W1).alloc _).alloc _
      have HO2 : Hid (IntsOwn wr.heap.size W2 (.slice pa 4 ca) [a, b, cc, d]) := Lib.hid ((ho1.weak (by simp)).ext E12)
      have HD : Hid (∀ bb, (Value.slice pa 4 ca).ownBlock = some bb → wr.heap.size ≤ bb) := Lib.hid (fun bb hb => (World.ownsRow.lt HO2.out bb hb).1)
      have B2 : W2.heap[W1.heap.size + 1]? = some (.cells #[.slice pa 4 ca, .int .i64 kk] 45 (0, 0)) := by rw [← hW2]; exact blk_at (by simp)
      have HF2 := Lib.hid (AffsF.kp HF.out (Kp.of_ext (F := []) (g1.trans E12)) (by simp))
      have hs2 : W2.heap.size = W1.heap.size + 1 + 1 := by rw [← hW2]; simp
      have HE2 := Lib.hid (HE.out.trans (g1.trans E12))
      have hbs := HE.out.size_le
      clear HF ho1
      obtain ⟨vs, Fs, ho, hl, hFe, hFn, he⟩ := HF2.out
      have HHE := Lib.hid he; have HFE := Lib.hid hFe; have HFN := Lib.hid hFn; have HHL := Lib.hid hl
      clear he hFe hFn hl
      rw [HTL.out] at ho
      have hvl := ho.1
      obtain ⟨b20, b21, -, -⟩ := blk2 B2
      go_wp2_with (at_builtin; (try rw [hW2]); refine wpList_append_own_at _ rfl (.tmp 19) (.tmp 21) 42 rfl w.heap.size 45 i0 (.agg #[.slice none 0 0, .int .i64 0]) 2 32 Try.underlying42 hi hz0 hz1 hz2 rfl (by decide) (.slice pv k cv) k vs rfl ho ⟨W1.heap.size + 1, 0, none⟩ 1 1 [.slice pa 4 ca, .int .i64 kk] rfl rfl ?c1 ?c2 ?c3 ?c4 ?c5 ?_)
      case c1 =>
        intro q u hq
        match q, hq with
        | 0, hq => simp at hq; subst hq; simpa [Addr.add] using b20
        | 1, hq => simp at hq; subst hq; simpa [Addr.add] using b21
      case c2 => intro u hu; simp at hu; rcases hu with rfl | rfl <;> rfl
      case c3 => unfold maxLen; omega
      case c4 => omega
      case c5 => omega
      intro v' w4 hown' hgrow _ hat
      obtain ⟨F', hF', hF'lt⟩ := AffsF.push1 (x := ([a, b, cc, d], kk)) (m := wr.heap.size) HTL.out HHL.out HFE.out HFN.out HHE.out hvl hown' hgrow (by rw [hs2]; exact hat) (HO2.out.weak (by omega)) HFL.out HD.out (by omega)
      have hEw4 : Ext w w4 := HE2.out.grown hgrow (fun b hb => (ho.lt b hb).1)
      rw [← take_next HX.out] at hF'
      have HF4 := Lib.hid hF'; have HLT := Lib.hid hF'lt; have HE4 := Lib.hid hEw4
      clear hF' hF'lt hEw4 hown' hgrow hat ho HF2 HHE HFE HFN HHL hvl B2 b20 b21 hW2
      go_wp2
      go_roundw
      case rel => exact ⟨k + 1, by omega, by go_num, ⟨F', HF4.out, HLT.out⟩, HE4.out⟩
      case measure => simp [intOf]; omega
    · have e : k = n := by omega
      subst e
      rw [List.take_of_length_le (by rw [HN.out]; omega)] at hF
      have HF := Lib.hid hF; have HFL := Lib.hid hFl; have HE := Lib.hid hE; clear hF hFl hE
      go_wp2
      go_ret
      exact ⟨⟨pv, cv, F, rfl, HF.out, HFL.out⟩, HE.out⟩

set_option maxRecDepth 100000 in
set_option maxHeartbeats 2000000 in
theorem access_F (Bs : Nat) (arr : ByteArray) (p : Option Addr) (n c : Nat) (zs : List Aff) (w : World) (hn : zs.length = n) (hs : LinsOwn Bs w (.slice p n c) zs) (h2 : n ≤ 1000) :
    Calls Try.prog 51 #[.agg #[.string arr, .slice p n c]] w fun e w' => (∃ q d F, e = .returned (.agg #[.string arr, .slice q n d]) ∧ AffsF w.heap.size w' (.slice q n d) zs F ∧ ∀ y ∈ F, y < w'.heap.size) ∧ Ext w w' := by
  have HS := Lib.hid hs; have HN := Lib.hid hn; clear hs hn
  go_enter Try.func51, Try.ntmps51
  go_wp2_with (fail)
  obtain ⟨W0, hW0⟩ : ∃ W0, (w.alloc (.cells #[.string arr, .slice p n c] 84)).alloc (.cells #[.string ⟨#[]⟩, .slice none 0 0] 44) = W0 := ⟨_, rfl⟩
  have E0 : Hid (Ext w W0) := Lib.hid (by rw [← hW0]; exact ((Ext.refl w).alloc _).alloc _)
  have y0 : W0.heap[w.heap.size]? = some (.cells #[.string arr, .slice p n c] 84 (0, 0)) := by rw [← hW0]; exact blk_old (blk_at rfl)
  have y1 : W0.heap[w.heap.size + 1]? = some (.cells #[.string ⟨#[]⟩, .slice none 0 0] 44 (0, 0)) := by rw [← hW0]; exact blk_at (by simp)
  have hs0 : W0.heap.size = w.heap.size + 2 := by rw [← hW0]; simp
  rw [hW0]
  clear hW0
  obtain ⟨x0, x1, -, -⟩ := blk2 y0
  have HL := Lib.hid (HS.out.ext E0.out)
  have Y1 := Lib.hid y1
  have HS0 := Lib.hid hs0
  clear y0 y1 hs0
  generalize hg0 : w.heap.size = g0 at *
  have HG0 := Lib.hid hg0; clear hg0
  go_region_held3 (fun W => W.cell? ⟨g0, 0, none⟩ = some (.string arr) ∧ W.cell? ⟨g0, 1, none⟩ = some (.slice p n c))
    (first | exact ⟨x0, x1⟩ | exact ⟨g3.keep x0, g3.keep x1⟩ | exact ⟨by rw [World.cell?_setCell_other _ _ _ _ (by simp), World.cell?_setCell_other _ _ _ _ (by simp)]; exact g3.keep x0, by rw [World.cell?_setCell_other _ _ _ _ (by simp), World.cell?_setCell_other _ _ _ _ (by simp)]; exact g3.keep x1⟩ | fail)
    (first | (go_at_call 82; (with_reducible refine (affines_F Bs p n c zs _ HN.out (HL.out.ext (Ext.refl W0).drew) h2).mono ?_); rintro e w3 ⟨⟨q, d, F, rfl, hF, hFl⟩, hE3⟩; have g3 := (Ext.refl W0).drew.trans hE3; have z1 := g3.blk Y1.out; obtain ⟨f0, f1, ff0, ff1⟩ := blk2 z1) | fail)
  all_goals
    have zz := blk2_set (c := .string arr) (d := .slice q n d) z1
    have hge := AffsF.ge hF
    have hsz : W0.drew.heap.size = W0.heap.size := rfl
    have hsw := g3.size_le
    have KK : Kp [g0 + 1] w3 ((w3.setCell ⟨g0 + 1, 0, none⟩ (.string arr)).setCell ⟨g0 + 1, 1, none⟩ (.slice q n d)) := (Kp.set w3 (g0 + 1) 0 _).trans (Kp.set _ (g0 + 1) 1 _)
    have HFF : Hid (AffsF g0 ((w3.setCell ⟨g0 + 1, 0, none⟩ (.string arr)).setCell ⟨g0 + 1, 1, none⟩ (.slice q n d)) (.slice q n d) zs F) := Lib.hid ((AffsF.kp hF KK (fun y hy h => by have h1 := hge y hy; have h2 := HS0.out; simp at h; omega)).weak (by have h2 := HS0.out; omega))
    have HFL : Hid (∀ y ∈ F, y < ((w3.setCell ⟨g0 + 1, 0, none⟩ (.string arr)).setCell ⟨g0 + 1, 1, none⟩ (.slice q n d)).heap.size) := Lib.hid (fun y hy => by simpa using hFl y hy)
    have HEE : Hid (Ext w ((w3.setCell ⟨g0 + 1, 0, none⟩ (.string arr)).setCell ⟨g0 + 1, 1, none⟩ (.slice q n d))) := Lib.hid (((E0.out.trans g3).setCell (by rw [HG0.out]; simp) _).setCell (by rw [HG0.out]; simp) _)
    obtain ⟨WF, hWF⟩ : ∃ WF, (w3.setCell ⟨g0 + 1, 0, none⟩ (.string arr)).setCell ⟨g0 + 1, 1, none⟩ (.slice q n d) = WF := ⟨_, rfl⟩
    rw [hWF] at zz HFF HFL HEE ⊢
    obtain ⟨r0, r1, -, -⟩ := blk2 zz
    clear hWF zz KK hge hF hFl hE3 f0 f1 ff0 ff1 x0 x1
    go_wp2
    exact bodyPost_ret (v := .agg #[.string arr, .slice q n d]) (by simp [results, Try.results51, go_sem, r0, r1]) rfl ⟨⟨q, d, F, rfl, by rw [HG0.out]; exact HFF.out, HFL.out⟩, HEE.out⟩
end Go.Proofs.Ytggpjapmhakklaa

/- The model's StmtReads. No statement is proved here. -/
namespace Go.Proofs.Ytggpjapmhakklaa
open Go.RowKit Go.Maps

theorem vshape {a : ByteArray} {su : List Aff} {e : Ex} {d : Int} (h : validB a su e d = true) : accB a su d = true ∧ shapeB 5 e d = true ∧ countE 5 e ≤ 12 := by
  simp only [validB, Bool.and_eq_true, decide_eq_true_eq] at h
  exact ⟨h.2.2.1, h.2.2.2.1, h.2.2.2.2⟩
theorem reads_ok2 {d : Int} : ∀ (L : Nat) (e : Ex), shapeB L e d = true → ∀ a ∈ readsE L e, accB a.1 a.2 d = true
  | 0, e, h => by simp [shapeB] at h
  | L + 1, e, h => by
    intro a ha
    have hk := shape_kids h
    simp only [readsE, List.mem_append, List.mem_flatMap] at ha
    rcases ha with ha | ⟨x, hx, ha⟩
    · split at ha
      · rename_i h3
        simp only [List.mem_singleton] at ha
        subst ha
        obtain ⟨kind, num, ix, arr, subs, kids⟩ := e
        simp only [Ex.kind, Ex.arr, Ex.subs] at *
        subst h3
        rw [shape_mk] at h
        simp only [Bool.and_eq_true] at h
        have h2 := h.2.1
        have h3 : ownF 3 num ix arr subs d = (decide (num = 0) && (noneB ix && accB arr subs d)) := rfl
        rw [h3] at h2
        simp only [Bool.and_eq_true] at h2
        exact h2.2.2
      · simp at ha
    · exact reads_ok2 L x (hk x hx) a ha
/-- The accesses that a statement reads. -/
def rdL (arr : ByteArray) (subs : List Aff) (e : Ex) : List Acc := if validB arr subs e 4 = true then readsE 5 e else []
theorem accs_empty (w : World) : AccsO w.heap.size (w.alloc (.cells #[] 44)) (.slice (some ⟨w.heap.size, 0, none⟩) 0 0) [] :=
  ⟨[], World.ownsRow_made (size := 2) (e := 44) w #[] 0 (Nat.le_refl _) (Nat.zero_le _) rfl, fun i x h => by simp at h⟩

set_option maxRecDepth 100000 in
set_option maxHeartbeats 1600000 in
theorem specStmtReads_any (v : Value) (arr : ByteArray) (subs : List Aff) (e : Ex) (w : World) (hs : StR w v arr subs e) :
    Calls Try.prog 24 #[v] w fun r w' => (∃ v', r = .returned v' ∧ AccsO w.heap.size w' v' (rdL arr subs e)) ∧ Ext w w' := by
  have HST := Lib.hid hs
  obtain ⟨q1, d1, q2, d2, q3, d3, q4, d4, rfl, ha, hs1, he⟩ := hs.parts
  obtain ⟨u', s', v', hcs, hu2, ha2, hs2, hv2⟩ := he.parts
  have HEX := Lib.hid he
  simp only [List.cons.injEq, and_true, true_and] at hcs
  obtain ⟨rfl, rfl, rfl⟩ := hcs
  clear hs hs1 he hu2 hs2 hv2
  have EA : Hid (Ext w (w.alloc (.cells #[.string arr, .slice q1 subs.length d1, .int .i64 e.kind, .int .i64 e.num, .slice q2 e.ix.1.length d2, .int .i64 e.ix.2, .string e.arr, .slice q3 e.subs.length d3, .slice q4 e.kids.length d4] 50))) := Lib.hid ((Ext.refl w).alloc _)
  have BA : Hid ((w.alloc (.cells #[.string arr, .slice q1 subs.length d1, .int .i64 e.kind, .int .i64 e.num, .slice q2 e.ix.1.length d2, .int .i64 e.ix.2, .string e.arr, .slice q3 e.subs.length d3, .slice q4 e.kids.length d4] 50)).heap[w.heap.size]? = some (.cells #[.string arr, .slice q1 subs.length d1, .int .i64 e.kind, .int .i64 e.num, .slice q2 e.ix.1.length d2, .int .i64 e.ix.2, .string e.arr, .slice q3 e.subs.length d3, .slice q4 e.kids.length d4] 50 (0, 0))) := Lib.hid (blk_at rfl)
  obtain ⟨vb, hvb⟩ : ∃ b, validB arr subs e 4 = b := ⟨_, rfl⟩
  have HVB := Lib.hid hvb
  go_enter Try.func24, Try.ntmps24
  go_wp2_with (fail)
  refine (specStmtValid_any _ arr subs e 4 _ (HST.out.ext EA.out)).mono ?_
  rw [hvb]
  rintro r W1 ⟨rfl, hE1⟩
  have E1 := Lib.hid (EA.out.trans hE1); have B1 := Lib.hid (hE1.blk BA.out); clear hE1 hvb
  cases vb with
  | false =>
    have HRD : Hid (rdL arr subs e = []) := Lib.hid (by unfold rdL; rw [if_neg (by rw [HVB.out]; decide)])
    go_wp2
    go_ret
    exact ⟨⟨_, rfl, by rw [HRD.out]; exact (accs_empty W1).weak E1.out.size_le⟩, E1.out.alloc _⟩
  | true =>
    have HRD : Hid (rdL arr subs e = readsE 5 e) := Lib.hid (by unfold rdL; rw [if_pos HVB.out])
    obtain ⟨-, hsh, hct⟩ := vshape HVB.out
    have HSH := Lib.hid hsh; have HCT := Lib.hid hct
    clear hsh hct
    obtain ⟨W2, hW2⟩ : ∃ W2, W1.alloc (.cells #[] 44) = W2 := ⟨_, rfl⟩
    have E2 : Ext W1 W2 := by rw [← hW2]; exact (Ext.refl W1).alloc _
    have B2 := E2.blk B1.out
    have HA2 : Hid (AccsO W1.heap.size W2 (.slice (some ⟨W1.heap.size, 0, none⟩) 0 0) []) := Lib.hid (by rw [← hW2]; exact accs_empty W1)
    have HX2 := Lib.hid (HEX.out.ext E1.out)
    obtain ⟨-, -, y2, y3, y4, y5, y6, y7, y8⟩ := blk9 B2
    have HE2 := Lib.hid E2
    have HEE := Lib.hid (E1.out.trans E2)
    have hsz := E1.out.size_le
    have hsz2 := E2.size_le
    clear E2 B2
    go_wp2_with (at_builtin; fail)
    all_goals try rw [hW2]
    refine (l3Reads_any 4 W1.heap.size 5 e _ W1 W2 _ [] HSH.out HX2.out HE2.out (Nat.le_refl _) hsz2 HA2.out (by have := HCT.out; simp; omega)).mono ?_
    rintro r W3 ⟨⟨v', rfl, ho⟩, hE3, -, -⟩
    have HO := Lib.hid ho; have HE3 := Lib.hid (E1.out.trans hE3)
    clear ho hE3 y2 y3 y4 y5 y6 y7 y8 hW2
    go_wp2
    go_ret
    exact ⟨⟨v', rfl, by rw [HRD.out]; exact (HO.out.weak hsz)⟩, HE3.out⟩
end Go.Proofs.Ytggpjapmhakklaa

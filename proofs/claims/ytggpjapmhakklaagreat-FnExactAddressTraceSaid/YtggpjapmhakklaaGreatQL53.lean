/- The texts G93, joined. No statement is proved here. -/
import Derived.Test.YtggpjapmhakklaaGreatQL52
set_option maxRecDepth 100000
set_option maxHeartbeats 8000000
set_option linter.unusedVariables false
set_option linter.unusedSimpArgs false
namespace Go.Proofs.YtggpjapmhakklaaGreat
open Go.Lib (hid)
open Go.RowKit Go.Maps
attribute [local go_sem] Oper.semAt_some
def AtI (wb : World) (LB : Nat) (s : List Int) (own : List Nat) (X : World) : Prop :=
 ∃ q k cap, own = LB :: (Value.slice q k cap).ownBlock.toList ∧ Lv (fun b => b = LB) wb X ∧ X.heap[LB]? = some (.cells #[.slice q k cap] 27 (0, 0)) ∧ s.length = k ∧ k ≤ 600 ∧ IntsOwn wb.heap.size X (.slice q k cap) s
def AtX (wb : World) (LB : Nat) (cd0 : Code) (cd : Code) (s : List Int) (own : List Nat) (X : World) : Prop :=
 cd = cd0 ∧ ∃ s' x, s = s' ++ [x] ∧ s'.length = 600 ∧ AtI wb LB s' own X
theorem AtI.stable (wb : World) (LB : Nat) : StableB wb.heap.size (AtI wb LB) := by
 rintro s own X X' ⟨q, k, cap, rfl, h1, h2, h3, h4, h5⟩ hv
 exact ⟨q, k, cap, rfl, h1.trans hv (fun _ _ h => h) (fun b hb h => by omega), hv.heap h2 (fun h => h.1 (by simp)), h3, h4, row_lv h5 hv (fun b hb h => h.1 (by simp [hb]))⟩
theorem AtX.stable (wb : World) (LB : Nat) (cd0 cd : Code) : StableB wb.heap.size (AtX wb LB cd0 cd) := by
 rintro s own X X' ⟨rfl, s', x, rfl, h1, h2⟩ hv
 exact ⟨rfl, s', x, rfl, h1, AtI.stable wb LB _ _ _ _ h2 hv⟩
theorem row_ty {B n size : Nat} {e : TypeId} {w : World} {v : Value} {xs : List Value} (h : w.ownsRow B e size v n xs) {g : Nat} {cs : Array Value} {t : TypeId} {z : Nat × Nat} (hg : w.heap[g]? = some (.cells cs t z)) (ht : t ≠ e) {b : Nat} (hb : v.ownBlock = some b) : b ≠ g := by
 rintro rfl
 rcases h.2 with ⟨rfl, _⟩ | ⟨g', cap, cur, rfl, _, hg', _⟩
 ·cases hb
 ·cases hb
  rw [hg'] at hg
  cases hg
  exact ht rfl
theorem AddressTrace_any (v : Value) (ars : List Arr) (ps : List Pt) (w : World) (hp : PrR w v ars ps) :
  Calls Tryz.prog 8 #[v] w fun e w' => (∃ v', e = .returned v' ∧ IntsOwn w.heap.size w' v' (atL ars ps)) ∧ Ext w w' := by
 obtain ⟨i0, hi, hz0, hz1, hz2⟩ := info_parts infoInt
 obtain ⟨qa, ca, qp, cp, rfl, -, -, ha, hps⟩ := hp.parts
 obtain ⟨na, hna⟩ : ∃ n, ars.length = n := ⟨_, rfl⟩
 obtain ⟨np, hnp⟩ : ∃ n, ps.length = n := ⟨_, rfl⟩
 rw [hna] at ha
 rw [hnp] at hps
 rw [hna, hnp]
 have HA := hid ha; have HPS := hid hps; have HNA := hid hna; have HNP := hid hnp
 clear hp ha hps hna hnp
 refine (callsIn_wide (n := 6)).1 ?_
 refine callsIn_of_wp_marks Tryz.func8 rfl trivial ?_ rfl
 simp only [Tryz.ntmps8, List.size_toArray, List.length_cons, List.length_nil, Nat.reduceAdd, Nat.reduceSub, Array.replicate_succ, Array.replicate_zero, List.push_toArray, List.append_toArray, List.nil_append, List.cons_append]
 have hdd : ∀ j : Nat, (Fence.wide.depth.isSome = true → 1 ≤ j) := fun j h => by cases h
 obtain ⟨g0, hg0⟩ : ∃ g0, w.heap.size = g0 := ⟨_, rfl⟩
 obtain ⟨W0, hW0⟩ : ∃ W0, w.alloc (.cells #[.slice qa na ca, .slice qp np cp] 32) = W0 := ⟨_, rfl⟩
 have E0 : Hid (Ext w W0) := hid (by rw [← hW0]; exact (Ext.refl w).alloc _)
 have B0 : W0.heap[g0]? = some (.cells #[.slice qa na ca, .slice qp np cp] 32 (0, 0)) := by rw [← hW0]; exact blk_at hg0.symm
 have HS0 : Hid (W0.heap.size = g0 + 1) := hid (by rw [← hW0]; simp [hg0])
 obtain ⟨y0, y1, -, -⟩ := blk2 B0
 clear B0
 gi_wp2_with (fail)
 try rw [hW0]
 try rw [hg0]
 have HG0 := hid hg0
 clear hW0 hg0
 refine ⟨trivial, ?_⟩
 refine (callsIn_wide.2 (programOf_any qa qp na ca np cp ars ps W0 HNA.out HNP.out (HA.out.ext E0.out) (HPS.out.ext E0.out))).mono ?_
 rintro e w1 ⟨⟨v, rfl, h0, h1⟩, hE⟩
 have HE := hid (E0.out.trans hE)
 have hform : ∃ mo T q1 n1 c1 q2 M c2, ∃ es : List Ev, v = .agg #[.map mo, .int .i64 T, .slice q1 n1 c1, .slice q2 M c2] ∧ es.length = M ∧ M ≤ 120 ∧ EvsOwn W0.heap.size w1 (.slice q2 M c2) es ∧ (∀ u ∈ es, u.2.1.length ≤ 1000) ∧ (evL es M).take 600 = atL ars ps := by
  cases hb : progB ars ps with
  | false => exact ⟨_, _, _, _, _, _, _, _, [], h0 hb, rfl, by omega, ⟨[], World.ownsRow_nil _ _ _ _, fun i x h => by simp at h⟩, by simp, by unfold atL; rw [hb]; rfl⟩
  | true =>
   obtain ⟨Bm, D, q1, c1, q2, c2, rfl, -, -, -, -, he⟩ := h1 hb
   have hl : (evsOf ars ps).length = (insM ps).length := by simp [evsOf]
   refine ⟨_, _, _, _, _, _, _, _, evsOf ars ps, rfl, rfl, by have := insM_120 hb; omega, he, fun u hu => ?_, ?_⟩
   ·refine evRd hb u.2 ?_
    rw [usesM_ev]
    exact List.mem_map.2 ⟨u, hu, rfl⟩
   ·unfold atL evL
    rw [if_pos hb, ← usesM_ev, hl]
 obtain ⟨mo, T, q1, n1, c1, q2, M, c2, es, rfl, hM, hM120, hev, hrl, hans⟩ := hform
 have HM := hid hM; have HEV := hid hev; have HANS := hid hans; have HRL := hid hrl
 obtain ⟨XB, hXB⟩ : ∃ XB, w1.heap.size = XB := ⟨_, rfl⟩
 have hXg : g0 + 1 ≤ XB := by rw [← hXB]; have := hE.size_le; have := HS0.out; omega
 obtain ⟨W2, hW2⟩ : ∃ W2, (w1.alloc (.cells #[.map mo, .int .i64 T, .slice q1 n1 c1, .slice q2 M c2] 57)).alloc (.cells #[.slice none 0 0] 27) = W2 := ⟨_, rfl⟩
 have hs2 : W2.heap.size = XB + 2 := by rw [← hW2]; simp [hXB]
 have E2 : Ext w1 W2 := by rw [← hW2]; exact ((Ext.refl w1).alloc _).alloc _
 have A2 : W2.heap[XB]? = some (.cells #[.map mo, .int .i64 T, .slice q1 n1 c1, .slice q2 M c2] 57 (0, 0)) := by rw [← hW2]; exact blk_old (blk_at hXB.symm)
 have P2 : W2.heap[XB + 1]? = some (.cells #[.slice none 0 0] 27 (0, 0)) := by rw [← hW2]; exact blk_at (by simp [hXB])
 have HE2 := hid (HE.out.trans E2); have HA2 := hid A2; have HP2 := hid P2; have HS2 := hid hs2; have HX := hid E2
 have HXB := hid hXB
 clear h0 h1 hE hM hev hans hrl E2 A2 P2 hs2 y0 y1
 obtain ⟨x0, x1, x2, x3, -⟩ := blk4f HA2.out
 gi_wp2_with (fail)
 try rw [hXB]
 try rw [hW2]
 clear hW2 hXB
 refine ⟨trivial, ?_⟩
 refine (callsIn_wide.2 (accessed_call _ _ _ _ W2)).mono ?_
 rintro e wb ⟨rfl, hwb⟩
 rw [HS2.out]
 have EB : Ext W2 wb := by rw [hwb]; exact (Ext.refl W2).alloc _
 have BP : wb.heap[XB + 2]? = some (.cells #[.map mo, .int .i64 T, .slice q1 n1 c1, .slice q2 M c2] 57 (0, 0)) := by rw [hwb]; exact blk_at HS2.out.symm
 have hbs : wb.heap.size = XB + 3 := by rw [hwb, World.size_alloc, HS2.out]
 have HPb := hid (EB.blk HP2.out); have HBP := hid BP; have HEb := hid (HE2.out.trans EB); have HX2 := hid (HX.out.trans EB)
 clear hwb EB BP
 obtain ⟨LB, hLB⟩ : ∃ LB, XB + 1 = LB := ⟨_, rfl⟩
 rw [hLB] at HPb
 try rw [hLB]
 gi_wp2_with (fail)
 have hXs : w1.heap.size = XB := HXB.out
 refine wpIn_rangeFunc_base (w := wb) rfl (hdd _) (gf := 46) (lb := #[.pointer (some ⟨XB + 2, 0, none⟩)]) rfl trivial (enters_of Tryz.func46 (by kernel_rfl) rfl)
  wb.heap.size (Nat.le_refl _) (accessed_seqB wb.heap.size _ _ (XB + 2) W0.heap.size M c2 q2 (.map mo) (.int .i64 T) (.slice q1 n1 c1) es (fun b => b < wb.heap.size ∧ b ≠ LB) w1 wb HM.out hM120 HRL.out HEV.out HX2.out HBP.out (fun b h => h.1) ⟨by omega, by omega⟩ (fun b h => ⟨by omega, by omega⟩))
  (fun b h => h.1) (fun b h => h.elim) (fun x Wa Wb _ _ => trivial) (fun Wa Wb _ _ => trivial) (fun _ => rfl)
  (AtI wb LB) (AtX wb LB (.exit 0)) (AtI.stable wb LB) (fun cd => AtX.stable wb LB (.exit 0) cd)
  [LB] (fun b hb => by simp at hb; subst hb; exact ⟨by omega, fun h => h.2 rfl⟩) ⟨none, 0, 0, rfl, Lv.refl _ _, HPb.out, rfl, by omega, World.ownsRow_nil _ _ _ _⟩
  (fun x => { tmps := #[.agg #[.slice qa na ca, .slice qp np cp], .pointer (some ⟨g0, 0, none⟩), .slice none 0 0, .pointer (some ⟨XB, 0, none⟩), .bool (progB ars ps), .pointer (some ⟨LB, 0, none⟩), .int .i64 x, .tuple #[.agg #[.map mo, .int .i64 T, .slice q1 n1 c1, .slice q2 M c2], .bool (progB ars ps)], .agg #[.slice qa na ca, .slice qp np cp], .tuple #[.agg #[.map mo, .int .i64 T, .slice q1 n1 c1, .slice q2 M c2], .bool (progB ars ps)], .agg #[.map mo, .int .i64 T, .slice q1 n1 c1, .slice q2 M c2], .bool (progB ars ps), .agg #[.map mo, .int .i64 T, .slice q1 n1 c1, .slice q2 M c2], .func (.func 46) #[] #[.pointer (some ⟨XB + 2, 0, none⟩)], .int .i64 x, undef, undef, undef, undef, undef, undef, undef, undef], defers := [] })
  ?assign ?body ?done ?stop
 case assign =>
  intro l2 y X K hK
  dsimp only [encI1] at hK ⊢
  gi_wp2
  exact hK
 case body =>
  rintro l2 pre0 x ow X ⟨q, k, cap, rfl, hLV, hLX, hk, hk6, hrow⟩ hpx hrx hob
  obtain ⟨l0, lf⟩ := blk1 hLX
  have HLV := hid hLV; have HLX := hid hLX; have HK := hid hk; have HROW := hid hrow; have HOB := hid hob
  clear hLV hLX hk hrow hob hpx hrx
  by_cases h6 : k = 600
  ·subst h6
   gi_wp2_with (fail)
   exact ⟨LB :: (Value.slice q 600 cap).ownBlock.toList, Grew.refl _ X (fun b hb => (HOB.out b hb).1), rfl, pre0, x, rfl, HK.out, q, 600, cap, rfl, HLV.out, HLX.out, HK.out, by omega, HROW.out⟩
  ·have hkI : ¬ (k : Int) = 600 := by omega
   have hkb : ((k : Int) == 600) = false := by simpa using hkI
   have hkd : decide ((k : Int) = 600) = false := by simpa using hkI
   have hLXl := lt_of_block HLX.out
   have HRO : Hid ((X.alloc (.cells #[.int .i64 x] 3)).ownsRow wb.heap.size 3 1 (.slice q k cap) k (pre0.map (Value.int .i64))) := hid (ownsRow_ext (IntsOwn.row HROW.out HK.out) ((Ext.refl X).alloc _))
   have hXb : wb.heap.size ≤ X.heap.size := HLV.out.size
   clear hkI
   gi_wp2_with (first | (gi_at_builtin; refine wpListIn_append_own_at _ rfl (.tmp 18) (.tmp 20) 27 rfl wb.heap.size 3 i0 (.int .i64 0) 1 8 Tryz.underlying27 hi hz0 hz1 hz2 rfl (by decide) (.slice q k cap) k _ rfl HRO.out ⟨X.heap.size, 0, none⟩ 1 1 [.int .i64 x] rfl rfl (one_cell rfl) (by intro u hu; simp at hu; subst hu; rfl) (by unfold maxLen; omega) (by omega) (by simp; omega) ?_; intro v' w4 hown4 hgr4 hnil4 hat4; obtain ⟨q4, d4, rfl⟩ := row_shape hown4; have hLB4 := grownBy_blk hgr4 (blk_old (o := .cells #[.int .i64 x] 3) HLX.out) (fun e => row_ty HRO.out (blk_old (o := .cells #[.int .i64 x] 3) HLX.out) (by decide) e.symm rfl); have l4 := (blk1 hLB4).1; have lf4 := (blk1 hLB4).2) | fail)
   have hset := lv_set w4 LB 0 (.slice q4 (k + 1) d4)
   have hl4 : Lv (fun b => (Value.slice q k cap).ownBlock = some b) X w4 := ((Ext.refl X).alloc (.cells #[.int .i64 x] 3)).lv (D := fun _ => False) |>.trans (Lv.grown hgr4 (fun r e _ => e)) (fun _ _ h => h.elim) (fun _ _ h => h)
   have hl5 := hl4.trans hset (E := fun b => b ∈ LB :: (Value.slice q k cap).ownBlock.toList) (fun b _ h => by simp [h]) (fun b _ h => by simp [h])
   have hI4 : IntsOwn wb.heap.size w4 (.slice q4 (k + 1) d4) (pre0 ++ [x]) := IntsOwn.mk (by rw [List.map_append]; exact hown4) (by simp [HK.out])
   have hs4 := hl4.size
   have hrl := fun b hb => World.ownsRow.lt hI4 b hb
   refine ⟨LB :: (Value.slice q4 (k + 1) d4).ownBlock.toList, ⟨hl5, fun b hb => ?_⟩, q4, k + 1, d4, rfl, HLV.out.trans hl5 (fun _ _ h => h) (fun b hb h => ?_), blk1_set hLB4, by simp [HK.out], by omega, row_lv hI4 hset (fun b hb e => row_ty hI4 hLB4 (by decide) hb e)⟩
   ·simp only [List.mem_cons, Option.mem_toList] at hb ⊢
    rw [World.size_setCell]
    rcases hb with hb | hb
    ·exact ⟨.inl (.inl hb), by omega⟩
    ·refine ⟨?_, (hrl b hb).2⟩
     rcases hat4 with e | e
     ·exact .inl (.inr (by rw [← e]; exact hb))
     ·rw [hb] at e; cases e; exact .inr (by simp)
   ·simp only [List.mem_cons, Option.mem_toList] at h
    rcases h with h | h
    ·exact h
    ·have := (World.ownsRow.lt HROW.out b h).1; omega
 case done =>
  rintro E ow X hE6 hEn ⟨q, k, cap, rfl, hLV, hLX, hk, hk6, hrow⟩ hob hv6 hz hdf
  have EX := hid (hLV.ext0 HEb.out (fun b hb h => by have := HG0.out; omega))
  have HRX : Hid (IntsOwn wb.heap.size X (.slice q k cap) (atL ars ps)) := hid (by rw [← HANS.out, List.take_of_length_le (by omega)]; exact hrow)
  have XE := hid hdf
  have HEE : Hid (g0 + 1 ≤ E ∧ ∀ b, (Value.slice q k cap).ownBlock = some b → b ≠ E) := hid ⟨by omega, fun b hb e => hEn (by subst e; simp [hb])⟩
  obtain ⟨l0, -⟩ := blk1 hLX
  clear hLV hLX hrow hk hob hv6 hz hdf hE6 hEn
  gi_wp2_with (fail)
  refine leaves_marks2 [E] _ (fun E' h => by simp at h; subst h; exact XE.out) (by simp) (fun W' hW' => ?_)
  refine ⟨.slice q k cap, by simp [results, Tryz.results8, go_sem], ⟨_, rfl, ?_⟩, hW'.ext0 EX.out (fun b hb h => by have := HEE.out.1; have := HG0.out; simp at h; omega)⟩
  exact IntsOwn.weak (row_lv HRX.out hW' (fun b hb h => by simp at h; exact HEE.out.2 b hb h)) (by have := HEb.out.size_le; omega)
 case stop =>
  rintro E cd qq ow X hE6 hEn hq ⟨rfl, s', x, rfl, hs6, q, k, cap, rfl, hLV, hLX, hk, hk6, hrow⟩ hob hv6 hz hdf
  have EX := hid (hLV.ext0 HEb.out (fun b hb h => by have := HG0.out; omega))
  have HRX : Hid (IntsOwn wb.heap.size X (.slice q k cap) (atL ars ps)) := hid (by
   obtain ⟨t, ht⟩ := hq
   rw [← HANS.out, ← ht, List.append_assoc, List.take_left' hs6]; exact hrow)
  have XE := hid hdf
  have HEE : Hid (g0 + 1 ≤ E ∧ ∀ b, (Value.slice q k cap).ownBlock = some b → b ≠ E) := hid ⟨by omega, fun b hb e => hEn (by subst e; simp [hb])⟩
  obtain ⟨l0, -⟩ := blk1 hLX
  clear hLV hLX hrow hk hob hv6 hz hdf hE6 hEn hq
  gi_wp2_with (fail)
  refine leaves_marks2 [E] _ (fun E' h => by simp at h; subst h; exact XE.out) (by simp) (fun W' hW' => ?_)
  refine ⟨.slice q k cap, by simp [results, Tryz.results8, go_sem], ⟨_, rfl, ?_⟩, hW'.ext0 EX.out (fun b hb h => by have := HEE.out.1; have := HG0.out; simp at h; omega)⟩
  exact IntsOwn.weak (row_lv HRX.out hW' (fun b hb h => by simp at h; exact HEE.out.2 b hb h)) (by have := HEb.out.size_le; omega)
end Go.Proofs.YtggpjapmhakklaaGreat

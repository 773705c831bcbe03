/- The texts A9 N1 N2 N3 N4 N5, joined. No statement is proved here. -/
import Derived.Test.YtggpjapmhakklaaGreatQL01
import Derived.Test.YtggpjapmhakklaaGreatQL33
import Derived.Deep.RegionHeld3
set_option maxRecDepth 100000
set_option maxHeartbeats 8000000
set_option linter.unusedVariables false
set_option linter.unusedSimpArgs false
namespace Go.Proofs.YtggpjapmhakklaaGreat
open Go.Lib (hid)
open Go.RowKit
end Go.Proofs.YtggpjapmhakklaaGreat
namespace Go.Proofs.YtggpjapmhakklaaGreat
open Go.Lib (hid)
open Go.RowKit
def SmallAs (zs : List Aff) : Prop := zs.length ≤ 1048576 ∧ ∀ a ∈ zs, a.1.length ≤ 1048576
def SmallLs (ls : List Lp) : Prop := ls.length ≤ 1048576 ∧ ∀ l ∈ ls, SmallAs l.1 ∧ SmallAs l.2
theorem mem_take_next {α : Type} {p : α → Prop} {xs : List α} {k : Nat} {x : α} (hx : xs[k]? = some x) (h : ∀ a ∈ xs.take k, p a) (h2 : p x) : ∀ a ∈ xs.take (k + 1), p a := by
 intro a ha
 rw [take_next hx, List.mem_append] at ha
 rcases ha with ha | ha
 ·exact h a ha
 ·rw [List.mem_singleton] at ha; subst ha; exact h2
end Go.Proofs.YtggpjapmhakklaaGreat
namespace Go.Proofs.YtggpjapmhakklaaGreat
open Go.Lib (hid)
open Go.RowKit
def PairsOwn {α : Type} (T : TypeId) (R : Nat → World → Value → Value → α → Prop) (B : Nat) (w : World) (v : Value) (xs : List α) : Prop :=
 ∃ vs, w.ownsRow B T 2 v xs.length vs ∧ ∀ i x, xs[i]? = some x → ∃ u0 u1, vs[i * 2]? = some u0 ∧ vs[i * 2 + 1]? = some u1 ∧ R B w u0 u1 x
def AffO (B : Nat) (w : World) (u0 u1 : Value) (a : Aff) : Prop := IntsOwn B w u0 a.1 ∧ u1 = .int .i64 a.2
def AffsOwn : Nat → World → Value → List Aff → Prop := PairsOwn 98 AffO
def LoopO (B : Nat) (w : World) (u0 u1 : Value) (a : Lp) : Prop := AffsOwn B w u0 a.1 ∧ AffsOwn B w u1 a.2
def LoopsOwn : Nat → World → Value → List Lp → Prop := PairsOwn 182 LoopO
theorem PairsOwn.at' {α : Type} {T : TypeId} {R : Nat → World → Value → Value → α → Prop} {Q : World → Value → Value → α → Prop} (hq : ∀ {B w u0 u1 x}, R B w u0 u1 x → Q w u0 u1 x) {B : Nat} {w : World} {v : Value} {xs : List α} (h : PairsOwn T R B w v xs) : PairsAt Q w v xs := by
 obtain ⟨vs, ho, hr⟩ := h
 rcases ho.2 with ⟨rfl, hn⟩ | ⟨g, cap, cur, rfl, _⟩
 ·refine ⟨none, 0, by rw [hn], by omega, fun i x hi => ?_⟩
  rw [List.eq_nil_of_length_eq_zero hn] at hi; simp at hi
 ·refine PairsAt.own ho rfl (fun i x hi => ?_)
  obtain ⟨u0, u1, h0, h1, h2⟩ := hr i x hi
  exact ⟨u0, u1, h0, h1, hq h2⟩
theorem PairsOwn.map' {α : Type} {T : TypeId} {R : Nat → World → Value → Value → α → Prop} {B B' : Nat} {w w' : World} {v : Value} {xs : List α} (h : PairsOwn T R B w v xs) (ho : ∀ vs, w.ownsRow B T 2 v xs.length vs → w'.ownsRow B' T 2 v xs.length vs) (hR : ∀ {u0 u1 x}, R B w u0 u1 x → R B' w' u0 u1 x) : PairsOwn T R B' w' v xs := by
 obtain ⟨vs, h1, hr⟩ := h
 refine ⟨vs, ho vs h1, fun i x hi => ?_⟩
 obtain ⟨u0, u1, h0, h1, h2⟩ := hr i x hi
 exact ⟨u0, u1, h0, h1, hR h2⟩
theorem AffsOwn.at {B : Nat} {w : World} {v : Value} {xs : List Aff} (h : AffsOwn B w v xs) : AffsAt w v xs := PairsOwn.at' (fun h => ⟨h.1.at, h.2⟩) h
theorem LoopsOwn.at {B : Nat} {w : World} {v : Value} {xs : List Lp} (h : LoopsOwn B w v xs) : LoopsAt w v xs := PairsOwn.at' (fun h => ⟨h.1.at, h.2.at⟩) h
theorem AffsOwn.ext {B : Nat} {w w' : World} {v : Value} {xs : List Aff} (h : AffsOwn B w v xs) (hb : Ext w w') : AffsOwn B w' v xs := PairsOwn.map' h (fun _ h => ownsRow_ext h hb) (fun h => ⟨h.1.ext hb, h.2⟩)
theorem LoopsOwn.ext {B : Nat} {w w' : World} {v : Value} {xs : List Lp} (h : LoopsOwn B w v xs) (hb : Ext w w') : LoopsOwn B w' v xs := PairsOwn.map' h (fun _ h => ownsRow_ext h hb) (fun h => ⟨h.1.ext hb, h.2.ext hb⟩)
theorem AffsOwn.weak {B B' : Nat} {w : World} {v : Value} {xs : List Aff} (h : AffsOwn B w v xs) (hB : B' ≤ B) : AffsOwn B' w v xs := PairsOwn.map' h (fun _ h => ownsRow_weak h hB) (fun h => ⟨h.1.weak hB, h.2⟩)
theorem LoopsOwn.weak {B B' : Nat} {w : World} {v : Value} {xs : List Lp} (h : LoopsOwn B w v xs) (hB : B' ≤ B) : LoopsOwn B' w v xs := PairsOwn.map' h (fun _ h => ownsRow_weak h hB) (fun h => ⟨h.1.weak hB, h.2.weak hB⟩)
theorem AffsOwn.setOld {B : Nat} {w : World} {v : Value} {xs : List Aff} (h : AffsOwn B w v xs) {p : Addr} (hp : p.block < B) (u : Value) : AffsOwn B (w.setCell p u) v xs := PairsOwn.map' h (fun _ h => ownsRow_setCell_below h hp u) (fun h => ⟨h.1.setOld hp u, h.2⟩)
theorem LoopsOwn.setOld {B : Nat} {w : World} {v : Value} {xs : List Lp} (h : LoopsOwn B w v xs) {p : Addr} (hp : p.block < B) (u : Value) : LoopsOwn B (w.setCell p u) v xs := PairsOwn.map' h (fun _ h => ownsRow_setCell_below h hp u) (fun h => ⟨h.1.setOld hp u, h.2.setOld hp u⟩)
def PairRow {α : Type} (T : TypeId) (R : Nat → World → Value → Value → α → Prop) (B Bi g n : Nat) (xs : List α) (k : Nat) (w : World) : Prop :=
 ∃ vs, w.ownsRow B T 2 (.slice (some ⟨g, 0, none⟩) n n) n vs ∧ ∀ i x, i < k → xs[i]? = some x → ∃ u0 u1, vs[i * 2]? = some u0 ∧ vs[i * 2 + 1]? = some u1 ∧ R Bi w u0 u1 x
theorem PairRow.open' {α : Type} {T : TypeId} {R : Nat → World → Value → Value → α → Prop} {B Bi g n k : Nat} {xs : List α} {w w1 : World} (h : PairRow T R B Bi g n xs k w) (hE : Ext w w1) (hk : k < n) :
  w1.frozen? ⟨g, k * 2, none⟩ = false ∧ w1.frozen? ⟨g, k * 2 + 1, none⟩ = false ∧ (∃ v, w1.cell? ⟨g, k * 2, none⟩ = some v) ∧ (∃ v, w1.cell? ⟨g, k * 2 + 1, none⟩ = some v) ∧ B ≤ g ∧ g < w1.heap.size := by
 obtain ⟨vs, ho, _⟩ := h
 have ho := ownsRow_ext ho hE
 have hl := ho.1
 have := ho.lt g rfl
 refine ⟨ho.frozenAt _, ho.frozenAt _, ?_, ?_, this.1, this.2⟩
 ·rw [ho.cellAt (k * 2) (by omega)]; exact get_some (by omega)
 ·rw [ho.cellAt (k * 2 + 1) (by omega)]; exact get_some (by omega)
theorem PairRow.step {α : Type} {T : TypeId} {R : Nat → World → Value → Value → α → Prop} (hext : ∀ {B w w' u0 u1 x}, R B w u0 u1 x → Ext w w' → R B w' u0 u1 x) (hset : ∀ {B w u0 u1 x p u}, R B w u0 u1 x → Addr.block p < B → R B (w.setCell p u) u0 u1 x)
  {B g n k : Nat} {xs : List α} {w w1 : World} {u0 u1 : Value} {x : α} (h : PairRow T R B (g + 1) g n xs k w) (hE : Ext w w1) (hk : k < n) (hx : xs[k]? = some x) (hr : R (g + 1) w1 u0 u1 x) :
  PairRow T R B (g + 1) g n xs (k + 1) ((w1.setCell ⟨g, k * 2, none⟩ u0).setCell ⟨g, k * 2 + 1, none⟩ u1) := by
 obtain ⟨vs, ho, hv⟩ := h
 have ho := ownsRow_ext ho hE
 have hl := ho.1
 refine ⟨_, (((ho.stored (k * 2) u0).1).stored (k * 2 + 1) u1).1, fun i y hi hy => ?_⟩
 by_cases e : i = k
 ·subst e
  rw [hx] at hy; cases hy
  refine ⟨u0, u1, ?_, ?_, hset (hset hr (by simp)) (by simp)⟩
  ·rw [List.getElem?_set_ne (by omega), List.getElem?_set_self (by omega)]
  ·rw [List.getElem?_set_self (by rw [List.length_set]; omega)]
 ·obtain ⟨a0, a1, h0, h1, h2⟩ := hv i y (by omega) hy
  refine ⟨a0, a1, ?_, ?_, hset (hset (hext h2 hE) (by simp)) (by simp)⟩
  ·rw [List.getElem?_set_ne (by omega), List.getElem?_set_ne (by omega)]; exact h0
  ·rw [List.getElem?_set_ne (by omega), List.getElem?_set_ne (by omega)]; exact h1
theorem PairRow.done {α : Type} {T : TypeId} {R : Nat → World → Value → Value → α → Prop} (hweak : ∀ {B B' w u0 u1 x}, R B w u0 u1 x → B' ≤ B → R B' w u0 u1 x) {B g n : Nat} {xs : List α} {w : World} (h : PairRow T R B (g + 1) g n xs n w) (hn : xs.length = n) (hB : B ≤ g) :
  PairsOwn T R B w (.slice (some ⟨g, 0, none⟩) n n) xs := by
 obtain ⟨vs, ho, hv⟩ := h
 refine ⟨vs, by rw [hn]; exact ho, fun i x hi => ?_⟩
 have hlt : i < n := by rw [← hn]; exact (List.getElem?_eq_some_iff.1 hi).1
 obtain ⟨u0, u1, h0, h1, h2⟩ := hv i x hlt hi
 exact ⟨u0, u1, h0, h1, hweak h2 (by omega)⟩
theorem toAffineS_any (p : Option Addr) (n c : Nat) (zs : List Aff) (w : World) (hn : zs.length = n) (hs : AffsAt w (.slice p n c) zs) (hsm : SmallAs zs) :
  Calls Tryz.prog 131 #[.slice p n c] w fun e w' => ∃ q d, e = .returned (.slice q n d) ∧ AffsOwn w.heap.size w' (.slice q n d) zs ∧ Ext w w' := by
 have hm : n ≤ 1048576 := by rw [← hn]; exact hsm.1
 obtain ⟨i0, hi, hz0, hz1, hz2⟩ := info_parts infoAff
 have HS := hid hs; clear hs
 have HN := hid hn; clear hn
 have HSM := hid hsm; clear hsm
 go_enter Tryz.func131, Tryz.ntmps131
 go_wp2_with (at_make; refine wpList_make_full _ rfl _ _ 94 rfl w.heap.size 98 i0 (.agg #[.slice none 0 0, .int .i64 0]) 2 Tryz.underlying94 hi hz0 hz1 _ _ _ _ n rfl rfl rfl rfl ?b2 ?b3 (Nat.le_refl _) ?_)
 case b2 => rw [hz2]; omega
 case b3 => unfold maxLen; omega
 intro w0 hown0 hgrow0
 have HP := hid (show PairRow 98 AffO w.heap.size (w.heap.size + 1) w.heap.size n zs 0 w0 from ⟨_, hown0, fun i x hi => absurd hi (by omega)⟩)
 have HG := hid ((Ext.refl w).grown hgrow0 (fun k h => by cases h))
 clear hown0 hgrow0 hi hz0 hz1 hz2
 go_wp2
 go_loopw [4] (fun i wr => ∃ k : Nat, k ≤ n ∧ i = .int .i64 k ∧ PairRow 98 AffO w.heap.size (w.heap.size + 1) w.heap.size n zs k wr ∧ Ext w wr) (fun i _ => n - (intOf i).toNat)
 case atStart => exact ⟨0, by omega, rfl, HP.out, HG.out⟩
 case round =>
  obtain ⟨k, hk, rfl, hrow, hE⟩ := hrel
  by_cases hlt : k < n
  ·obtain ⟨x, hx⟩ := get_some (xs := zs) (k := k) (by rw [HN.out]; exact hlt)
   obtain ⟨b, off, q, m, rfl, c0, c1, hb, hr⟩ := (HS.out.ext hE).elem hx
   have hxs := HSM.out.2 x (List.mem_of_getElem? hx)
   have HX := hid hx; have HR := hid hr; have HW := hid hrow; clear hx hr hrow
   go_wp2_with (fail)
   refine (toAffine_any _ x.1 x.2 _ HR.out hxs).mono ?_
   rintro e w1 ⟨q1, m1, rfl, hv, hE1⟩
   obtain ⟨f0, f1, ⟨v0, d0⟩, ⟨v1, d1⟩, hg0, hg1⟩ := HW.out.open' hE1 hlt
   have HV := hid (hv.weak (B' := w.heap.size + 1) (by have := HW.out.open' (Ext.refl wr) hlt; omega))
   have HE1 := hid hE1
   clear hv hE1 c0 c1
   go_wp2
   go_roundw
   case rel => exact ⟨k + 1, by omega, by go_num, PairRow.step (fun h hb => ⟨h.1.ext hb, h.2⟩) (fun h hp => ⟨h.1.setOld hp _, h.2⟩) HW.out HE1.out hlt HX.out ⟨HV.out, rfl⟩, ((hE.trans HE1.out).setCell (Nat.le_refl _) _).setCell (Nat.le_refl _) _⟩
   case measure => simp [intOf]; omega
  ·go_wp2
   go_ret
   have e : k = n := by omega
   subst e
   exact ⟨_, _, rfl, PairRow.done (fun h hB => ⟨h.1.weak hB, h.2⟩) hrow HN.out (Nat.le_refl _), hE⟩
end Go.Proofs.YtggpjapmhakklaaGreat
namespace Go.Proofs.YtggpjapmhakklaaGreat
open Go.Lib (hid)
open Go.RowKit
theorem blk2_set0' {W : World} {g : Nat} {a b c : Value} {t : TypeId} (h : W.heap[g]? = some (.cells #[a, b] t (0, 0))) : (W.setCell ⟨g, 0, none⟩ c).heap[g]? = some (.cells #[c, b] t (0, 0)) := by
 rw [heap_setCell_same W g 0 _ _ c h]; rfl
theorem blk2_set1' {W : World} {g : Nat} {a b c : Value} {t : TypeId} (h : W.heap[g]? = some (.cells #[a, b] t (0, 0))) : (W.setCell ⟨g, 1, none⟩ c).heap[g]? = some (.cells #[a, c] t (0, 0)) := by
 rw [heap_setCell_same W g 1 _ _ c h]; rfl
theorem blk_off {a : World} {g g' o' : Nat} {o : Obj} (hg : a.heap[g]? = some o) (hne : g ≠ g') (u : Value) : (a.setCell ⟨g', o', none⟩ u).heap[g]? = some o := (Below.heap_setCell _ _ _ _ hne).trans hg
theorem toLoop_any (s t : Value) (x : Lp) (w : World) (hs : AffsAt w s x.1) (ht : AffsAt w t x.2) (h1 : SmallAs x.1) (h2 : SmallAs x.2) :
  Calls Tryz.prog 102 #[.agg #[s, t]] w fun e w' => ∃ p c q d, e = .returned (.agg #[.slice p x.1.length c, .slice q x.2.length d]) ∧ AffsOwn w.heap.size w' (.slice p x.1.length c) x.1 ∧ AffsOwn w.heap.size w' (.slice q x.2.length d) x.2 ∧ Ext w w' := by
 obtain ⟨p, c, rfl, hm⟩ := hs.form
 obtain ⟨q, d, rfl, hm2⟩ := ht.form
 have HS := hid hs; have HT := hid ht; have H1 := hid h1; have H2 := hid h2; clear hs ht h1 h2
 generalize hga : w.heap.size = ga at *
 have HGA := hid hga; clear hga
 go_enter Tryz.func102, Tryz.ntmps102
 go_wp2_with (fail)
 refine (toAffineS_any p _ c x.1 _ rfl (HS.out.ext ((((Ext.refl w).alloc _).alloc _).alloc _)) H1.out).mono ?_
 rintro e W1 ⟨p1, d1, rfl, hv, hE⟩
 have E1 : Hid (Ext w W1) := ((((Ext.refl w).alloc _).alloc _).alloc _).trans hE
 have BA := hE.blk (g := ga) (blk_old (blk_old (blk_at HGA.out.symm)))
 have BR := hE.blk (g := ga + 1) (blk_old (blk_at (by simp [HGA.out])))
 have BO := hE.blk (g := ga + 1 + 1) (blk_at (by simp [HGA.out]))
 have hl := lt_of_block BO
 have HV := hid (hv.weak (B' := ga + 1 + 1 + 1) (by simp [HGA.out]))
 obtain ⟨a0, a1, -, -⟩ := blk2 (blk_off (g' := ga + 1 + 1) (o' := 0) BA (by omega) (.slice p1 x.1.length d1))
 obtain ⟨o0, o1, f0, f1⟩ := blk2 BO
 have HBR := hid (blk_off (g' := ga + 1 + 1) (o' := 0) BR (by omega) (.slice p1 x.1.length d1))
 have HBO := hid (blk2_set0' (c := .slice p1 x.1.length d1) BO)
 have E2 : Hid (Ext w (W1.setCell ⟨ga + 1 + 1, 0, none⟩ (.slice p1 x.1.length d1))) := E1.out.setCell (by rw [HGA.out]; simp <;> omega) _
 have HV2 := hid (HV.out.setOld (p := ⟨ga + 1 + 1, 0, none⟩) (by simp) (.slice p1 x.1.length d1))
 clear hE hv BA BR BO HV
 rw [HGA.out]
 go_wp2_with (fail)
 clear f0 f1 o0 o1 hl E1
 generalize W1.setCell ⟨ga + 1 + 1, 0, none⟩ (.slice p1 x.1.length d1) = W2 at *
 refine (toAffineS_any q _ d x.2 _ rfl (HT.out.ext E2.out) H2.out).mono ?_
 rintro e W3 ⟨p3, d3, rfl, hv, hE⟩
 have E3 : Hid (Ext w W3) := E2.out.trans hE
 obtain ⟨o0, o1, f0, f1⟩ := blk2 (hE.blk HBO.out)
 obtain ⟨r0, r1, e0, e1⟩ := blk2 (hE.blk HBR.out)
 have hl := lt_of_block (hE.blk HBO.out)
 have HV3 := hid (HV2.out.ext hE)
 have HY3 := hid (hv.weak (B' := ga + 1 + 1 + 1) (by have := lt_of_block HBO.out; omega))
 clear hE hv HV2 a0 a1 HBO HBR
 go_wp2
 refine bodyPost_ret (v := .agg #[.slice p1 x.1.length d1, .slice p3 x.2.length d3]) (by simp [results, Tryz.results102, go_sem, r0, r1]) rfl ⟨_, _, _, _, rfl, ?_, ?_, ?_⟩
 ·refine AffsOwn.weak (B := ga + 1 + 1 + 1) ?_ (by omega)
  repeat (refine AffsOwn.setOld ?_ (by simp <;> omega) _)
  exact HV3.out
 ·refine AffsOwn.weak (B := ga + 1 + 1 + 1) ?_ (by omega)
  repeat (refine AffsOwn.setOld ?_ (by simp <;> omega) _)
  exact HY3.out
 ·repeat (refine Ext.setCell ?_ (by rw [HGA.out]; simp <;> omega) _)
  exact E3.out
theorem toLoopS_any (p : Option Addr) (n c : Nat) (zs : List Lp) (w : World) (hn : zs.length = n) (hs : LoopsAt w (.slice p n c) zs) (hsm : SmallLs zs) :
  Calls Tryz.prog 70 #[.slice p n c] w fun e w' => ∃ q d, e = .returned (.slice q n d) ∧ LoopsOwn w.heap.size w' (.slice q n d) zs ∧ Ext w w' := by
 have hm : n ≤ 1048576 := by rw [← hn]; exact hsm.1
 obtain ⟨i0, hi, hz0, hz1, hz2⟩ := info_parts infoLoop
 have HS := hid hs; clear hs
 have HN := hid hn; clear hn
 have HSM := hid hsm; clear hsm
 go_enter Tryz.func70, Tryz.ntmps70
 go_wp2_with (at_make; refine wpList_make_full _ rfl _ _ 88 rfl w.heap.size 182 i0 (.agg #[.slice none 0 0, .slice none 0 0]) 2 Tryz.underlying88 hi hz0 hz1 _ _ _ _ n rfl rfl rfl rfl ?b2 ?b3 (Nat.le_refl _) ?_)
 case b2 => rw [hz2]; omega
 case b3 => unfold maxLen; omega
 intro w0 hown0 hgrow0
 have HP := hid (show PairRow 182 LoopO w.heap.size (w.heap.size + 1) w.heap.size n zs 0 w0 from ⟨_, hown0, fun i x hi => absurd hi (by omega)⟩)
 have HG := hid ((Ext.refl w).grown hgrow0 (fun k h => by cases h))
 clear hown0 hgrow0 hi hz0 hz1 hz2
 go_wp2
 go_loopw [4] (fun i wr => ∃ k : Nat, k ≤ n ∧ i = .int .i64 k ∧ PairRow 182 LoopO w.heap.size (w.heap.size + 1) w.heap.size n zs k wr ∧ Ext w wr) (fun i _ => n - (intOf i).toNat)
 case atStart => exact ⟨0, by omega, rfl, HP.out, HG.out⟩
 case round =>
  obtain ⟨k, hk, rfl, hrow, hE⟩ := hrel
  by_cases hlt : k < n
  ·obtain ⟨x, hx⟩ := get_some (xs := zs) (k := k) (by rw [HN.out]; exact hlt)
   obtain ⟨b, off, q, m, q', m', rfl, c0, c1, hb, hr, hr'⟩ := (HS.out.ext hE).elem hx
   obtain ⟨hxs, hxs'⟩ := HSM.out.2 x (List.mem_of_getElem? hx)
   have HX := hid hx; have HR := hid hr; have HR' := hid hr'; have HW := hid hrow; have HXs := hid hxs; have HXs' := hid hxs'; clear hx hr hr' hrow hxs hxs'
   go_wp2_with (fail)
   refine (toLoop_any _ _ x _ HR.out HR'.out HXs.out HXs'.out).mono ?_
   rintro e w1 ⟨q1, m1, q2, m2, rfl, hv, hv', hE1⟩
   obtain ⟨f0, f1, ⟨v0, d0⟩, ⟨v1, d1⟩, hg0, hg1⟩ := HW.out.open' hE1 hlt
   have hB : w.heap.size + 1 ≤ wr.heap.size := by have := HW.out.open' (Ext.refl wr) hlt; omega
   have HV := hid (hv.weak (B' := w.heap.size + 1) hB)
   have HV' := hid (hv'.weak (B' := w.heap.size + 1) hB)
   have HE1 := hid hE1
   clear hv hv' hE1 c0 c1
   go_wp2
   go_roundw
   case rel => exact ⟨k + 1, by omega, by go_num, PairRow.step (fun h hb => ⟨h.1.ext hb, h.2.ext hb⟩) (fun h hp => ⟨h.1.setOld hp _, h.2.setOld hp _⟩) HW.out HE1.out hlt HX.out ⟨HV.out, HV'.out⟩, ((hE.trans HE1.out).setCell (Nat.le_refl _) _).setCell (Nat.le_refl _) _⟩
   case measure => simp [intOf]; omega
  ·go_wp2
   go_ret
   have e : k = n := by omega
   subst e
   exact ⟨_, _, rfl, PairRow.done (fun h hB => ⟨h.1.weak hB, h.2.weak hB⟩) hrow HN.out (Nat.le_refl _), hE⟩
end Go.Proofs.YtggpjapmhakklaaGreat
namespace Go.Proofs.YtggpjapmhakklaaGreat
open Go.Lib (hid)
open Go.RowKit
def lEqB {α : Type} [DecidableEq α] (xs ys : List α) : Bool := decide (xs = ys)
theorem lEqB_self {α : Type} [DecidableEq α] (xs : List α) : lEqB xs xs = true := by simp [lEqB]
theorem lEqB_len {α : Type} [DecidableEq α] {xs ys : List α} (h : xs.length ≠ ys.length) : lEqB xs ys = false := by
 unfold lEqB; apply decide_eq_false; intro e; exact h (by rw [e])
theorem lEqB_ne {α : Type} [DecidableEq α] {xs ys : List α} {k : Nat} {x y : α} (hx : xs[k]? = some x) (hy : ys[k]? = some y) (h : x ≠ y) : lEqB xs ys = false := by
 unfold lEqB; apply decide_eq_false; intro e; rw [e, hy] at hx; exact h (Option.some.inj hx).symm
theorem ltake_eq_next {α : Type} {xs ys : List α} {k : Nat} {x y : α} (hx : xs[k]? = some x) (hy : ys[k]? = some y) (h : xs.take k = ys.take k) (e : x = y) : xs.take (k + 1) = ys.take (k + 1) := by
 rw [take_next hx, take_next hy, h, e]
theorem lEqB_all {α : Type} [DecidableEq α] {xs ys : List α} {k : Nat} (hx : xs.length ≤ k) (hy : ys.length ≤ k) (h : xs.take k = ys.take k) : lEqB xs ys = true := by
 rw [List.take_of_length_le hx, List.take_of_length_le hy] at h; simp [lEqB, h]
theorem affEq_iff {x y : Aff} : affEqB x.1 x.2 y.1 y.2 = true ↔ x = y := by
 obtain ⟨a, b⟩ := x; obtain ⟨c, d⟩ := y
 simp [affEqB, eqB]
theorem affEq_no {x y : Aff} (h : affEqB x.1 x.2 y.1 y.2 = false) : x ≠ y := by
 intro e; rw [affEq_iff.2 e] at h; cases h
theorem eqAffineS_any (p : Option Addr) (n c : Nat) (q : Option Addr) (n' d : Nat) (xs ys : List Aff) (w : World) (hn : xs.length = n) (hn' : ys.length = n') (hs : AffsAt w (.slice p n c) xs) (ht : AffsAt w (.slice q n' d) ys) :
  Calls Tryz.prog 141 #[.slice p n c, .slice q n' d] w fun e w' => e = .returned (.bool (lEqB xs ys)) ∧ Ext w w' := by
 have hm : n ≤ 9223372036854775807 := by obtain ⟨_, _, hv, hm, _⟩ := hs; rw [← hn]; exact hm
 have hm2 : n' ≤ 9223372036854775807 := by obtain ⟨_, _, hv, hm, _⟩ := ht; rw [← hn']; exact hm
 have HS := hid hs; have HT := hid ht; have HN := hid hn; have HN' := hid hn'; clear hs ht hn hn'
 by_cases hne : n' = n
 ·subst hne
  go_enter Tryz.func141, Tryz.ntmps141
  go_wp2
  go_loopw [5] (fun i wr => ∃ k : Nat, k ≤ n' ∧ i = .int .i64 k ∧ xs.take k = ys.take k ∧ Ext w wr) (fun i _ => n' - (intOf i).toNat)
  case atStart => exact ⟨0, by omega, rfl, by simp, Ext.refl w⟩
  case round =>
   obtain ⟨k, hk, rfl, htk, hE⟩ := hrel
   have HK := hid htk; clear htk
   by_cases hlt : k < n'
   ·obtain ⟨x, hx⟩ := get_some (xs := xs) (k := k) (by rw [HN.out]; exact hlt)
    obtain ⟨y, hy⟩ := get_some (xs := ys) (k := k) (by rw [HN'.out]; exact hlt)
    obtain ⟨b, off, q1, m1, rfl, a0, a1, hb, hr⟩ := (HS.out.ext hE).elem hx
    obtain ⟨b', off', q2, m2, rfl, b0, b1, hb', hr'⟩ := (HT.out.ext hE).elem hy
    have HX := hid hx; have HY := hid hy; have HR := hid hr; have HR' := hid hr'; clear hx hy hr hr'
    go_wp2_with (fail)
    go_region_held3 (fun W => W.cell? ⟨b, off + k * 2, none⟩ = some (.slice q1 x.1.length m1) ∧ W.cell? ⟨b, off + k * 2 + 1, none⟩ = some (.int .i64 x.2) ∧ W.cell? ⟨b', off' + k * 2, none⟩ = some (.slice q2 y.1.length m2) ∧ W.cell? ⟨b', off' + k * 2 + 1, none⟩ = some (.int .i64 y.2))
     (first | exact ⟨a0, a1, b0, b1⟩ | exact ⟨g3.keep a0, g3.keep a1, g3.keep b0, g3.keep b1⟩ | fail)
     (first | (go_at_call 162; (with_reducible refine (eqAffine_any _ _ x.1 y.1 x.2 y.2 _ (HR.out.ext (Ext.refl wr).drew) (HR'.out.ext (Ext.refl wr).drew)).mono ?_); rintro e w3 ⟨rfl, hE3⟩; have g3 := (Ext.refl wr).drew.trans hE3) | fail)
    cases hq : affEqB x.1 x.2 y.1 y.2 with
    | true =>
     have e := affEq_iff.1 hq
     go_wp2
     go_roundw
     case rel => exact ⟨k + 1, by omega, by go_num, ltake_eq_next HX.out HY.out HK.out e, hE.trans g3⟩
     case measure => simp [intOf]; omega
    | false =>
     have e := affEq_no hq
     have HE := hid e; clear e
     go_wp2
     go_ret
     exact ⟨ret_bool (lEqB_ne HX.out HY.out HE.out).symm, hE.trans g3⟩
   ·go_wp2
    go_ret
    exact ⟨ret_bool (lEqB_all (by rw [HN.out]; omega) (by rw [HN'.out]; omega) HK.out).symm, hE⟩
 ·have hb : ((n : Int) != n') = true := by simp; omega
  have HNE := hid hne; clear hne
  go_enter Tryz.func141, Tryz.ntmps141
  go_wp2
  go_ret
  exact ⟨ret_bool (lEqB_len (by rw [HN.out, HN'.out]; exact fun e => HNE.out e.symm)).symm, Ext.refl w⟩
end Go.Proofs.YtggpjapmhakklaaGreat
namespace Go.Proofs.YtggpjapmhakklaaGreat
open Go.Lib (hid)
open Go.RowKit
def boundB (d : Int) (a : Aff) : Bool := affValidB a.1 a.2 && decide (depR a.1 a.2 ≤ d)
def sideB (zs : List Aff) (d : Int) : Bool := decide (1 ≤ zs.length ∧ zs.length ≤ 2) && zs.all (boundB d)
def loopB (l : Lp) (d : Int) : Bool := sideB l.1 d && sideB l.2 d
theorem depR_four {a b c d k : Int} (h : affValidB [a, b, c, d] k = true) : depR [a, b, c, d] k = dep4 a b c d := by unfold depR; rw [if_pos h]; rfl
theorem l2Side_any (p : Option Addr) (n c : Nat) (zs : List Aff) (dd : Int) (w : World) (hn : zs.length = n) (hs : AffsAt w (.slice p n c) zs) :
  Calls Tryz.prog 125 #[.slice p n c, .int .i64 dd] w fun e w' => e = .returned (.bool (sideB zs dd)) ∧ Ext w w' := by
 have hm : n ≤ 9223372036854775807 := by obtain ⟨_, _, hv, hm, _⟩ := hs; rw [← hn]; exact hm
 have HS := hid hs; have HN := hid hn; clear hs hn
 go_enter Tryz.func125, Tryz.ntmps125
 go_wp2
 go_loopw [5] (fun i wr => ∃ k : Nat, k ≤ n ∧ i = .int .i64 k ∧ (zs.take k).all (boundB dd) = true ∧ Ext w wr) (fun i _ => n - (intOf i).toNat)
 case atStart => exact ⟨0, by omega, rfl, by simp, Ext.refl w⟩
 case round =>
  obtain ⟨k, hk, rfl, hall, hE⟩ := hrel
  have HA := hid hall; clear hall
  by_cases hlt : k < n
  ·obtain ⟨x, hx⟩ := get_some (xs := zs) (k := k) (by rw [HN.out]; exact hlt)
   obtain ⟨b, off, q, m, rfl, c0, c1, hb, hr⟩ := (HS.out.ext hE).elem hx
   have HX := hid hx; have HR := hid hr; clear hx hr
   cases hv : affValidB x.1 x.2 with
   | false =>
    have HV := hid hv; clear hv
    go_wp2_with (fail)
    refine (specAffineValid_any _ x.1 x.2 _ HR.out).mono ?_
    rw [HV.out]
    rintro e w1 ⟨rfl, hE1⟩
    go_wp2
    go_ret
    exact ⟨ret_bool (by simp [sideB, all_false_of (p := boundB dd) HX.out (by simp [boundB, HV.out])]), hE.trans hE1⟩
   | true =>
    obtain ⟨x1, x2⟩ := x
    dsimp only at *
    obtain ⟨a, b', c', d, rfl, -⟩ := valid_four hv
    have HV := hid hv; clear hv
    go_wp2_with (fail)
    refine (specAffineValid_any _ [a, b', c', d] x2 _ HR.out).mono ?_
    rw [HV.out]
    rintro e w1 ⟨rfl, hE1⟩
    replace c0 := hE1.keep c0
    replace c1 := hE1.keep c1
    go_wp2_with (fail)
    refine (l1Depth_four _ a b' c' d x2 _ (HR.out.ext hE1)).mono ?_
    rintro e w2 ⟨rfl, hE2⟩
    have hdep : Hid (depR [a, b', c', d] x2 = dep4 a b' c' d) := depR_four HV.out
    clear c0 c1
    generalize dep4 a b' c' d = D at *
    by_cases hd : D ≤ dd
    ·have hdd : decide (dd < D) = false := by simp; omega
     go_wp2
     go_roundw
     case rel => exact ⟨k + 1, by omega, by go_num, all_take_next HX.out HA.out (by simp [boundB, HV.out, hdep.out, hd]), (hE.trans hE1).trans hE2⟩
     case measure => simp [intOf]; omega
    ·have hdd : decide (dd < D) = true := by simp; omega
     go_wp2
     go_ret
     refine ⟨ret_bool ?_, (hE.trans hE1).trans hE2⟩
     have h0 : boundB dd ([a, b', c', d], x2) = false := by simp only [boundB, HV.out, hdep.out, Bool.true_and]; simp; omega
     simp [sideB, all_false_of (p := boundB dd) HX.out h0]
  ·have hal : zs.all (boundB dd) = true := all_take_end (by rw [HN.out]; omega) HA.out
   have HAl := hid hal; clear hal
   by_cases h1 : 1 ≤ n
   ·have hb1 : decide ((1 : Int) ≤ n) = true := by simp; omega
    go_wp2
    go_ret
    refine ⟨ret_bool ?_, hE⟩
    simp only [sideB, HAl.out, HN.out, Bool.and_true]
    by_cases h2 : n ≤ 2
    ·simp [h1, h2]; try omega
    ·simp [h1, h2]; try omega
   ·have hb1 : decide ((1 : Int) ≤ n) = false := by simp; omega
    go_wp2
    go_ret
    refine ⟨ret_bool ?_, hE⟩
    simp only [sideB, HAl.out, HN.out, Bool.and_true]
    simp [h1]
end Go.Proofs.YtggpjapmhakklaaGreat

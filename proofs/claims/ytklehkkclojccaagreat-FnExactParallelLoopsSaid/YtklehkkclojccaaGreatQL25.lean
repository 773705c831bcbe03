/- The texts A9 N1 N2 N3 N4 N5, joined. No statement is proved here. -/
import Derived.Test.YtklehkkclojccaaGreatQL01
import Derived.Test.YtklehkkclojccaaGreatQL29
import Derived.Deep.RegionHeld3
set_option maxRecDepth 100000
set_option maxHeartbeats 8000000
set_option linter.unusedVariables false
set_option linter.unusedSimpArgs false
namespace Go.Proofs.YtklehkkclojccaaGreat
open Go.Lib (hid)
section
open Go.RowKit
end
section
open Go.RowKit
def jZV (zs : List Aff) : Prop := zs.length <= 1048576 /\ ∀ a ∈ zs, a.1.length <= 1048576
def jVI (ls : List Lp) : Prop := ls.length <= 1048576 /\ ∀ l ∈ ls, jZV l.1 /\ jZV l.2
theorem jZh {α : Type} {p : α -> Prop} {xs : List α} {k : Nat} {x : α} (hx : xs[k]? = some x) (h : ∀ a ∈ xs.take k, p a) (h2 : p x) : ∀ a ∈ xs.take (k + 1), p a := by
 intro a ha
 rw [jZ6 hx, List.mem_append] at ha
 rcases ha with ha | ha
 ·exact h a ha
 ·rw [List.mem_singleton] at ha; subst ha; exact h2
end
section
open Go.RowKit
def jZ9 {α : Type} (T : TypeId) (R : Nat -> World -> Value -> Value -> α -> Prop) (B : Nat) (w : World) (v : Value) (xs : List α) : Prop :=
 ∃ vs, w.ownsRow B T 2 v xs.length vs /\ ∀ i x, xs[i]? = some x -> ∃ u0 u1, vs[i * 2]? = some u0 /\ vs[i * 2 + 1]? = some u1 /\ R B w u0 u1 x
def AffO (B : Nat) (w : World) (u0 u1 : Value) (a : Aff) : Prop := jZ1 B w u0 a.1 /\ u1 = .int .i64 a.2
def jZ8 : Nat -> World -> Value -> List Aff -> Prop := jZ9 176 AffO
def LoopO (B : Nat) (w : World) (u0 u1 : Value) (a : Lp) : Prop := jZ8 B w u0 a.1 /\ jZ8 B w u1 a.2
def jZr : Nat -> World -> Value -> List Lp -> Prop := jZ9 240 LoopO
theorem jZ9.at' {α : Type} {T : TypeId} {R : Nat -> World -> Value -> Value -> α -> Prop} {Q : World -> Value -> Value -> α -> Prop} (hq : ∀ {B w u0 u1 x}, R B w u0 u1 x -> Q w u0 u1 x) {B : Nat} {w : World} {v : Value} {xs : List α} (h : jZ9 T R B w v xs) : jZN Q w v xs := by
 obtain ⟨vs, ho, hr⟩ := h
 rcases ho.2 with ⟨rfl, hn⟩ | ⟨g, cap, cur, rfl, _⟩
 ·refine ⟨none, 0, by rw [hn], by omega, fun i x hi => ?_⟩
  rw [List.eq_nil_of_length_eq_zero hn] at hi; simp at hi
 ·refine jZN.own ho rfl (fun i x hi => ?_)
  obtain ⟨u0, u1, h0, h1, h2⟩ := hr i x hi; exact ⟨u0, u1, h0, h1, hq h2⟩
theorem jZ9.map' {α : Type} {T : TypeId} {R : Nat -> World -> Value -> Value -> α -> Prop} {B B' : Nat} {w w' : World} {v : Value} {xs : List α} (h : jZ9 T R B w v xs) (ho : ∀ vs, w.ownsRow B T 2 v xs.length vs -> w'.ownsRow B' T 2 v xs.length vs) (hR : ∀ {u0 u1 x}, R B w u0 u1 x -> R B' w' u0 u1 x) : jZ9 T R B' w' v xs := by
 obtain ⟨vs, h1, hr⟩ := h
 refine ⟨vs, ho vs h1, fun i x hi => ?_⟩
 obtain ⟨u0, u1, h0, h1, h2⟩ := hr i x hi
 exact ⟨u0, u1, h0, h1, hR h2⟩
theorem jZ8.at {B : Nat} {w : World} {v : Value} {xs : List Aff} (h : jZ8 B w v xs) : AffsAt w v xs := jZ9.at' (fun h => ⟨h.1.at, h.2⟩) h
theorem jZr.at {B : Nat} {w : World} {v : Value} {xs : List Lp} (h : jZr B w v xs) : jZi w v xs := jZ9.at' (fun h => ⟨h.1.at, h.2.at⟩) h
theorem jZ8.ext {B : Nat} {w w' : World} {v : Value} {xs : List Aff} (h : jZ8 B w v xs) (hb : Ext w w') : jZ8 B w' v xs := jZ9.map' h (fun _ h => jZ3 h hb) (fun h => ⟨h.1.ext hb, h.2⟩)
theorem jZr.ext {B : Nat} {w w' : World} {v : Value} {xs : List Lp} (h : jZr B w v xs) (hb : Ext w w') : jZr B w' v xs := jZ9.map' h (fun _ h => jZ3 h hb) (fun h => ⟨h.1.ext hb, h.2.ext hb⟩)
theorem jZ8.weak {B B' : Nat} {w : World} {v : Value} {xs : List Aff} (h : jZ8 B w v xs) (hB : B' <= B) : jZ8 B' w v xs := jZ9.map' h (fun _ h => jZ7 h hB) (fun h => ⟨h.1.weak hB, h.2⟩)
theorem jZr.weak {B B' : Nat} {w : World} {v : Value} {xs : List Lp} (h : jZr B w v xs) (hB : B' <= B) : jZr B' w v xs := jZ9.map' h (fun _ h => jZ7 h hB) (fun h => ⟨h.1.weak hB, h.2.weak hB⟩)
theorem jZ8.setOld {B : Nat} {w : World} {v : Value} {xs : List Aff} (h : jZ8 B w v xs) {p : Addr} (hp : p.block < B) (u : Value) : jZ8 B (w.setCell p u) v xs := jZ9.map' h (fun _ h => ownsRow_setCell_below h hp u) (fun h => ⟨h.1.setOld hp u, h.2⟩)
theorem jZr.setOld {B : Nat} {w : World} {v : Value} {xs : List Lp} (h : jZr B w v xs) {p : Addr} (hp : p.block < B) (u : Value) : jZr B (w.setCell p u) v xs := jZ9.map' h (fun _ h => ownsRow_setCell_below h hp u) (fun h => ⟨h.1.setOld hp u, h.2.setOld hp u⟩)
def jZE {α : Type} (T : TypeId) (R : Nat -> World -> Value -> Value -> α -> Prop) (B Bi g n : Nat) (xs : List α) (k : Nat) (w : World) : Prop :=
 ∃ vs, w.ownsRow B T 2 (.slice (some ⟨g, 0, none⟩) n n) n vs /\ ∀ i x, i < k -> xs[i]? = some x -> ∃ u0 u1, vs[i * 2]? = some u0 /\ vs[i * 2 + 1]? = some u1 /\ R Bi w u0 u1 x
theorem jZE.open' {α : Type} {T : TypeId} {R : Nat -> World -> Value -> Value -> α -> Prop} {B Bi g n k : Nat} {xs : List α} {w w1 : World} (h : jZE T R B Bi g n xs k w) (hE : Ext w w1) (hk : k < n) :
  w1.frozen? ⟨g, k * 2, none⟩ = false /\ w1.frozen? ⟨g, k * 2 + 1, none⟩ = false /\ (∃ v, w1.cell? ⟨g, k * 2, none⟩ = some v) /\ (∃ v, w1.cell? ⟨g, k * 2 + 1, none⟩ = some v) /\ B <= g /\ g < w1.heap.size := by
 obtain ⟨vs, ho, _⟩ := h
 have ho := jZ3 ho hE
 have hl := ho.1
 have := ho.lt g rfl
 refine ⟨ho.frozenAt _, ho.frozenAt _, ?_, ?_, this.1, this.2⟩
 ·rw [ho.cellAt (k * 2) (by omega)]; exact jZ0 (by omega)
 ·rw [ho.cellAt (k * 2 + 1) (by omega)]; exact jZ0 (by omega)
theorem jZE.step {α : Type} {T : TypeId} {R : Nat -> World -> Value -> Value -> α -> Prop} (hext : ∀ {B w w' u0 u1 x}, R B w u0 u1 x -> Ext w w' -> R B w' u0 u1 x) (hset : ∀ {B w u0 u1 x p u}, R B w u0 u1 x -> Addr.block p < B -> R B (w.setCell p u) u0 u1 x)
  {B g n k : Nat} {xs : List α} {w w1 : World} {u0 u1 : Value} {x : α} (h : jZE T R B (g + 1) g n xs k w) (hE : Ext w w1) (hk : k < n) (hx : xs[k]? = some x) (hr : R (g + 1) w1 u0 u1 x) :
  jZE T R B (g + 1) g n xs (k + 1) ((w1.setCell ⟨g, k * 2, none⟩ u0).setCell ⟨g, k * 2 + 1, none⟩ u1) := by
 obtain ⟨vs, ho, hv⟩ := h
 have ho := jZ3 ho hE
 have hl := ho.1
 refine ⟨_, (((ho.stored (k * 2) u0).1).stored (k * 2 + 1) u1).1, fun i y hi hy => ?_⟩
 by_cases e : i = k
 ·subst e
  rw [hx] at hy; cases hy
  refine ⟨u0, u1, ?_, ?_, hset (hset hr (by simp)) (by simp)⟩
  ·rw [List.getElem?_set_ne (by omega), List.getElem?_set_self (by omega)]
  ·rw [List.getElem?_set_self (by rw [List.length_set]; omega)]
 ·obtain ⟨a0, a1, h0, h1, h2⟩ := hv i y (by omega) hy
  refine ⟨a0, a1, ?_, ?_, hset (hset (hext h2 hE) (by simp)) (by simp)⟩
  ·rw [List.getElem?_set_ne (by omega), List.getElem?_set_ne (by omega)]; exact h0
  ·rw [List.getElem?_set_ne (by omega), List.getElem?_set_ne (by omega)]; exact h1
theorem jZE.done {α : Type} {T : TypeId} {R : Nat -> World -> Value -> Value -> α -> Prop} (hweak : ∀ {B B' w u0 u1 x}, R B w u0 u1 x -> B' <= B -> R B' w u0 u1 x) {B g n : Nat} {xs : List α} {w : World} (h : jZE T R B (g + 1) g n xs n w) (hn : xs.length = n) (hB : B <= g) :
  jZ9 T R B w (.slice (some ⟨g, 0, none⟩) n n) xs := by
 obtain ⟨vs, ho, hv⟩ := h
 refine ⟨vs, by rw [hn]; exact ho, fun i x hi => ?_⟩
 have hlt : i < n := by rw [<- hn]; exact (List.getElem?_eq_some_iff.1 hi).1
 obtain ⟨u0, u1, h0, h1, h2⟩ := hv i x hlt hi
 exact ⟨u0, u1, h0, h1, hweak h2 (by omega)⟩
theorem jXM (p : Option Addr) (n c : Nat) (zs : List Aff) (w : World) (hn : zs.length = n) (hs : AffsAt w (.slice p n c) zs) (hsm : jZV zs) :
  Calls Tryz.prog 268 #[.slice p n c] w fun e w' => ∃ q d, e = .returned (.slice q n d) /\ jZ8 w.heap.size w' (.slice q n d) zs /\ Ext w w' := by
 have hm : n <= 1048576 := by rw [<- hn]; exact hsm.1
 obtain ⟨i0, hi, hz0, hz1, hz2⟩ := info_parts jY4A
 have HS := hid hs; clear hs
 have HN := hid hn; clear hn
 have HSM := hid hsm; clear hsm
 go_enter Tryz.func268, Tryz.ntmps268
 go_wp2_with (at_make; refine wpList_make_full _ rfl _ _ 172 rfl w.heap.size 176 i0 (.agg #[.slice none 0 0, .int .i64 0]) 2 Tryz.underlying172 hi hz0 hz1 _ _ _ _ n rfl rfl rfl rfl ?b2 ?b3 (Nat.le_refl _) ?_)
 case b2 => rw [hz2]; omega
 case b3 => unfold maxLen; omega
 intro w0 hown0 hgrow0
 have HP := hid (show jZE 176 AffO w.heap.size (w.heap.size + 1) w.heap.size n zs 0 w0 from ⟨_, hown0, fun i x hi => absurd hi (by omega)⟩)
 have HG := hid ((Ext.refl w).grown hgrow0 (fun k h => by cases h))
 clear hown0 hgrow0 hi hz0 hz1 hz2
 go_wp2
 go_loopw [4] (fun i wr => ∃ k : Nat, k <= n /\ i = .int .i64 k /\ jZE 176 AffO w.heap.size (w.heap.size + 1) w.heap.size n zs k wr /\ Ext w wr) (fun i _ => n - (intOf i).toNat)
 case atStart => exact ⟨0, by omega, rfl, HP.o, HG.o⟩
 case round =>
  obtain ⟨k, hk, rfl, hrow, hE⟩ := hrel; by_cases hlt : k < n
  ·obtain ⟨x, hx⟩ := jZ0 (xs := zs) (k := k) (by rw [HN.o]; exact hlt)
   obtain ⟨b, off, q, m, rfl, c0, c1, hb, hr⟩ := (HS.o.ext hE).elem hx; have hxs := HSM.o.2 x (List.mem_of_getElem? hx); have HX := hid hx; have HR := hid hr; have HW := hid hrow; clear hx hr hrow; go_wp2_with (fail); refine (jVe _ x.1 x.2 _ HR.o hxs).mono ?_; rintro e w1 ⟨q1, m1, rfl, hv, hE1⟩; obtain ⟨f0, f1, ⟨v0, d0⟩, ⟨v1, d1⟩, hg0, hg1⟩ := HW.o.open' hE1 hlt; have HV := hid (hv.weak (B' := w.heap.size + 1) (by have := HW.o.open' (Ext.refl wr) hlt; omega)); have HE1 := hid hE1; clear hv hE1 c0 c1; go_wp2; go_roundw
   case rel => exact ⟨k + 1, by omega, by go_num, jZE.step (fun h hb => ⟨h.1.ext hb, h.2⟩) (fun h hp => ⟨h.1.setOld hp _, h.2⟩) HW.o HE1.o hlt HX.o ⟨HV.o, rfl⟩, ((hE.trans HE1.o).setCell (Nat.le_refl _) _).setCell (Nat.le_refl _) _⟩
   case measure => simp [intOf]; omega
  ·go_wp2
   go_ret; have e : k = n := by omega
   subst e; exact ⟨_, _, rfl, jZE.done (fun h hB => ⟨h.1.weak hB, h.2⟩) hrow HN.o (Nat.le_refl _), hE⟩
end
section
open Go.RowKit
theorem jWV {W : World} {g : Nat} {a b c : Value} {t : TypeId} (h : W.heap[g]? = some (.cells #[a, b] t (0, 0))) : (W.setCell ⟨g, 0, none⟩ c).heap[g]? = some (.cells #[c, b] t (0, 0)) := by
 rw [heap_setCell_same W g 0 _ _ c h]; rfl
theorem jX7 {W : World} {g : Nat} {a b c : Value} {t : TypeId} (h : W.heap[g]? = some (.cells #[a, b] t (0, 0))) : (W.setCell ⟨g, 1, none⟩ c).heap[g]? = some (.cells #[a, c] t (0, 0)) := by
 rw [heap_setCell_same W g 1 _ _ c h]; rfl
theorem jZb {a : World} {g g' o' : Nat} {o : Obj} (hg : a.heap[g]? = some o) (hne : g ≠ g') (u : Value) : (a.setCell ⟨g', o', none⟩ u).heap[g]? = some o := (Below.heap_setCell _ _ _ _ hne).trans hg
theorem jY3O (s t : Value) (x : Lp) (w : World) (hs : AffsAt w s x.1) (ht : AffsAt w t x.2) (h1 : jZV x.1) (h2 : jZV x.2) :
  Calls Tryz.prog 215 #[.agg #[s, t]] w fun e w' => ∃ p c q d, e = .returned (.agg #[.slice p x.1.length c, .slice q x.2.length d]) /\ jZ8 w.heap.size w' (.slice p x.1.length c) x.1 /\ jZ8 w.heap.size w' (.slice q x.2.length d) x.2 /\ Ext w w' := by
 obtain ⟨p, c, rfl, hm⟩ := hs.form
 obtain ⟨q, d, rfl, hm2⟩ := ht.form
 have HS := hid hs; have HT := hid ht; have H1 := hid h1; have H2 := hid h2; clear hs ht h1 h2
 generalize hga : w.heap.size = ga at *
 have HGA := hid hga; clear hga
 go_enter Tryz.func215, Tryz.ntmps215
 go_wp2_with (fail)
 refine (jXM p _ c x.1 _ rfl (HS.o.ext ((((Ext.refl w).alloc _).alloc _).alloc _)) H1.o).mono ?_
 rintro e W1 ⟨p1, d1, rfl, hv, hE⟩
 have E1 : Hid (Ext w W1) := ((((Ext.refl w).alloc _).alloc _).alloc _).trans hE
 have BA := hE.blk (g := ga) (jZ4 (jZ4 (blk_at HGA.o.symm)))
 have BR := hE.blk (g := ga + 1) (jZ4 (blk_at (by simp [HGA.o])))
 have BO := hE.blk (g := ga + 1 + 1) (blk_at (by simp [HGA.o]))
 have hl := lt_of_block BO
 have HV := hid (hv.weak (B' := ga + 1 + 1 + 1) (by simp [HGA.o]))
 obtain ⟨a0, a1, -, -⟩ := blk2 (jZb (g' := ga + 1 + 1) (o' := 0) BA (by omega) (.slice p1 x.1.length d1))
 obtain ⟨o0, o1, f0, f1⟩ := blk2 BO
 have HBR := hid (jZb (g' := ga + 1 + 1) (o' := 0) BR (by omega) (.slice p1 x.1.length d1))
 have HBO := hid (jWV (c := .slice p1 x.1.length d1) BO)
 have E2 : Hid (Ext w (W1.setCell ⟨ga + 1 + 1, 0, none⟩ (.slice p1 x.1.length d1))) := E1.o.setCell (by rw [HGA.o]; simp <;> omega) _
 have HV2 := hid (HV.o.setOld (p := ⟨ga + 1 + 1, 0, none⟩) (by simp) (.slice p1 x.1.length d1))
 clear hE hv BA BR BO HV
 rw [HGA.o]
 go_wp2_with (fail)
 clear f0 f1 o0 o1 hl E1
 generalize W1.setCell ⟨ga + 1 + 1, 0, none⟩ (.slice p1 x.1.length d1) = W2 at *
 refine (jXM q _ d x.2 _ rfl (HT.o.ext E2.o) H2.o).mono ?_
 rintro e W3 ⟨p3, d3, rfl, hv, hE⟩
 have E3 : Hid (Ext w W3) := E2.o.trans hE
 obtain ⟨o0, o1, f0, f1⟩ := blk2 (hE.blk HBO.o)
 obtain ⟨r0, r1, e0, e1⟩ := blk2 (hE.blk HBR.o)
 have hl := lt_of_block (hE.blk HBO.o)
 have HV3 := hid (HV2.o.ext hE)
 have HY3 := hid (hv.weak (B' := ga + 1 + 1 + 1) (by have := lt_of_block HBO.o; omega))
 clear hE hv HV2 a0 a1 HBO HBR
 go_wp2
 refine bodyPost_ret (v := .agg #[.slice p1 x.1.length d1, .slice p3 x.2.length d3]) (by simp [results, Tryz.results215, go_sem, r0, r1]) rfl ⟨_, _, _, _, rfl, ?_, ?_, ?_⟩
 ·refine jZ8.weak (B := ga + 1 + 1 + 1) ?_ (by omega)
  repeat (refine jZ8.setOld ?_ (by simp <;> omega) _)
  exact HV3.o
 ·refine jZ8.weak (B := ga + 1 + 1 + 1) ?_ (by omega)
  repeat (refine jZ8.setOld ?_ (by simp <;> omega) _)
  exact HY3.o
 ·repeat (refine Ext.setCell ?_ (by rw [HGA.o]; simp <;> omega) _)
  exact E3.o
theorem jY31 (p : Option Addr) (n c : Nat) (zs : List Lp) (w : World) (hn : zs.length = n) (hs : jZi w (.slice p n c) zs) (hsm : jVI zs) :
  Calls Tryz.prog 154 #[.slice p n c] w fun e w' => ∃ q d, e = .returned (.slice q n d) /\ jZr w.heap.size w' (.slice q n d) zs /\ Ext w w' := by
 have hm : n <= 1048576 := by rw [<- hn]; exact hsm.1
 obtain ⟨i0, hi, hz0, hz1, hz2⟩ := info_parts jY6f
 have HS := hid hs; clear hs
 have HN := hid hn; clear hn
 have HSM := hid hsm; clear hsm
 go_enter Tryz.func154, Tryz.ntmps154
 go_wp2_with (at_make; refine wpList_make_full _ rfl _ _ 142 rfl w.heap.size 240 i0 (.agg #[.slice none 0 0, .slice none 0 0]) 2 Tryz.underlying142 hi hz0 hz1 _ _ _ _ n rfl rfl rfl rfl ?b2 ?b3 (Nat.le_refl _) ?_)
 case b2 => rw [hz2]; omega
 case b3 => unfold maxLen; omega
 intro w0 hown0 hgrow0
 have HP := hid (show jZE 240 LoopO w.heap.size (w.heap.size + 1) w.heap.size n zs 0 w0 from ⟨_, hown0, fun i x hi => absurd hi (by omega)⟩)
 have HG := hid ((Ext.refl w).grown hgrow0 (fun k h => by cases h))
 clear hown0 hgrow0 hi hz0 hz1 hz2
 go_wp2
 go_loopw [4] (fun i wr => ∃ k : Nat, k <= n /\ i = .int .i64 k /\ jZE 240 LoopO w.heap.size (w.heap.size + 1) w.heap.size n zs k wr /\ Ext w wr) (fun i _ => n - (intOf i).toNat)
 case atStart => exact ⟨0, by omega, rfl, HP.o, HG.o⟩
 case round =>
  obtain ⟨k, hk, rfl, hrow, hE⟩ := hrel; by_cases hlt : k < n
  ·obtain ⟨x, hx⟩ := jZ0 (xs := zs) (k := k) (by rw [HN.o]; exact hlt)
   obtain ⟨b, off, q, m, q', m', rfl, c0, c1, hb, hr, hr'⟩ := (HS.o.ext hE).elem hx; obtain ⟨hxs, hxs'⟩ := HSM.o.2 x (List.mem_of_getElem? hx); have HX := hid hx; have HR := hid hr; have HR' := hid hr'; have HW := hid hrow; have HXs := hid hxs; have HXs' := hid hxs'; clear hx hr hr' hrow hxs hxs'; go_wp2_with (fail); refine (jY3O _ _ x _ HR.o HR'.o HXs.o HXs'.o).mono ?_; rintro e w1 ⟨q1, m1, q2, m2, rfl, hv, hv', hE1⟩; obtain ⟨f0, f1, ⟨v0, d0⟩, ⟨v1, d1⟩, hg0, hg1⟩ := HW.o.open' hE1 hlt; have hB : w.heap.size + 1 <= wr.heap.size := by have := HW.o.open' (Ext.refl wr) hlt; omega
   have HV := hid (hv.weak (B' := w.heap.size + 1) hB); have HV' := hid (hv'.weak (B' := w.heap.size + 1) hB); have HE1 := hid hE1; clear hv hv' hE1 c0 c1; go_wp2; go_roundw
   case rel => exact ⟨k + 1, by omega, by go_num, jZE.step (fun h hb => ⟨h.1.ext hb, h.2.ext hb⟩) (fun h hp => ⟨h.1.setOld hp _, h.2.setOld hp _⟩) HW.o HE1.o hlt HX.o ⟨HV.o, HV'.o⟩, ((hE.trans HE1.o).setCell (Nat.le_refl _) _).setCell (Nat.le_refl _) _⟩
   case measure => simp [intOf]; omega
  ·go_wp2
   go_ret; have e : k = n := by omega
   subst e; exact ⟨_, _, rfl, jZE.done (fun h hB => ⟨h.1.weak hB, h.2.weak hB⟩) hrow HN.o (Nat.le_refl _), hE⟩
end
section
open Go.RowKit
def lEqB {α : Type} [DecidableEq α] (xs ys : List α) : Bool := decide (xs = ys)
theorem jWJ {α : Type} [DecidableEq α] (xs : List α) : lEqB xs xs = true := by simp [lEqB]
theorem jY15 {α : Type} [DecidableEq α] {xs ys : List α} (h : xs.length ≠ ys.length) : lEqB xs ys = false := by
 unfold lEqB; apply decide_eq_false; intro e; exact h (by rw [e])
theorem jY2F {α : Type} [DecidableEq α] {xs ys : List α} {k : Nat} {x y : α} (hx : xs[k]? = some x) (hy : ys[k]? = some y) (h : x ≠ y) : lEqB xs ys = false := by
 unfold lEqB; apply decide_eq_false; intro e; rw [e, hy] at hx; exact h (Option.some.inj hx).symm
theorem jXE {α : Type} {xs ys : List α} {k : Nat} {x y : α} (hx : xs[k]? = some x) (hy : ys[k]? = some y) (h : xs.take k = ys.take k) (e : x = y) : xs.take (k + 1) = ys.take (k + 1) := by
 rw [jZ6 hx, jZ6 hy, h, e]
theorem jY1q {α : Type} [DecidableEq α] {xs ys : List α} {k : Nat} (hx : xs.length <= k) (hy : ys.length <= k) (h : xs.take k = ys.take k) : lEqB xs ys = true := by
 rw [List.take_of_length_le hx, List.take_of_length_le hy] at h; simp [lEqB, h]
theorem jVS {x y : Aff} : affEqB x.1 x.2 y.1 y.2 = true ↔ x = y := by
 obtain ⟨a, b⟩ := x; obtain ⟨c, d⟩ := y
 simp [affEqB, eqB]
theorem jY3g {x y : Aff} (h : affEqB x.1 x.2 y.1 y.2 = false) : x ≠ y := by
 intro e; rw [jVS.2 e] at h; cases h
theorem jXe (p : Option Addr) (n c : Nat) (q : Option Addr) (n' d : Nat) (xs ys : List Aff) (w : World) (hn : xs.length = n) (hn' : ys.length = n') (hs : AffsAt w (.slice p n c) xs) (ht : AffsAt w (.slice q n' d) ys) :
  Calls Tryz.prog 278 #[.slice p n c, .slice q n' d] w fun e w' => e = .returned (.bool (lEqB xs ys)) /\ Ext w w' := by
 have hm : n <= 9223372036854775807 := by obtain ⟨_, _, hv, hm, _⟩ := hs; rw [<- hn]; exact hm
 have hm2 : n' <= 9223372036854775807 := by obtain ⟨_, _, hv, hm, _⟩ := ht; rw [<- hn']; exact hm
 have HS := hid hs; have HT := hid ht; have HN := hid hn; have HN' := hid hn'; clear hs ht hn hn'
 by_cases hne : n' = n
 ·subst hne
  go_enter Tryz.func278, Tryz.ntmps278
  go_wp2
  go_loopw [5] (fun i wr => ∃ k : Nat, k <= n' /\ i = .int .i64 k /\ xs.take k = ys.take k /\ Ext w wr) (fun i _ => n' - (intOf i).toNat)
  case atStart => exact ⟨0, by omega, rfl, by simp, Ext.refl w⟩
  case round =>
   obtain ⟨k, hk, rfl, htk, hE⟩ := hrel; have HK := hid htk; clear htk; by_cases hlt : k < n'
   ·obtain ⟨x, hx⟩ := jZ0 (xs := xs) (k := k) (by rw [HN.o]; exact hlt)
    obtain ⟨y, hy⟩ := jZ0 (xs := ys) (k := k) (by rw [HN'.o]; exact hlt); obtain ⟨b, off, q1, m1, rfl, a0, a1, hb, hr⟩ := (HS.o.ext hE).elem hx; obtain ⟨b', off', q2, m2, rfl, b0, b1, hb', hr'⟩ := (HT.o.ext hE).elem hy; have HX := hid hx; have HY := hid hy; have HR := hid hr; have HR' := hid hr'; clear hx hy hr hr'; go_wp2_with (fail)
    go_region_held3 (fun W => W.cell? ⟨b, off + k * 2, none⟩ = some (.slice q1 x.1.length m1) /\ W.cell? ⟨b, off + k * 2 + 1, none⟩ = some (.int .i64 x.2) /\ W.cell? ⟨b', off' + k * 2, none⟩ = some (.slice q2 y.1.length m2) /\ W.cell? ⟨b', off' + k * 2 + 1, none⟩ = some (.int .i64 y.2))
     (first | exact ⟨a0, a1, b0, b1⟩ | exact ⟨g3.keep a0, g3.keep a1, g3.keep b0, g3.keep b1⟩ | fail)
     (first | (go_at_call 314; (with_reducible refine (jVh _ _ x.1 y.1 x.2 y.2 _ (HR.o.ext (Ext.refl wr).drew) (HR'.o.ext (Ext.refl wr).drew)).mono ?_); rintro e w3 ⟨rfl, hE3⟩; have g3 := (Ext.refl wr).drew.trans hE3) | fail)
    cases hq : affEqB x.1 x.2 y.1 y.2 with
    | true =>
     have e := jVS.1 hq; go_wp2; go_roundw
     case rel => exact ⟨k + 1, by omega, by go_num, jXE HX.o HY.o HK.o e, hE.trans g3⟩
     case measure => simp [intOf]; omega
    | false =>
     have e := jY3g hq; have HE := hid e; clear e; go_wp2; go_ret; exact ⟨jZ2 (jY2F HX.o HY.o HE.o).symm, hE.trans g3⟩
   ·go_wp2
    go_ret; exact ⟨jZ2 (jY1q (by rw [HN.o]; omega) (by rw [HN'.o]; omega) HK.o).symm, hE⟩
 ·have hb : ((n : Int) != n') = true := by simp; omega
  have HNE := hid hne; clear hne
  go_enter Tryz.func278, Tryz.ntmps278
  go_wp2; go_ret; exact ⟨jZ2 (jY15 (by rw [HN.o, HN'.o]; exact fun e => HNE.o e.symm)).symm, Ext.refl w⟩
end
section
open Go.RowKit
def boundB (d : Int) (a : Aff) : Bool := jZ5 a.1 a.2 && decide (depR a.1 a.2 <= d)
def sideB (zs : List Aff) (d : Int) : Bool := decide (1 <= zs.length /\ zs.length <= 2) && zs.all (boundB d)
def loopB (l : Lp) (d : Int) : Bool := sideB l.1 d && sideB l.2 d
theorem jVJ {a b c d k : Int} (h : jZ5 [a, b, c, d] k = true) : depR [a, b, c, d] k = dep4 a b c d := by unfold depR; rw [if_pos h]; rfl
theorem jXx (p : Option Addr) (n c : Nat) (zs : List Aff) (dd : Int) (w : World) (hn : zs.length = n) (hs : AffsAt w (.slice p n c) zs) :
  Calls Tryz.prog 262 #[.slice p n c, .int .i64 dd] w fun e w' => e = .returned (.bool (sideB zs dd)) /\ Ext w w' := by
 have hm : n <= 9223372036854775807 := by obtain ⟨_, _, hv, hm, _⟩ := hs; rw [<- hn]; exact hm
 have HS := hid hs; have HN := hid hn; clear hs hn
 go_enter Tryz.func262, Tryz.ntmps262
 go_wp2
 go_loopw [5] (fun i wr => ∃ k : Nat, k <= n /\ i = .int .i64 k /\ (zs.take k).all (boundB dd) = true /\ Ext w wr) (fun i _ => n - (intOf i).toNat)
 case atStart => exact ⟨0, by omega, rfl, by simp, Ext.refl w⟩
 case round =>
  obtain ⟨k, hk, rfl, hall, hE⟩ := hrel; have HA := hid hall; clear hall; by_cases hlt : k < n
  ·obtain ⟨x, hx⟩ := jZ0 (xs := zs) (k := k) (by rw [HN.o]; exact hlt)
   obtain ⟨b, off, q, m, rfl, c0, c1, hb, hr⟩ := (HS.o.ext hE).elem hx; have HX := hid hx; have HR := hid hr; clear hx hr; cases hv : jZ5 x.1 x.2 with
   | false =>
    have HV := hid hv; clear hv; go_wp2_with (fail); refine (jZv _ x.1 x.2 _ HR.o).mono ?_; rw [HV.o]; rintro e w1 ⟨rfl, hE1⟩; go_wp2; go_ret; exact ⟨jZ2 (by simp [sideB, jZa (p := boundB dd) HX.o (by simp [boundB, HV.o])]), hE.trans hE1⟩
   | true =>
    obtain ⟨x1, x2⟩ := x; dsimp only at *; obtain ⟨a, b', c', d, rfl, -⟩ := jZj hv; have HV := hid hv; clear hv; go_wp2_with (fail); refine (jZv _ [a, b', c', d] x2 _ HR.o).mono ?_; rw [HV.o]; rintro e w1 ⟨rfl, hE1⟩; replace c0 := hE1.keep c0; replace c1 := hE1.keep c1; go_wp2_with (fail); refine (jXU _ a b' c' d x2 _ (HR.o.ext hE1)).mono ?_; rintro e w2 ⟨rfl, hE2⟩; have hdep : Hid (depR [a, b', c', d] x2 = dep4 a b' c' d) := jVJ HV.o; clear c0 c1; generalize dep4 a b' c' d = D at *; by_cases hd : D <= dd
    ·have hdd : decide (dd < D) = false := by simp; omega
     go_wp2; go_roundw
     case rel => exact ⟨k + 1, by omega, by go_num, jZw HX.o HA.o (by simp [boundB, HV.o, hdep.o, hd]), (hE.trans hE1).trans hE2⟩
     case measure => simp [intOf]; omega
    ·have hdd : decide (dd < D) = true := by simp; omega
     go_wp2; go_ret; refine ⟨jZ2 ?_, (hE.trans hE1).trans hE2⟩; have h0 : boundB dd ([a, b', c', d], x2) = false := by simp only [boundB, HV.o, hdep.o, Bool.true_and]; simp; omega
     simp [sideB, jZa (p := boundB dd) HX.o h0]
  ·have hal : zs.all (boundB dd) = true := jX9 (by rw [HN.o]; omega) HA.o
   have HAl := hid hal; clear hal; by_cases h1 : 1 <= n
   ·have hb1 : decide ((1 : Int) <= n) = true := by simp; omega
    go_wp2; go_ret; refine ⟨jZ2 ?_, hE⟩; simp only [sideB, HAl.o, HN.o, Bool.and_true]; by_cases h2 : n <= 2
    ·simp [h1, h2]; try omega
    ·simp [h1, h2]; try omega
   ·have hb1 : decide ((1 : Int) <= n) = false := by simp; omega
    go_wp2; go_ret; refine ⟨jZ2 ?_, hE⟩; simp only [sideB, HAl.o, HN.o, Bool.and_true]; simp [h1]
end
end Go.Proofs.YtklehkkclojccaaGreat

/- The texts N7 N10 D7 D8 M1 P1 S4, joined. No statement is proved here. -/
import Derived.Test.YtggpjapmhakklaaGreatQL25
import Derived.Test.YtggpjapmhakklaaGreatQL34
import Derived.Deep.RegionLaw
import Derived.Test.YtggpjapmhakklaaGreatQL31
import Derived.Test.YtggpjapmhakklaaGreatQL29
import Derived.Test.YtggpjapmhakklaaGreatQL33
import Derived.Maps.AppendAt
set_option maxRecDepth 100000
set_option maxHeartbeats 8000000
set_option linter.unusedVariables false
set_option linter.unusedSimpArgs false
namespace Go.Proofs.YtggpjapmhakklaaGreat
open Go.Lib (hid)
open Go.RowKit
theorem lp_eq {x y : Lp} (h1 : lEqB x.1 y.1 = true) (h2 : lEqB x.2 y.2 = true) : x = y := by
 obtain ⟨a, b⟩ := x; obtain ⟨c, d⟩ := y
 simp [lEqB] at h1 h2; rw [h1, h2]
def lpEqB (x y : Lp) : Bool := lEqB x.1 y.1 && lEqB x.2 y.2
theorem lp_yes {x y : Lp} (h : lpEqB x y = true) : x = y := by
 unfold lpEqB at h; rw [Bool.and_eq_true] at h; exact lp_eq h.1 h.2
theorem lp_no {x y : Lp} (h : lpEqB x y = false) : x ≠ y := by
 intro e; unfold lpEqB at h; rw [e, lEqB_self, lEqB_self] at h; cases h
theorem eqLoop_any (s t u v : Value) (x y : Lp) (w : World) (hs : AffsAt w s x.1) (ht : AffsAt w t x.2) (hu : AffsAt w u y.1) (hv : AffsAt w v y.2) :
  Calls Tryz.prog 113 #[.agg #[s, t], .agg #[u, v]] w fun e w' => e = .returned (.bool (lpEqB x y)) ∧ Ext w w' := by
 obtain ⟨p, c, rfl, hm⟩ := hs.form
 obtain ⟨q, d, rfl, hm2⟩ := ht.form
 obtain ⟨p', c', rfl, hm'⟩ := hu.form
 obtain ⟨q', d', rfl, hm2'⟩ := hv.form
 have HS := hid hs; have HT := hid ht; have HU := hid hu; have HV := hid hv; clear hs ht hu hv
 have E0 : Ext w _ := ((Ext.refl w).alloc (.cells #[.slice p x.1.length c, .slice q x.2.length d] 182)).alloc (.cells #[.slice p' y.1.length c', .slice q' y.2.length d'] 182)
 cases h1 : lEqB x.1 y.1 with
 | false =>
  have H1 := hid h1; clear h1
  go_enter Tryz.func113, Tryz.ntmps113
  go_wp2_with (fail)
  refine (eqAffineS_any _ _ _ _ _ _ x.1 y.1 _ rfl rfl (HS.out.ext E0) (HU.out.ext E0)).mono ?_
  rw [H1.out]
  rintro e w1 ⟨rfl, hE⟩
  have E1 := E0.trans hE
  go_wp2
  go_ret
  exact ⟨ret_bool (by unfold lpEqB; rw [H1.out]; rfl), E1⟩
 | true =>
  have H1 := hid h1; clear h1
  go_enter Tryz.func113, Tryz.ntmps113
  go_wp2_with (fail)
  refine (eqAffineS_any _ _ _ _ _ _ x.1 y.1 _ rfl rfl (HS.out.ext E0) (HU.out.ext E0)).mono ?_
  rw [H1.out]
  rintro e w1 ⟨rfl, hE⟩
  have E1 := E0.trans hE
  obtain ⟨a0, a1, -, -⟩ := blk2 (hE.blk (g := w.heap.size) (blk_old (blk_at rfl)))
  obtain ⟨b0, b1, -, -⟩ := blk2 (hE.blk (g := w.heap.size + 1) (blk_at (by simp)))
  clear hE
  go_wp2_with (fail)
  refine (eqAffineS_any _ _ _ _ _ _ x.2 y.2 _ rfl rfl (HT.out.ext E1) (HV.out.ext E1)).mono ?_
  rintro e w2 ⟨rfl, hE⟩
  have E2 := E1.trans hE
  clear a0 a1 b0 b1 E0
  cases h2 : lEqB x.2 y.2 with
  | false =>
   go_wp2
   go_ret
   exact ⟨ret_bool (by unfold lpEqB; rw [H1.out, h2]; rfl), E2⟩
  | true =>
   go_wp2
   go_ret
   exact ⟨ret_bool (by unfold lpEqB; rw [H1.out, h2]; rfl), E2⟩
theorem eqLoopS_any (p : Option Addr) (n c : Nat) (q : Option Addr) (n' d : Nat) (xs ys : List Lp) (w : World) (hn : xs.length = n) (hn' : ys.length = n') (hs : LoopsAt w (.slice p n c) xs) (ht : LoopsAt w (.slice q n' d) ys) :
  Calls Tryz.prog 80 #[.slice p n c, .slice q n' d] w fun e w' => e = .returned (.bool (lEqB xs ys)) ∧ Ext w w' := by
 have hm : n ≤ 9223372036854775807 := by obtain ⟨_, _, hv, hm, _⟩ := hs; rw [← hn]; exact hm
 have hm2 : n' ≤ 9223372036854775807 := by obtain ⟨_, _, hv, hm, _⟩ := ht; rw [← hn']; exact hm
 have HS := hid hs; have HT := hid ht; have HN := hid hn; have HN' := hid hn'; clear hs ht hn hn'
 by_cases hne : n' = n
 ·subst hne
  go_enter Tryz.func80, Tryz.ntmps80
  go_wp2
  go_loopw [5] (fun i wr => ∃ k : Nat, k ≤ n' ∧ i = .int .i64 k ∧ xs.take k = ys.take k ∧ Ext w wr) (fun i _ => n' - (intOf i).toNat)
  case atStart => exact ⟨0, by omega, rfl, by simp, Ext.refl w⟩
  case round =>
   obtain ⟨k, hk, rfl, htk, hE⟩ := hrel
   have HK := hid htk; clear htk
   by_cases hlt : k < n'
   ·obtain ⟨x, hx⟩ := get_some (xs := xs) (k := k) (by rw [HN.out]; exact hlt)
    obtain ⟨y, hy⟩ := get_some (xs := ys) (k := k) (by rw [HN'.out]; exact hlt)
    obtain ⟨b, off, q1, m1, q2, m2, rfl, a0, a1, hb, hr1, hr2⟩ := (HS.out.ext hE).elem hx
    obtain ⟨b', off', q3, m3, q4, m4, rfl, b0, b1, hb', hr3, hr4⟩ := (HT.out.ext hE).elem hy
    have HX := hid hx; have HY := hid hy; have HR1 := hid hr1; have HR2 := hid hr2; have HR3 := hid hr3; have HR4 := hid hr4; clear hx hy hr1 hr2 hr3 hr4
    go_wp2_with (fail)
    go_region_held3 (fun W => W.cell? ⟨b, off + k * 2, none⟩ = some (.slice q1 x.1.length m1) ∧ W.cell? ⟨b, off + k * 2 + 1, none⟩ = some (.slice q2 x.2.length m2) ∧ W.cell? ⟨b', off' + k * 2, none⟩ = some (.slice q3 y.1.length m3) ∧ W.cell? ⟨b', off' + k * 2 + 1, none⟩ = some (.slice q4 y.2.length m4))
     (first | exact ⟨a0, a1, b0, b1⟩ | exact ⟨g3.keep a0, g3.keep a1, g3.keep b0, g3.keep b1⟩ | fail)
     (first | (go_at_call 113; (with_reducible refine (eqLoop_any _ _ _ _ x y _ (HR1.out.ext (Ext.refl wr).drew) (HR2.out.ext (Ext.refl wr).drew) (HR3.out.ext (Ext.refl wr).drew) (HR4.out.ext (Ext.refl wr).drew)).mono ?_); rintro e w3 ⟨rfl, hE3⟩; have g3 := (Ext.refl wr).drew.trans hE3) | fail)
    cases h1 : lpEqB x y with
    | false =>
     have HE := hid (lp_no h1)
     go_wp2
     go_ret
     exact ⟨ret_bool (lEqB_ne HX.out HY.out HE.out).symm, hE.trans g3⟩
    | true =>
     have e := lp_yes h1
     go_wp2
     go_roundw
     case rel => exact ⟨k + 1, by omega, by go_num, ltake_eq_next HX.out HY.out HK.out e, hE.trans g3⟩
     case measure => simp [intOf]; omega
   ·go_wp2
    go_ret
    exact ⟨ret_bool (lEqB_all (by rw [HN.out]; omega) (by rw [HN'.out]; omega) HK.out).symm, hE⟩
 ·have hb : ((n : Int) != n') = true := by simp; omega
  have HNE := hid hne; clear hne
  go_enter Tryz.func80, Tryz.ntmps80
  go_wp2
  go_ret
  exact ⟨ret_bool (lEqB_len (by rw [HN.out, HN'.out]; exact fun e => HNE.out e.symm)).symm, Ext.refl w⟩
end Go.Proofs.YtggpjapmhakklaaGreat
namespace Go.Proofs.YtggpjapmhakklaaGreat
open Go.Lib (hid)
open Go.RowKit
end Go.Proofs.YtggpjapmhakklaaGreat
namespace Go.Proofs.YtggpjapmhakklaaGreat
open Go.Lib (hid)
open Go.RowKit
end Go.Proofs.YtggpjapmhakklaaGreat
namespace Go.Proofs.YtggpjapmhakklaaGreat
open Go.Lib (hid)
open Go.RowKit
theorem row_at {B n : Nat} {w : World} {v : Value} {xs : List Int} (h : w.ownsRow B 3 1 v n (xs.map (Value.int .i64))) (hn : xs.length = n) : IntsAt w v xs := (IntsOwn.mk h hn).at
end Go.Proofs.YtggpjapmhakklaaGreat
namespace Go.Proofs.YtggpjapmhakklaaGreat
open Go.Lib (hid)
open Go.RowKit
end Go.Proofs.YtggpjapmhakklaaGreat
namespace Go.Proofs.YtggpjapmhakklaaGreat
open Go.Lib (hid)
open Go.RowKit
structure Kp (F : List Nat) (w w' : World) : Prop where
 os : w'.os = w.os
 tape : w'.tape = w.tape
 output : w'.output = w.output
 size : w.heap.size ≤ w'.heap.size
 block : ∀ b, b < w.heap.size → b ∉ F → w'.heap[b]? = w.heap[b]?
theorem Kp.refl (F : List Nat) (w : World) : Kp F w w := ⟨rfl, rfl, rfl, Nat.le_refl _, fun _ _ _ => rfl⟩
theorem Kp.trans {F : List Nat} {a b c : World} (h : Kp F a b) (k : Kp F b c) : Kp F a c :=
 ⟨k.os.trans h.os, k.tape.trans h.tape, k.output.trans h.output, Nat.le_trans h.size k.size, fun i hi hf => (k.block i (Nat.lt_of_lt_of_le hi h.size) hf).trans (h.block i hi hf)⟩
theorem Kp.mono {F G : List Nat} {a b : World} (h : Kp F a b) (hs : ∀ x ∈ F, x ∈ G) : Kp G a b :=
 ⟨h.os, h.tape, h.output, h.size, fun i hi hg => h.block i hi (fun hf => hg (hs i hf))⟩
theorem Kp.of_grown {a b : World} {r : Option Nat} (h : a.grownBy b r) : Kp r.toList a b :=
 ⟨h.os, h.tape, h.output, h.size, fun i hi hf => h.block i hi (fun e => hf (by rw [← e]; simp))⟩
theorem Kp.of_ext {F : List Nat} {a b : World} (h : Ext a b) : Kp F a b := ⟨h.os, h.tape, h.output, h.size, fun i hi _ => h.block i hi⟩
theorem Kp.ext {F : List Nat} {W a b : World} (h : Kp F a b) (hE : Ext W a) (hF : ∀ x ∈ F, W.heap.size ≤ x) : Ext W b :=
 ⟨h.os.trans hE.os, h.tape.trans hE.tape, h.output.trans hE.output, Nat.le_trans hE.size h.size, fun i hi => (h.block i (Nat.lt_of_lt_of_le hi hE.size) (fun hf => by have := hF i hf; omega)).trans (hE.block i hi)⟩
theorem Kp.set (w : World) (g o : Nat) (v : Value) : Kp [g] w (w.setCell ⟨g, o, none⟩ v) :=
 ⟨rfl, rfl, rfl, by simp, fun i _ hf => heap_setCell_other w ⟨g, o, none⟩ i v (fun e => hf (by simp [e]))⟩
def IntsF (B : Nat) (w : World) (v : Value) (xs : List Int) (F : List Nat) : Prop := IntsOwn B w v xs ∧ F = v.ownBlock.toList
theorem IntsF.lt {F : List Nat} {B : Nat} {w : World} {v : Value} {xs : List Int} (h : IntsF B w v xs F) : ∀ x ∈ F, B ≤ x ∧ x < w.heap.size := by
 intro x hx
 rw [h.2, Option.mem_toList] at hx
 exact h.1.lt x hx
def PairsF {α : Type} (T : TypeId) (R : Nat → World → Value → Value → α → List Nat → Prop) (B : Nat) (w : World) (v : Value) (xs : List α) (F : List Nat) : Prop :=
 ∃ (vs : List Value) (Fs : List (List Nat)), w.ownsRow B T 2 v xs.length vs ∧ Fs.length = xs.length ∧ F = v.ownBlock.toList ++ Fs.flatten ∧ F.Nodup ∧
  ∀ i x, xs[i]? = some x → ∃ u0 u1 Fi, vs[i * 2]? = some u0 ∧ vs[i * 2 + 1]? = some u1 ∧ Fs[i]? = some Fi ∧ R B w u0 u1 x Fi
theorem mem_flat {Fs : List (List Nat)} {i : Nat} {Fi : List Nat} (h : Fs[i]? = some Fi) {x : Nat} (hx : x ∈ Fi) : x ∈ Fs.flatten := List.mem_flatten.2 ⟨Fi, List.mem_of_getElem? h, hx⟩
end Go.Proofs.YtggpjapmhakklaaGreat
namespace Go.Proofs.YtggpjapmhakklaaGreat
open Go.Lib (hid)
open Go.RowKit
def AffF (B : Nat) (w : World) (u0 u1 : Value) (a : Aff) (F : List Nat) : Prop := IntsF B w u0 a.1 F ∧ u1 = .int .i64 a.2
def AffsF : Nat → World → Value → List Aff → List Nat → Prop := PairsF 98 AffF
def LoopF (B : Nat) (w : World) (u0 u1 : Value) (x : Lp) (F : List Nat) : Prop := ∃ F0 F1, F = F0 ++ F1 ∧ F.Nodup ∧ AffsF B w u0 x.1 F0 ∧ AffsF B w u1 x.2 F1
def LoopsF : Nat → World → Value → List Lp → List Nat → Prop := PairsF 182 LoopF
theorem PairsF.at' {α : Type} {T : TypeId} {R : Nat → World → Value → Value → α → List Nat → Prop} {Q : World → Value → Value → α → Prop} (hq : ∀ {B w u0 u1 x F}, R B w u0 u1 x F → Q w u0 u1 x) {B : Nat} {w : World} {v : Value} {xs : List α} {F : List Nat} (h : PairsF T R B w v xs F) : PairsAt Q w v xs := by
 obtain ⟨vs, Fs, ho, hl, hF, hn, he⟩ := h
 rcases ho.2 with ⟨rfl, hn0⟩ | ⟨g, cap, cur, rfl, _⟩
 ·refine ⟨none, 0, by rw [hn0], by omega, fun i x hi => ?_⟩
  rw [List.eq_nil_of_length_eq_zero hn0] at hi; simp at hi
 ·refine PairsAt.own ho rfl (fun i x hi => ?_)
  obtain ⟨u0, u1, Fi, h0, h1, h2, h3⟩ := he i x hi
  exact ⟨u0, u1, h0, h1, hq h3⟩
theorem AffsF.at {B : Nat} {w : World} {v : Value} {xs : List Aff} {F : List Nat} (h : AffsF B w v xs F) : AffsAt w v xs := PairsF.at' (fun h => ⟨h.1.1.at, h.2⟩) h
theorem LoopsF.at {B : Nat} {w : World} {v : Value} {xs : List Lp} {F : List Nat} (h : LoopsF B w v xs F) : LoopsAt w v xs :=
 PairsF.at' (fun h => by obtain ⟨_, _, _, _, h0, h1⟩ := h; exact ⟨h0.at, h1.at⟩) h
theorem PairsF.form {α : Type} {T : TypeId} {R : Nat → World → Value → Value → α → List Nat → Prop} {B : Nat} {w : World} {v : Value} {xs : List α} {F : List Nat} (h : PairsF T R B w v xs F) (h0 : 0 < xs.length) : ∃ g c, v = .slice (some ⟨g, 0, none⟩) xs.length c := by
 obtain ⟨vs, Fs, ho, _⟩ := h
 rcases ho.2 with ⟨_, hn0⟩ | ⟨g, cap, cur, e, _⟩
 ·omega
 ·exact ⟨g, cap, e⟩
theorem PairsF.mem {α : Type} {T : TypeId} {R : Nat → World → Value → Value → α → List Nat → Prop} {B g n c : Nat} {w : World} {xs : List α} {F : List Nat} (h : PairsF T R B w (.slice (some ⟨g, 0, none⟩) n c) xs F) : g ∈ F := by
 obtain ⟨vs, Fs, ho, hl, hF, _⟩ := h
 rw [hF]; simp [Value.ownBlock]
end Go.Proofs.YtggpjapmhakklaaGreat
namespace Go.Proofs.YtggpjapmhakklaaGreat
open Go.Lib (hid)
open Go.RowKit
theorem drop_cons {α : Type} {l : List α} {i : Nat} {a : α} (h : l[i]? = some a) : l.drop i = a :: l.drop (i + 1) := by
 rw [List.drop_eq_getElem_cons (List.getElem?_eq_some_iff.1 h).1, (List.getElem?_eq_some_iff.1 h).2]
end Go.Proofs.YtggpjapmhakklaaGreat
namespace Go.Proofs.YtggpjapmhakklaaGreat
open Go.Lib (hid)
open Go.RowKit
theorem PairsF.push {α : Type} {T : TypeId} {R : Nat → World → Value → Value → α → List Nat → Prop} (hR : ∀ {B w w' u0 u1 x F G}, R B w u0 u1 x F → Kp G w w' → (∀ y ∈ F, y ∉ G) → R B w' u0 u1 x F) {B n : Nat} {w w' : World} {v v' u0 u1 : Value} {xs : List α} {x : α} {F Fx : List Nat} {vs : List Value} {Fs : List (List Nat)}
  (hxn' : xs.length = n) (hl : Fs.length = xs.length) (hF : F = v.ownBlock.toList ++ Fs.flatten) (hn : F.Nodup)
  (he : ∀ i x, xs[i]? = some x → ∃ u0 u1 Fi, vs[i * 2]? = some u0 ∧ vs[i * 2 + 1]? = some u1 ∧ Fs[i]? = some Fi ∧ R B w u0 u1 x Fi) (hvl : vs.length = n * 2)
  (ho' : w'.ownsRow B T 2 v' (n + 1) (vs ++ [u0, u1])) (hg : w.grownBy w' v.ownBlock) (hat : v'.ownBlock = v.ownBlock ∨ v'.ownBlock = some w.heap.size)
  (hx : R B w u0 u1 x Fx) (hxn : Fx.Nodup) (hxd : ∀ y ∈ Fx, y ∉ F) (hFlt : ∀ y ∈ F, y < w.heap.size) (hxlt : ∀ y ∈ Fx, y < w.heap.size) :
  ∃ F', PairsF T R B w' v' (xs ++ [x]) F' ∧ ∀ y ∈ F', y < w'.heap.size := by
 rw [hF] at hn
 have hna := List.nodup_append.1 hn
 have hk : Kp v.ownBlock.toList w w' := Kp.of_grown hg
 have hvF : ∀ y ∈ v.ownBlock.toList, y ∈ F := fun y hy => by rw [hF]; exact List.mem_append_left _ hy
 have hfF : ∀ y ∈ Fs.flatten, y ∈ F := fun y hy => by rw [hF]; exact List.mem_append_right _ hy
 refine ⟨v'.ownBlock.toList ++ (Fs ++ [Fx]).flatten, ⟨vs ++ [u0, u1], Fs ++ [Fx], ?_, ?_, rfl, ?_, ?_⟩, ?_⟩
 ·rw [List.length_append, hxn']; exact ho'
 ·simp [hl]
 ·rw [List.flatten_append, List.flatten_cons, List.flatten_nil, List.append_nil]
  refine List.nodup_append.2 ⟨?_, List.nodup_append.2 ⟨hna.2.1, hxn, fun a ha b hb e => hxd b hb (by rw [← e]; exact hfF a ha)⟩, ?_⟩
  ·cases v'.ownBlock with
   | none => exact List.nodup_nil
   | some b => simp
  ·intro a ha b hb e
   subst e
   rcases hat with h | h
   ·rw [h] at ha
    rcases List.mem_append.1 hb with hb | hb
    ·exact hna.2.2 a ha a hb rfl
    ·exact hxd a hb (hvF a ha)
   ·rw [h, Option.mem_toList] at ha
    have ha' : w.heap.size = a := Option.some.inj ha
    rcases List.mem_append.1 hb with hb | hb
    ·have := hFlt a (hfF a hb); omega
    ·have := hxlt a hb; omega
 ·intro i y hi
  rcases Nat.lt_or_ge i xs.length with hlt | hge
  ·rw [List.getElem?_append_left hlt] at hi
   obtain ⟨t0, t1, Fi, g0, g1, g2, g3⟩ := he i y hi
   refine ⟨t0, t1, Fi, by rw [List.getElem?_append_left (by omega)]; exact g0, by rw [List.getElem?_append_left (by omega)]; exact g1, by rw [List.getElem?_append_left (by omega)]; exact g2, hR g3 hk (fun z hz hz' => hna.2.2 z hz' z (mem_flat g2 hz) rfl)⟩
  ·rw [List.getElem?_append_right hge] at hi
   have hi0 : i - xs.length = 0 := by
    rcases Nat.eq_zero_or_pos (i - xs.length) with h | h
    ·exact h
    ·rw [List.getElem?_eq_none (by simp; omega)] at hi; cases hi
   rw [hi0] at hi
   simp at hi
   subst hi
   have hin : i = n := by omega
   subst hin
   exact ⟨u0, u1, Fx, by rw [List.getElem?_append_right (by omega)]; simp [hvl], by rw [List.getElem?_append_right (by omega), hvl]; simp [show i * 2 + 1 - i * 2 = 1 by omega], by rw [List.getElem?_append_right (by omega)]; simp [hl, hxn'], hR hx hk (fun z hz hz' => hxd z hz (hvF z hz'))⟩
 ·intro y hy
  rw [List.flatten_append, List.flatten_cons, List.flatten_nil, List.append_nil] at hy
  have hs := hk.size
  rcases List.mem_append.1 hy with hy | hy
  ·rw [Option.mem_toList] at hy
   exact (ho'.lt y hy).2
  ·rcases List.mem_append.1 hy with hy | hy
   ·have := hFlt y (hfF y hy); omega
   ·have := hxlt y hy; omega
theorem IntsF.weak {B B' : Nat} {w : World} {v : Value} {xs : List Int} {F : List Nat} (h : IntsF B w v xs F) (hB : B' ≤ B) : IntsF B' w v xs F := ⟨h.1.weak hB, h.2⟩
theorem AffsF.weak {B B' : Nat} {w : World} {v : Value} {xs : List Aff} {F : List Nat} (h : AffsF B w v xs F) (hB : B' ≤ B) : AffsF B' w v xs F := by
 obtain ⟨vs, Fs, ho, hl, hF, hn, he⟩ := h
 refine ⟨vs, Fs, ownsRow_weak ho hB, hl, hF, hn, fun i x hi => ?_⟩
 obtain ⟨u0, u1, Fi, h0, h1, h2, h3⟩ := he i x hi
 exact ⟨u0, u1, Fi, h0, h1, h2, h3.1.weak hB, h3.2⟩
end Go.Proofs.YtggpjapmhakklaaGreat
namespace Go.Proofs.YtggpjapmhakklaaGreat
open Go.Lib (hid)
open Go.RowKit
theorem LoopsF.nil (B : Nat) (w : World) : LoopsF B w (.slice none 0 0) [] [] := ⟨[], [], World.ownsRow_nil _ _ _ _, rfl, rfl, List.nodup_nil, fun i x hi => by simp at hi⟩
theorem PairsF.slice {α : Type} {T : TypeId} {R : Nat → World → Value → Value → α → List Nat → Prop} {B : Nat} {w : World} {v : Value} {xs : List α} {F : List Nat} (h : PairsF T R B w v xs F) : ∃ p c, v = .slice p xs.length c := by
 obtain ⟨vs, Fs, ho, _⟩ := h
 rcases ho.2 with ⟨rfl, hn0⟩ | ⟨g, cap, cur, e, _⟩
 ·exact ⟨none, 0, by rw [hn0]⟩
 ·exact ⟨_, cap, e⟩
end Go.Proofs.YtggpjapmhakklaaGreat
namespace Go.Proofs.YtggpjapmhakklaaGreat
open Go.Lib (hid)
open Go.RowKit
theorem eqAccess_same (arr : ByteArray) (s t : Value) (subs : List Aff) (w : World) (hs : AffsAt w s subs) (ht : AffsAt w t subs) :
  Calls Tryz.prog 142 #[.agg #[.string arr, s], .agg #[.string arr, t]] w fun e w' => e = .returned (.bool true) ∧ Ext w w' := by
 obtain ⟨p, c, rfl, hm⟩ := hs.form
 obtain ⟨q, d, rfl, -⟩ := ht.form
 have HS := hid hs; have HT := hid ht; clear hs ht
 go_enter Tryz.func142, Tryz.ntmps142
 go_wp2_with (fail)
 refine (eqAffineS_any p _ c q _ d subs subs _ rfl rfl (HS.out.ext (((Ext.refl w).alloc _).alloc _)) (HT.out.ext (((Ext.refl w).alloc _).alloc _))).mono ?_
 rw [lEqB_self]
 rintro e W1 ⟨rfl, hE⟩
 have E1 := hid ((((Ext.refl w).alloc _).alloc _).trans hE)
 clear hE
 go_wp2
 go_ret
 exact ⟨rfl, E1.out⟩
def EqE (w : World) (cs : List Value) (e : Ex) : Prop := ∀ (ds : List Value), ExR w ds e → ∀ (w' : World), Ext w w' → Calls Tryz.prog 143 #[.agg cs.toArray, .agg ds.toArray] w' fun r w2 => r = .returned (.bool true) ∧ Ext w' w2
theorem eqExprS_of (w0 : World) (p q : Option Addr) (n c d : Nat) (es : List Ex) (us vs : Nat → List Value) (hn : es.length = n) (hm : n ≤ 9223372036854775807)
  (hc : ∀ (i : Nat) (e : Ex), es[i]? = some e → ∃ b off, p = some ⟨b, off, none⟩ ∧ b < w0.heap.size ∧ ∀ (j : Nat) (v : Value), (us i)[j]? = some v → w0.cell? ⟨b, off + i * 7 + j, none⟩ = some v)
  (hd : ∀ (i : Nat) (e : Ex), es[i]? = some e → ∃ b off, q = some ⟨b, off, none⟩ ∧ b < w0.heap.size ∧ ∀ (j : Nat) (v : Value), (vs i)[j]? = some v → w0.cell? ⟨b, off + i * 7 + j, none⟩ = some v)
  (hk : ∀ (i : Nat) (e : Ex), es[i]? = some e → ExR w0 (us i) e) (hk' : ∀ (i : Nat) (e : Ex), es[i]? = some e → ExR w0 (vs i) e) (IH : ∀ (i : Nat) (e : Ex), es[i]? = some e → EqE w0 (us i) e) (w : World) (hE0 : Ext w0 w) :
  Calls Tryz.prog 163 #[.slice p n c, .slice q n d] w fun e w' => e = .returned (.bool true) ∧ Ext w w' := by
 have HC := hid hc; have HD := hid hd; have HK := hid hk; have HK' := hid hk'; have HI := hid IH; have HN := hid hn; have HE0 := hid hE0; clear hc hd hk hk' IH hn hE0
 go_enter Tryz.func163, Tryz.ntmps163
 go_wp2
 go_loopw [5] (fun i wr => ∃ k : Nat, k ≤ n ∧ i = .int .i64 k ∧ Ext w wr) (fun i _ => n - (intOf i).toNat)
 case atStart => exact ⟨0, by omega, rfl, Ext.refl w⟩
 case round =>
  obtain ⟨k, hk, rfl, hE⟩ := hrel
  by_cases hlt : k < n
  ·obtain ⟨x, hx⟩ := get_some (xs := es) (k := k) (by rw [HN.out]; exact hlt)
   have E0 : Ext w0 wr := HE0.out.trans hE
   obtain ⟨b, off, rfl, hb, hcell⟩ := HC.out k x hx
   obtain ⟨b', off', rfl, hb', hcell'⟩ := HD.out k x hx
   have hi := HI.out k x hx (vs k) (HK'.out k x hx) wr.drew (E0.trans (Ext.refl wr).drew)
   obtain ⟨u, s, v, hcs, -, -, -, -⟩ := (HK.out k x hx).parts
   obtain ⟨u', s', v', hcs', -, -, -, -⟩ := (HK'.out k x hx).parts
   rw [hcs] at hcell hi
   rw [hcs'] at hcell' hi
   have c0 := E0.keep (hcell 0 _ rfl); have c1 := E0.keep (hcell 1 _ rfl); have c2 := E0.keep (hcell 2 _ rfl); have c3 := E0.keep (hcell 3 _ rfl); have c4 := E0.keep (hcell 4 _ rfl); have c5 := E0.keep (hcell 5 _ rfl); have c6 := E0.keep (hcell 6 _ rfl)
   have d0 := E0.keep (hcell' 0 _ rfl); have d1 := E0.keep (hcell' 1 _ rfl); have d2 := E0.keep (hcell' 2 _ rfl); have d3 := E0.keep (hcell' 3 _ rfl); have d4 := E0.keep (hcell' 4 _ rfl); have d5 := E0.keep (hcell' 5 _ rfl); have d6 := E0.keep (hcell' 6 _ rfl)
   rw [Nat.add_zero] at c0 d0
   have HI2 := hid hi; have HE := hid hE
   clear hx hi hcell hcell' E0 hcs hcs' hE
   go_wp2_with (fail)
   go_region_held3 (fun W => W.cell? ⟨b, off + k * 7, none⟩ = some (.int .i64 x.kind) ∧ W.cell? ⟨b, off + k * 7 + 1, none⟩ = some (.int .i64 x.num) ∧ W.cell? ⟨b, off + k * 7 + 2, none⟩ = some u ∧ W.cell? ⟨b, off + k * 7 + 3, none⟩ = some (.int .i64 x.ix.2) ∧ W.cell? ⟨b, off + k * 7 + 4, none⟩ = some (.string x.arr) ∧ W.cell? ⟨b, off + k * 7 + 5, none⟩ = some s ∧ W.cell? ⟨b, off + k * 7 + 6, none⟩ = some v ∧ W.cell? ⟨b', off' + k * 7, none⟩ = some (.int .i64 x.kind) ∧ W.cell? ⟨b', off' + k * 7 + 1, none⟩ = some (.int .i64 x.num) ∧ W.cell? ⟨b', off' + k * 7 + 2, none⟩ = some u' ∧ W.cell? ⟨b', off' + k * 7 + 3, none⟩ = some (.int .i64 x.ix.2) ∧ W.cell? ⟨b', off' + k * 7 + 4, none⟩ = some (.string x.arr) ∧ W.cell? ⟨b', off' + k * 7 + 5, none⟩ = some s' ∧ W.cell? ⟨b', off' + k * 7 + 6, none⟩ = some v')
    (first | exact ⟨c0, c1, c2, c3, c4, c5, c6, d0, d1, d2, d3, d4, d5, d6⟩ | exact ⟨g3.keep c0, g3.keep c1, g3.keep c2, g3.keep c3, g3.keep c4, g3.keep c5, g3.keep c6, g3.keep d0, g3.keep d1, g3.keep d2, g3.keep d3, g3.keep d4, g3.keep d5, g3.keep d6⟩ | fail)
    (first | (go_at_call 143; (with_reducible refine HI2.out.mono ?_); rintro e w3 ⟨rfl, hE3⟩; have g3 := (Ext.refl wr).drew.trans hE3) | fail)
   go_wp2
   go_roundw
   case rel => exact ⟨k + 1, by omega, by go_num, HE.out.trans g3⟩
   case measure => simp [intOf]; omega
  ·go_wp2
   go_ret
   exact ⟨rfl, hE⟩
theorem eqExpr_same {w : World} {cs : List Value} {e : Ex} (h : ExR w cs e) : EqE w cs e := by
 induction h with
 | mk kind num k u s xs arr subs p cap kids us hu ha hs hl hc hk ih =>
  intro ds hds w' hE
  cases hds with
  | mk _ _ _ u' s' _ _ _ p' cap' _ us' hu' ha' hs' hl' hc' hk' =>
  obtain ⟨pu, cu, rfl, hmu, -⟩ := id hu
  obtain ⟨pu', cu', rfl, -, -⟩ := id hu'
  obtain ⟨ps, cs, rfl, hms⟩ := hs.form
  obtain ⟨ps', cs', rfl, -⟩ := hs'.form
  have HU := hid hu; have HU' := hid hu'; have HS := hid hs; have HS' := hid hs'; have HC := hid hc; have HC' := hid hc'; have HK := hid hk; have HK' := hid hk'; have HI := hid ih; have HE := hid hE
  clear hs hs' hc hc' hk hk' ih hu hu' hE
  go_enter Tryz.func143, Tryz.ntmps143
  go_wp2_with (fail)
  have EA : Ext w ((w'.alloc (.cells #[.int .i64 kind, .int .i64 num, .slice pu xs.length cu, .int .i64 k, .string arr, .slice ps subs.length cs, .slice p kids.length cap] 101)).alloc (.cells #[.int .i64 kind, .int .i64 num, .slice pu' xs.length cu', .int .i64 k, .string arr, .slice ps' subs.length cs', .slice p' kids.length cap'] 101)) := HE.out.trans (((Ext.refl w').alloc _).alloc _)
  refine (eqAffine_any _ _ xs xs k k _ (HU.out.ext EA) (HU'.out.ext EA)).mono ?_
  rw [affEqB_self]
  rintro e W1 ⟨rfl, hE1⟩
  have E1 : Hid (Ext w' W1) := hid ((((Ext.refl w').alloc _).alloc _).trans hE1)
  have BA := hE1.blk (g := w'.heap.size) (blk_old (blk_at rfl))
  have BB := hE1.blk (g := w'.heap.size + 1) (blk_at (by simp))
  obtain ⟨-, -, -, -, a4, a5, a6⟩ := blk7 BA
  obtain ⟨-, -, -, -, b4, b5, b6⟩ := blk7 BB
  have HBA := hid BA; have HBB := hid BB
  clear hE1 BA BB EA
  go_wp2_with (fail)
  refine (eqAccess_same arr _ _ subs _ (HS.out.ext (HE.out.trans E1.out)) (HS'.out.ext (HE.out.trans E1.out))).mono ?_
  rintro e W2 ⟨rfl, hE2⟩
  have E2 : Hid (Ext w' W2) := hid (E1.out.trans hE2)
  obtain ⟨-, -, -, -, -, -, c6⟩ := blk7 (hE2.blk HBA.out)
  obtain ⟨-, -, -, -, -, -, d6⟩ := blk7 (hE2.blk HBB.out)
  clear hE2 a4 a5 a6 b4 b5 b6 HBA HBB
  go_wp2_with (fail)
  refine (eqExprS_of w p p' _ cap cap' kids us us' rfl hl HC.out HC'.out HK.out HK'.out HI.out W2 (HE.out.trans E2.out)).mono ?_
  rintro e W3 ⟨rfl, hE3⟩
  have E3 : Hid (Ext w' W3) := hid (E2.out.trans hE3)
  clear hE3 c6 d6
  go_wp2
  go_ret
  exact ⟨rfl, E3.out⟩
theorem eqStmt_same (v v' : Value) (arr : ByteArray) (subs : List Aff) (e : Ex) (w : World) (hs : StR w v arr subs e) (ht : StR w v' arr subs e) :
  Calls Tryz.prog 114 #[v, v'] w fun r w' => r = .returned (.bool true) ∧ Ext w w' := by
 obtain ⟨q1, d1, q2, d2, q3, d3, q4, d4, rfl, ha, hs1, he⟩ := hs.parts
 obtain ⟨p1, c1, p2, c2, p3, c3, p4, c4, rfl, -, ht1, he'⟩ := ht.parts
 have HS := hid hs1; have HE := hid he; have HT := hid ht1; have HE' := hid he'; clear hs hs1 he ht ht1 he'
 go_enter Tryz.func114, Tryz.ntmps114
 go_wp2_with (fail)
 refine (eqAccess_same arr _ _ subs _ (HS.out.ext (((Ext.refl w).alloc _).alloc _)) (HT.out.ext (((Ext.refl w).alloc _).alloc _))).mono ?_
 rintro r W1 ⟨rfl, hE1⟩
 have E1 : Hid (Ext w W1) := hid ((((Ext.refl w).alloc _).alloc _).trans hE1)
 obtain ⟨-, -, x2, x3, x4, x5, x6, x7, x8⟩ := blk9 (hE1.blk (g := w.heap.size) (blk_old (blk_at rfl)))
 obtain ⟨-, -, y2, y3, y4, y5, y6, y7, y8⟩ := blk9 (hE1.blk (g := w.heap.size + 1) (blk_at (by simp)))
 clear hE1
 go_wp2_with (fail)
 refine (eqExpr_same HE.out _ HE'.out W1 E1.out).mono ?_
 rintro r W2 ⟨rfl, hE2⟩
 have E2 : Hid (Ext w W2) := hid (E1.out.trans hE2)
 clear hE2 x2 x3 x4 x5 x6 x7 x8 y2 y3 y4 y5 y6 y7 y8
 go_wp2
 go_ret
 exact ⟨rfl, E2.out⟩
end Go.Proofs.YtggpjapmhakklaaGreat

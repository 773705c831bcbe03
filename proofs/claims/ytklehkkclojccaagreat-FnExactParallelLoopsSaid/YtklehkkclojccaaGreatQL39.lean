/- The texts G33, joined. No statement is proved here. -/
import Derived.Test.YtklehkkclojccaaGreatQL38
set_option maxRecDepth 100000
set_option maxHeartbeats 8000000
set_option linter.unusedVariables false
set_option linter.unusedSimpArgs false
namespace Go.Proofs.YtklehkkclojccaaGreat
open Go.Lib (hid)
open Go.RowKit
def Wt (c : Int) (m : Nat) (left z : Int) : Prop := (m : Int) <= 5 * (left - z) + c
theorem Wt.step {α : Type} {f : α -> Nat} {xs : List α} {k : Nat} {x : α} {c l z y : Int} (hc : c <= 5) (hx : xs[k]? = some x) (h : Wt (5 * k) (tot f (xs.take k)) l z) (h2 : Wt c (f x) z y) : Wt (5 * ((k + 1 : Nat) : Int)) (tot f (xs.take (k + 1))) l y := by
 unfold Wt at *
 rw [jXr f hx]
 omega
theorem Wt.fin {α : Type} {f : α -> Nat} {xs : List α} {k : Nat} {l z : Int} (hn : xs.length = k) (h : Wt (5 * k) (tot f (xs.take k)) (l - k) z) : Wt 0 (tot f xs) l z := by
 unfold Wt at *
 rw [List.take_of_length_le (by omega)] at h
 omega
theorem Wt.add {a b : Nat} {l z y : Int} (h : Wt 0 a l z) (h2 : Wt 0 b z y) : Wt 0 (a + b) l y := by
 unfold Wt at *
 omega
theorem Wt.expr {n a b m : Nat} {l l2 z y : Int} (hm : m = 4 + n + a + b) (hl : l2 = l - n) (h : Wt 0 a l2 z) (h2 : Wt 0 b z y) : Wt 4 m l y := by
 unfold Wt at *
 omega
theorem Wt.stmt {a b m : Nat} {l z y : Int} (hm : m = 1 + a + b) (h : Wt 0 a l z) (h2 : Wt 4 b z y) : Wt 5 m l y := by
 unfold Wt at *
 omega
theorem Wt.acc {a : Nat} {l z n : Int} (hn : 0 <= n) (h : Wt 0 a (l - n) z) : Wt 0 a l z := by
 unfold Wt at *
 omega
theorem jXu (p : Option Addr) (n c : Nat) (zs : List Aff) (left : Int) (w : World) (hn : zs.length = n) (hs : AffsAt w (.slice p n c) zs) (h0 : 0 <= left) (h1 : left <= 1048576) :
  Calls Tryz.prog 259 #[.slice p n c, .int .i64 left] w fun e w' => (∃ z : Int, e = .returned (.int .i64 z) /\ (z = -1 \/ (0 <= z /\ z <= 1048576 /\ Wt 0 (tot cA zs) left z /\ jZV zs))) /\ Ext w w' := by
 have hm : n <= 9223372036854775807 := by obtain ⟨_, _, hv, hm, _⟩ := hs; rw [<- hn]; exact hm
 have HS := hid hs; clear hs
 have HN := hid hn; clear hn
 by_cases hsm : left - n < 0
 ·go_enter Tryz.func259, Tryz.ntmps259
  go_wp2; go_ret; exact ⟨⟨-1, rfl, .inl rfl⟩, Ext.refl w⟩
 ·go_enter Tryz.func259, Tryz.ntmps259
  go_wp2
  go_loopw [1, 5] (fun l i wr => ∃ k : Nat, k <= n /\ i = .int .i64 k /\ (∃ z : Int, l = .int .i64 z /\ 0 <= z /\ z <= 1048576 /\ Wt (5 * k) (tot cA (zs.take k)) (left - n) z) /\ (∀ a ∈ zs.take k, a.1.length <= 1048576) /\ Ext w wr) (fun _ i _ => n - (intOf i).toNat)
  case atStart => exact ⟨0, by omega, rfl, ⟨_, rfl, by omega, by omega, by simp [Wt, tot]⟩, by simp, Ext.refl w⟩
  case round =>
   obtain ⟨k, hk, rfl, ⟨z, rfl, hz0, hz1, hwz⟩, hall, hE⟩ := hrel; have HWZ := hid hwz; clear hwz; have HA := hid hall; clear hall; by_cases hlt : k < n
   ·obtain ⟨x, hx⟩ := jZ0 (xs := zs) (k := k) (by rw [HN.o]; exact hlt)
    obtain ⟨b, off, q, m, rfl, c0, c1, hb, hr⟩ := (HS.o.ext hE).elem hx; have hxm : x.1.length <= 9223372036854775807 := by obtain ⟨_, _, hv, hm, _⟩ := hr; exact hm
    have HX := hid hx; clear hx hr; have hbd : szI z x.1.length < 0 -> szI z x.1.length = -1 := by unfold szI; split <;> omega
    have hbd2 : ¬ szI z x.1.length < 0 -> 0 <= szI z x.1.length /\ szI z x.1.length <= 1048576 /\ x.1.length <= 1048576 /\ Wt 5 (cA x) z (szI z x.1.length) := by unfold szI Wt cA; split <;> omega
    have HB := hid hbd; have HB2 := hid hbd2; clear hbd hbd2; have hrng : -1 <= szI z x.1.length /\ szI z x.1.length <= 1048576 := by unfold szI; split <;> omega
    go_wp2_with (go_at_call 299; refine (jVb _ _ _ _ _ _ hxm hz0 hz1).mono ?_; rintro e w' ⟨rfl, hE2⟩)
    ·have h : szI z x.1.length < 0 := by assumption
     go_ret; exact ⟨⟨-1, rfl, .inl rfl⟩, hE.trans hE2⟩
    ·have h : 0 <= szI z x.1.length := by assumption
     obtain ⟨q0, q1, q2, q3⟩ := HB2.o h; go_roundw
     case rel => exact ⟨k + 1, by omega, by go_num, ⟨_, rfl, q0, q1, Wt.step (by decide) HX.o HWZ.o q3⟩, jZh HX.o HA.o q2, hE.trans hE2⟩
     case measure => simp [intOf]; omega
   ·have e : k = n := by omega
    subst e; go_wp2; go_ret; refine ⟨⟨z, rfl, .inr ⟨hz0, hz1, Wt.fin HN.o HWZ.o, by rw [HN.o]; omega, ?_⟩⟩, hE⟩; have h := HA.o
    rwa [List.take_of_length_le (by rw [HN.o]; omega)] at h
theorem jY2m (s t : Value) (x : Lp) (left : Int) (w : World) (hs : AffsAt w s x.1) (ht : AffsAt w t x.2) (h0 : 0 <= left) (h1 : left <= 1048576) :
  Calls Tryz.prog 206 #[.agg #[s, t], .int .i64 left] w fun e w' => (∃ z : Int, e = .returned (.int .i64 z) /\ (z = -1 \/ (0 <= z /\ z <= 1048576 /\ Wt 0 (tot cA x.1 + tot cA x.2) left z /\ jZV x.1 /\ jZV x.2))) /\ Ext w w' := by
 obtain ⟨p, c, rfl, hm⟩ := hs.form
 obtain ⟨q, d, rfl, hm2⟩ := ht.form
 have HS := hid hs; have HT := hid ht; clear hs ht
 go_enter Tryz.func206, Tryz.ntmps206
 go_wp2_with (fail)
 refine (jXu p _ c x.1 left _ rfl (HS.o.ext ((Ext.refl w).alloc _)) h0 h1).mono ?_
 rintro e W1 ⟨⟨z, rfl, hz⟩, hE⟩
 have E1 : Hid (Ext w W1) := ((Ext.refl w).alloc _).trans hE
 obtain ⟨c0, c1, -, -⟩ := blk2 (hE.blk (g := w.heap.size) (blk_at rfl))
 clear hE
 rcases hz with rfl | ⟨z0, z1, hwz, hz⟩
 ·go_wp2_with (fail)
  go_ret; exact ⟨⟨-1, rfl, .inl rfl⟩, E1.o⟩
 ·have HZ := hid hz; have HWZ := hid hwz; clear hz hwz
  go_wp2_with (fail); refine (jXu q _ d x.2 z _ rfl (HT.o.ext E1.o) z0 z1).mono ?_; rintro e W2 ⟨⟨y, rfl, hy⟩, hE⟩; have E2 : Hid (Ext w W2) := E1.o.trans hE; clear hE c0 c1; rcases hy with rfl | ⟨y0, y1, hwy, hy⟩
  ·go_wp2_with (fail)
   go_ret; exact ⟨⟨-1, rfl, .inl rfl⟩, E2.o⟩
  ·have HY := hid hy; have HWY := hid hwy; clear hy hwy
   go_wp2_with (fail); go_ret; exact ⟨⟨y, rfl, .inr ⟨y0, y1, Wt.add HWZ.o HWY.o, HZ.o, HY.o⟩⟩, E2.o⟩
theorem jY1R (p : Option Addr) (n c : Nat) (ls : List Lp) (left : Int) (w : World) (hn : ls.length = n) (hs : jZi w (.slice p n c) ls) (h0 : 0 <= left) (h1 : left <= 1048576) :
  Calls Tryz.prog 147 #[.slice p n c, .int .i64 left] w fun e w' => (∃ z : Int, e = .returned (.int .i64 z) /\ (z = -1 \/ (0 <= z /\ z <= 1048576 /\ Wt 0 (tot cL ls) left z /\ jVI ls))) /\ Ext w w' := by
 have hm : n <= 9223372036854775807 := by obtain ⟨_, _, hv, hm, _⟩ := hs; rw [<- hn]; exact hm
 have HS := hid hs; clear hs
 have HN := hid hn; clear hn
 by_cases hsm : left - n < 0
 ·go_enter Tryz.func147, Tryz.ntmps147
  go_wp2; go_ret; exact ⟨⟨-1, rfl, .inl rfl⟩, Ext.refl w⟩
 ·go_enter Tryz.func147, Tryz.ntmps147
  go_wp2
  go_loopw [1, 5] (fun l i wr => ∃ k : Nat, k <= n /\ i = .int .i64 k /\ (∃ z : Int, l = .int .i64 z /\ 0 <= z /\ z <= 1048576 /\ Wt (5 * k) (tot cL (ls.take k)) (left - n) z) /\ (∀ a ∈ ls.take k, jZV a.1 /\ jZV a.2) /\ Ext w wr) (fun _ i _ => n - (intOf i).toNat)
  case atStart => exact ⟨0, by omega, rfl, ⟨_, rfl, by omega, by omega, by simp [Wt, tot]⟩, by simp, Ext.refl w⟩
  case round =>
   obtain ⟨k, hk, rfl, ⟨z, rfl, hz0, hz1, hwz⟩, hall, hE⟩ := hrel; have HWZ := hid hwz; clear hwz; have HA := hid hall; clear hall; by_cases hlt : k < n
   ·obtain ⟨x, hx⟩ := jZ0 (xs := ls) (k := k) (by rw [HN.o]; exact hlt)
    obtain ⟨b, off, q, m, q', m', rfl, c0, c1, hb, hr, hr'⟩ := (HS.o.ext hE).elem hx; have HX := hid hx; have HR := hid hr; have HR' := hid hr'; clear hx hr hr'; go_wp2_with (fail); refine (jY2m _ _ x z _ HR.o HR'.o hz0 hz1).mono ?_; rintro e w' ⟨⟨y, rfl, hy⟩, hE2⟩; rcases hy with rfl | ⟨y0, y1, hwy, hy⟩
    ·go_wp2_with (fail)
     go_ret; exact ⟨⟨-1, rfl, .inl rfl⟩, hE.trans hE2⟩
    ·have HY := hid hy; have HWY := hid hwy; clear hy hwy
     go_wp2_with (fail); go_roundw
     case rel => exact ⟨k + 1, by omega, by go_num, ⟨_, rfl, y0, y1, Wt.step (f := cL) (by decide) HX.o HWZ.o HWY.o⟩, jZh HX.o HA.o HY.o, hE.trans hE2⟩
     case measure => simp [intOf]; omega
   ·have e : k = n := by omega
    subst e; go_wp2; go_ret; refine ⟨⟨z, rfl, .inr ⟨hz0, hz1, Wt.fin HN.o HWZ.o, by rw [HN.o]; omega, ?_⟩⟩, hE⟩; have h := HA.o
    rwa [List.take_of_length_le (by rw [HN.o]; omega)] at h
theorem jWC (arr : ByteArray) (s : Value) (subs : List Aff) (left : Int) (w : World) (ha : arr.size <= 9223372036854775807) (hs : AffsAt w s subs) (h0 : 0 <= left) (h1 : left <= 1048576) :
  Calls Tryz.prog 260 #[.agg #[.string arr, s], .int .i64 left] w fun e w' => (∃ z : Int, e = .returned (.int .i64 z) /\ (z = -1 \/ (0 <= z /\ z <= 1048576 /\ Wt 0 (tot cA subs) left z /\ arr.size <= 1048576 /\ jZV subs))) /\ Ext w w' := by
 obtain ⟨p, c, rfl, hm⟩ := hs.form
 have HS := hid hs; clear hs
 by_cases hn : left - arr.size < 0
 ·go_enter Tryz.func260, Tryz.ntmps260
  go_wp2_with (fail); go_ret; exact ⟨⟨-1, rfl, .inl rfl⟩, (Ext.refl w).alloc _⟩
 ·go_enter Tryz.func260, Tryz.ntmps260
  go_wp2_with (fail); refine (jXu p _ c subs (left - arr.size) _ rfl (HS.o.ext ((Ext.refl w).alloc _)) (by omega) (by omega)).mono ?_; rintro e W1 ⟨⟨z, rfl, hz⟩, hE⟩; have E1 : Hid (Ext w W1) := hid (((Ext.refl w).alloc _).trans hE); clear hE; rcases hz with rfl | ⟨z0, z1, hwz, hz⟩
  ·go_wp2_with (fail)
   go_ret; exact ⟨⟨-1, rfl, .inl rfl⟩, E1.o⟩
  ·have HZ := hid hz; clear hz
   go_wp2_with (fail); go_ret; exact ⟨⟨z, rfl, .inr ⟨z0, z1, Wt.acc (Int.natCast_nonneg _) hwz, by omega, HZ.o⟩⟩, E1.o⟩
def SzEw (w : World) (cs : List Value) (e : Ex) : Prop := ∀ (w' : World), Ext w w' -> ∀ (left : Int), 0 <= left -> left <= 1048576 ->
 Calls Tryz.prog 261 #[.agg cs.toArray, .int .i64 left] w' fun r w2 => (∃ z : Int, r = .returned (.int .i64 z) /\ (z = -1 \/ (0 <= z /\ z <= 1048576 /\ Wt 4 (cE e) left z /\ SmallE e))) /\ Ext w' w2
theorem jY38 (w0 : World) (p : Option Addr) (n c : Nat) (es : List Ex) (us : Nat -> List Value) (hn : es.length = n) (hm : n <= 9223372036854775807)
  (hc : ∀ (i : Nat) (e : Ex), es[i]? = some e -> ∃ b off, p = some ⟨b, off, none⟩ /\ b < w0.heap.size /\ ∀ (j : Nat) (v : Value), (us i)[j]? = some v -> w0.cell? ⟨b, off + i * 7 + j, none⟩ = some v)
  (hk : ∀ (i : Nat) (e : Ex), es[i]? = some e -> ExR w0 (us i) e) (IH : ∀ (i : Nat) (e : Ex), es[i]? = some e -> SzEw w0 (us i) e) (w : World) (hE0 : Ext w0 w) (left : Int) (h0 : 0 <= left) (h1 : left <= 1048576) :
  Calls Tryz.prog 300 #[.slice p n c, .int .i64 left] w fun e w' => (∃ z : Int, e = .returned (.int .i64 z) /\ (z = -1 \/ (0 <= z /\ z <= 1048576 /\ Wt 0 (tot cE es) left z /\ n <= 1048576 /\ ∀ e ∈ es, SmallE e))) /\ Ext w w' := by
 have HC := hid hc; have HK := hid hk; have HI := hid IH; have HN := hid hn; have HE0 := hid hE0; clear hc hk IH hn hE0
 by_cases hsm : left - n < 0
 ·go_enter Tryz.func300, Tryz.ntmps300
  go_wp2; go_ret; exact ⟨⟨-1, rfl, .inl rfl⟩, Ext.refl w⟩
 ·go_enter Tryz.func300, Tryz.ntmps300
  go_wp2
  go_loopw [1, 5] (fun l i wr => ∃ k : Nat, k <= n /\ i = .int .i64 k /\ (∃ z : Int, l = .int .i64 z /\ 0 <= z /\ z <= 1048576 /\ Wt (5 * k) (tot cE (es.take k)) (left - n) z) /\ (∀ a ∈ es.take k, SmallE a) /\ Ext w wr) (fun _ i _ => n - (intOf i).toNat)
  case atStart => exact ⟨0, by omega, rfl, ⟨_, rfl, by omega, by omega, by simp [Wt, tot]⟩, by simp, Ext.refl w⟩
  case round =>
   obtain ⟨k, hk, rfl, ⟨z, rfl, hz0, hz1, hwz⟩, hall, hE⟩ := hrel; have HWZ := hid hwz; clear hwz; have HA := hid hall; clear hall; by_cases hlt : k < n
   ·obtain ⟨x, hx⟩ := jZ0 (xs := es) (k := k) (by rw [HN.o]; exact hlt)
    have E0 : Ext w0 wr := HE0.o.trans hE; obtain ⟨b, off, rfl, hb, hcell⟩ := HC.o k x hx; have hi := HI.o k x hx wr E0 z hz0 hz1; obtain ⟨u, s, v, hcs, -, -, -, -⟩ := (HK.o k x hx).parts; rw [hcs] at hcell hi; have c0 := E0.keep (hcell 0 _ rfl); have c1 := E0.keep (hcell 1 _ rfl); have c2 := E0.keep (hcell 2 _ rfl); have c3 := E0.keep (hcell 3 _ rfl); have c4 := E0.keep (hcell 4 _ rfl); have c5 := E0.keep (hcell 5 _ rfl); have c6 := E0.keep (hcell 6 _ rfl); rw [Nat.add_zero] at c0; have HX := hid hx; have HI2 := hid hi; clear hx hi hcell E0 hcs; go_wp2_with (fail); refine HI2.o.mono ?_; rintro e w' ⟨⟨y, rfl, hy⟩, hE2⟩; rcases hy with rfl | ⟨y0, y1, hwy, hy⟩
    ·go_wp2_with (fail)
     go_ret; exact ⟨⟨-1, rfl, .inl rfl⟩, hE.trans hE2⟩
    ·have HY := hid hy; have HWY := hid hwy; clear hy hwy
     go_wp2_with (fail); go_roundw
     case rel => exact ⟨k + 1, by omega, by go_num, ⟨_, rfl, y0, y1, Wt.step (by decide) HX.o HWZ.o HWY.o⟩, jZh HX.o HA.o HY.o, hE.trans hE2⟩
     case measure => simp [intOf]; omega
   ·have e : k = n := by omega
    subst e; go_wp2; go_ret; refine ⟨⟨z, rfl, .inr ⟨hz0, hz1, Wt.fin HN.o HWZ.o, by omega, ?_⟩⟩, hE⟩; have h := HA.o
    rwa [List.take_of_length_le (by rw [HN.o]; omega)] at h
theorem jY2Q {w : World} {cs : List Value} {e : Ex} (h : ExR w cs e) : SzEw w cs e := by
 induction h with
 | mk kind num k u s xs arr subs p cap kids us hu ha hs hl hc hk ih =>
  intro w' hE left h0 h1; obtain ⟨pu, cu, rfl, hmu, -⟩ := id hu; obtain ⟨ps, cs, rfl, hms⟩ := hs.form; have HS := hid hs; have HC := hid hc; have HK := hid hk; have HI := hid ih; have HE := hid hE; clear hs hc hk ih hu hE; have hb : -1 <= szI left xs.length /\ szI left xs.length <= 1048576 := by unfold szI; split <;> omega
  have hneg : szI left xs.length < 0 -> szI left xs.length = -1 := by unfold szI; split <;> omega
  have hpos : ¬ szI left xs.length < 0 -> 0 <= szI left xs.length /\ xs.length <= 1048576 /\ szI left xs.length = left - xs.length := by unfold szI; split <;> omega
  obtain ⟨l2, hl2⟩ : ∃ l2, szI left xs.length = l2 := ⟨_, rfl⟩; rw [hl2] at hb hneg hpos; have HL2 := hid hl2; have HP := hid hpos; have HNG := hid hneg; clear hl2 hpos hneg
  go_enter Tryz.func261, Tryz.ntmps261
  go_wp2_with (fail); refine (jVb pu _ cu k left _ hmu h0 h1).mono ?_; rw [HL2.o]; rintro e W1 ⟨rfl, hE1⟩; have E1 : Hid (Ext w' W1) := hid (((Ext.refl w').alloc _).trans hE1); obtain ⟨-, -, -, -, c4, c5, c6⟩ := blk7 (hE1.blk (g := w'.heap.size) (blk_at rfl)); have B1 := hid (hE1.blk (g := w'.heap.size) (blk_at rfl)); clear hE1; by_cases hn2 : l2 < 0
  ·have hd : decide (l2 < 0) = true := by simpa using hn2
   go_wp2_with (fail); go_ret; exact ⟨⟨-1, rfl, .inl rfl⟩, E1.o⟩
  ·have hd : decide (l2 < 0) = false := by simpa using hn2
   obtain ⟨hl0, hxl, hlq⟩ := HP.o (by omega); have HLQ := hid hlq; clear hlq; go_wp2_with (fail); refine (jWC arr _ subs l2 _ ha (HS.o.ext (HE.o.trans E1.o)) hl0 hb.2).mono ?_; rintro e W2 ⟨⟨z, rfl, hz⟩, hE2⟩; have E2 : Hid (Ext w' W2) := hid (E1.o.trans hE2); obtain ⟨-, -, -, -, -, -, c6⟩ := blk7 (hE2.blk B1.o); clear hE2 c4 c5; rcases hz with rfl | ⟨z0, z1, hwz, hz, hz2⟩
   ·go_wp2_with (fail)
    go_ret; exact ⟨⟨-1, rfl, .inl rfl⟩, E2.o⟩
   ·have HWZ := hid hwz; clear hwz; have HZ := hid hz; have HZ2 := hid hz2; clear hz hz2
    go_wp2_with (fail); refine (jY38 w p _ cap kids us rfl hl HC.o HK.o HI.o W2 (HE.o.trans E2.o) z z0 z1).mono ?_; rintro e W3 ⟨⟨y, rfl, hy⟩, hE3⟩; have E3 : Hid (Ext w' W3) := hid (E2.o.trans hE3); clear hE3; rcases hy with rfl | ⟨y0, y1, hwy, hy, hy2⟩
    ·go_wp2_with (fail)
     go_ret; exact ⟨⟨-1, rfl, .inl rfl⟩, E3.o⟩
    ·have HWY := hid hwy; clear hwy; have HY := hid hy; have HY2 := hid hy2; clear hy hy2
     go_wp2_with (fail); go_ret; exact ⟨⟨y, rfl, .inr ⟨y0, y1, Wt.expr (by rw [cE_eq, cEs_eq]; rfl) HLQ.o HWZ.o HWY.o, .mk kind num (xs, k) arr subs kids hxl HZ.o HZ2.o HY.o HY2.o⟩⟩, E3.o⟩
theorem jY2T (v : Value) (arr : ByteArray) (subs : List Aff) (e : Ex) (left : Int) (w : World) (hs : StR w v arr subs e) (h0 : 0 <= left) (h1 : left <= 1048576) :
  Calls Tryz.prog 207 #[v, .int .i64 left] w fun r w' => (∃ z : Int, r = .returned (.int .i64 z) /\ (z = -1 \/ (0 <= z /\ z <= 1048576 /\ Wt 5 (1 + tot cA subs + cE e) left z /\ arr.size <= 1048576 /\ jZV subs /\ SmallE e))) /\ Ext w w' := by
 obtain ⟨q1, d1, q2, d2, q3, d3, q4, d4, rfl, ha, hs1, he⟩ := hs.parts
 have HS := hid hs1; have HE := hid he; clear hs hs1 he
 go_enter Tryz.func207, Tryz.ntmps207
 go_wp2_with (fail)
 refine (jWC arr _ subs left _ ha (HS.o.ext ((Ext.refl w).alloc _)) h0 h1).mono ?_
 rintro r W1 ⟨⟨z, rfl, hz⟩, hE1⟩
 have E1 : Hid (Ext w W1) := hid (((Ext.refl w).alloc _).trans hE1)
 obtain ⟨-, -, c2, c3, c4, c5, c6, c7, c8⟩ := blk9 (hE1.blk (g := w.heap.size) (blk_at rfl))
 clear hE1
 rcases hz with rfl | ⟨z0, z1, hwz, hz1, hz2⟩
 ·go_wp2_with (fail)
  go_ret; exact ⟨⟨-1, rfl, .inl rfl⟩, E1.o⟩
 ·have HWZ := hid hwz; clear hwz; have HZ1 := hid hz1; have HZ2 := hid hz2; clear hz1 hz2
  go_wp2_with (fail); refine (jY2Q HE.o W1 E1.o z z0 z1).mono ?_; rintro r W2 ⟨⟨y, rfl, hy⟩, hE2⟩; have E2 : Hid (Ext w W2) := hid (E1.o.trans hE2); clear hE2 c2 c3 c4 c5 c6 c7 c8; rcases hy with rfl | ⟨y0, y1, hwy, hy⟩
  ·go_wp2_with (fail)
   go_ret; exact ⟨⟨-1, rfl, .inl rfl⟩, E2.o⟩
  ·have HWY := hid hwy; clear hwy; have HY := hid hy; clear hy
   go_wp2_with (fail); go_ret; exact ⟨⟨y, rfl, .inr ⟨y0, y1, Wt.stmt rfl HWZ.o HWY.o, HZ1.o, HZ2.o, HY.o⟩⟩, E2.o⟩
theorem jY2a (x : Arr) (s : Value) (left : Int) (w : World) (ha : x.1.size <= 9223372036854775807) (hs : IntsAt w s x.2) (h0 : 0 <= left) (h1 : left <= 1048576) :
  Calls Tryz.prog 89 #[.agg #[.string x.1, s], .int .i64 left] w fun e w' => (∃ z : Int, e = .returned (.int .i64 z) /\ (z = -1 \/ (0 <= z /\ z <= 1048576 /\ Wt 5 (cAr x) left z /\ jY0S x))) /\ Ext w w' := by
 obtain ⟨p, c, rfl, hm, -⟩ := id hs
 obtain ⟨ar, xs⟩ := x
 simp only at *
 clear hs
 by_cases hn : left - ar.size < 0
 ·go_enter Tryz.func89, Tryz.ntmps89
  go_wp2_with (fail); go_ret; exact ⟨⟨-1, rfl, .inl rfl⟩, (Ext.refl w).alloc _⟩
 ·have hb : -1 <= szI (left - ar.size) xs.length /\ szI (left - ar.size) xs.length <= 1048576 := by unfold szI; split <;> omega
  have hneg : szI (left - ar.size) xs.length < 0 -> szI (left - ar.size) xs.length = -1 := by unfold szI; split <;> omega
  have hpos : ¬ szI (left - ar.size) xs.length < 0 -> 0 <= szI (left - ar.size) xs.length /\ xs.length <= 1048576 /\ Wt 5 (xs.length + 1) left (szI (left - ar.size) xs.length) := by unfold Wt szI; split <;> omega
  obtain ⟨l2, hl2⟩ : ∃ l2, szI (left - ar.size) xs.length = l2 := ⟨_, rfl⟩; rw [hl2] at hb hneg hpos; have HL2 := hid hl2; have HP := hid hpos; have HNG := hid hneg; clear hl2 hpos hneg
  go_enter Tryz.func89, Tryz.ntmps89
  go_wp2_with (fail); refine (jY0Q p _ c (left - ar.size) _ hm (by omega) (by omega)).mono ?_; rw [HL2.o]; rintro e W1 ⟨rfl, rfl⟩; by_cases hn2 : l2 < 0
  ·have hd : decide (l2 < 0) = true := by simpa using hn2
   go_wp2_with (fail); go_ret; exact ⟨⟨-1, rfl, .inl rfl⟩, (Ext.refl w).alloc _⟩
  ·have hd : decide (l2 < 0) = false := by simpa using hn2
   obtain ⟨q0, q1, q2⟩ := HP.o (by omega); have HQ2 := hid q2; clear q2; go_wp2_with (fail); go_ret; exact ⟨⟨l2, rfl, .inr ⟨q0, hb.2, HQ2.o, by show ar.size <= _; omega, q1⟩⟩, (Ext.refl w).alloc _⟩
theorem jY1r (p : Option Addr) (n c : Nat) (ls : List Arr) (left : Int) (w : World) (hn : ls.length = n) (hs : ArrsAt w (.slice p n c) ls) (h0 : 0 <= left) (h1 : left <= 1048576) :
  Calls Tryz.prog 44 #[.slice p n c, .int .i64 left] w fun e w' => (∃ z : Int, e = .returned (.int .i64 z) /\ (z = -1 \/ (0 <= z /\ z <= 1048576 /\ Wt 0 (tot cAr ls) left z /\ jW6 ls))) /\ Ext w w' := by
 have hm : n <= 9223372036854775807 := by obtain ⟨_, _, _, hm⟩ := hs.form; rw [<- hn]; exact hm
 have HS := hid hs; clear hs
 have HN := hid hn; clear hn
 by_cases hsm : left - n < 0
 ·go_enter Tryz.func44, Tryz.ntmps44
  go_wp2; go_ret; exact ⟨⟨-1, rfl, .inl rfl⟩, Ext.refl w⟩
 ·go_enter Tryz.func44, Tryz.ntmps44
  go_wp2
  go_loopw [1, 5] (fun l i wr => ∃ k : Nat, k <= n /\ i = .int .i64 k /\ (∃ z : Int, l = .int .i64 z /\ 0 <= z /\ z <= 1048576 /\ Wt (5 * k) (tot cAr (ls.take k)) (left - n) z) /\ (∀ a ∈ ls.take k, jY0S a) /\ Ext w wr) (fun _ i _ => n - (intOf i).toNat)
  case atStart => exact ⟨0, by omega, rfl, ⟨_, rfl, by omega, by omega, by simp [Wt, tot]⟩, by simp, Ext.refl w⟩
  case round =>
   obtain ⟨k, hk, rfl, ⟨z, rfl, hz0, hz1, hwz⟩, hall, hE⟩ := hrel; have HWZ := hid hwz; clear hwz; have HA := hid hall; clear hall; by_cases hlt : k < n
   ·obtain ⟨x, hx⟩ := jZ0 (xs := ls) (k := k) (by rw [HN.o]; exact hlt)
    obtain ⟨b, off, q, m, rfl, c0, c1, hb, hr, hr'⟩ := (HS.o.ext hE).elem hx; have HX := hid hx; have HR := hid hr; have HR' := hid hr'; clear hx hr hr'; go_wp2_with (fail); refine (jY2a x _ z _ HR.o HR'.o hz0 hz1).mono ?_; rintro e w' ⟨⟨y, rfl, hy⟩, hE2⟩; rcases hy with rfl | ⟨y0, y1, hwy, hy⟩
    ·go_wp2_with (fail)
     go_ret; exact ⟨⟨-1, rfl, .inl rfl⟩, hE.trans hE2⟩
    ·have HY := hid hy; have HWY := hid hwy; clear hy hwy
     go_wp2_with (fail); go_roundw
     case rel => exact ⟨k + 1, by omega, by go_num, ⟨_, rfl, y0, y1, Wt.step (by decide) HX.o HWZ.o HWY.o⟩, jZh HX.o HA.o HY.o, hE.trans hE2⟩
     case measure => simp [intOf]; omega
   ·have e : k = n := by omega
    subst e; go_wp2; go_ret; refine ⟨⟨z, rfl, .inr ⟨hz0, hz1, Wt.fin HN.o HWZ.o, by rw [HN.o]; omega, ?_⟩⟩, hE⟩; have h := HA.o
    rwa [List.take_of_length_le (by rw [HN.o]; omega)] at h
theorem jY4S (x : St) (v : Value) (left : Int) (w : World) (hs : StR w v x.1 x.2.1 x.2.2) (h0 : 0 <= left) (h1 : left <= 1048576) :
  Calls Tryz.prog 207 #[v, .int .i64 left] w fun e w' => (∃ z : Int, e = .returned (.int .i64 z) /\ (z = -1 \/ (0 <= z /\ z <= 1048576 /\ Wt 5 (cS x) left z /\ jY34 x))) /\ Ext w w' :=
 jY2T v x.1 x.2.1 x.2.2 left w hs h0 h1
theorem jY1A (p : Option Addr) (n c : Nat) (ls : List St) (left : Int) (w : World) (hn : ls.length = n) (hs : jZD w (.slice p n c) ls) (h0 : 0 <= left) (h1 : left <= 1048576) :
  Calls Tryz.prog 148 #[.slice p n c, .int .i64 left] w fun e w' => (∃ z : Int, e = .returned (.int .i64 z) /\ (z = -1 \/ (0 <= z /\ z <= 1048576 /\ Wt 0 (tot cS ls) left z /\ jWu ls))) /\ Ext w w' := by
 have hm : n <= 9223372036854775807 := by obtain ⟨_, _, _, hm⟩ := hs.form; rw [<- hn]; exact hm
 have HS := hid hs; clear hs
 have HN := hid hn; clear hn
 by_cases hsm : left - n < 0
 ·go_enter Tryz.func148, Tryz.ntmps148
  go_wp2; go_ret; exact ⟨⟨-1, rfl, .inl rfl⟩, Ext.refl w⟩
 ·go_enter Tryz.func148, Tryz.ntmps148
  go_wp2
  go_loopw [1, 5] (fun l i wr => ∃ k : Nat, k <= n /\ i = .int .i64 k /\ (∃ z : Int, l = .int .i64 z /\ 0 <= z /\ z <= 1048576 /\ Wt (5 * k) (tot cS (ls.take k)) (left - n) z) /\ (∀ a ∈ ls.take k, jY34 a) /\ Ext w wr) (fun _ i _ => n - (intOf i).toNat)
  case atStart => exact ⟨0, by omega, rfl, ⟨_, rfl, by omega, by omega, by simp [Wt, tot]⟩, by simp, Ext.refl w⟩
  case round =>
   obtain ⟨k, hk, rfl, ⟨z, rfl, hz0, hz1, hwz⟩, hall, hE⟩ := hrel; have HWZ := hid hwz; clear hwz; have HA := hid hall; clear hall; by_cases hlt : k < n
   ·obtain ⟨x, hx⟩ := jZ0 (xs := ls) (k := k) (by rw [HN.o]; exact hlt)
    obtain ⟨b, off, q1, d1, q2, d2, q3, d3, q4, d4, rfl, c0, c1, c2, c3, c4, c5, c6, c7, c8, hb, hr, -⟩ := (HS.o.ext hE).elem' hx; have HX := hid hx; have HR := hid hr; clear hx hr; go_wp2_with (fail); refine (jY4S x _ z _ HR.o hz0 hz1).mono ?_; rintro e w' ⟨⟨y, rfl, hy⟩, hE2⟩; rcases hy with rfl | ⟨y0, y1, hwy, hy⟩
    ·go_wp2_with (fail)
     go_ret; exact ⟨⟨-1, rfl, .inl rfl⟩, hE.trans hE2⟩
    ·have HY := hid hy; have HWY := hid hwy; clear hy hwy
     go_wp2_with (fail); go_roundw
     case rel => exact ⟨k + 1, by omega, by go_num, ⟨_, rfl, y0, y1, Wt.step (by decide) HX.o HWZ.o HWY.o⟩, jZh HX.o HA.o HY.o, hE.trans hE2⟩
     case measure => simp [intOf]; omega
   ·have e : k = n := by omega
    subst e; go_wp2; go_ret; refine ⟨⟨z, rfl, .inr ⟨hz0, hz1, Wt.fin HN.o HWZ.o, by rw [HN.o]; omega, ?_⟩⟩, hE⟩; have h := HA.o
    rwa [List.take_of_length_le (by rw [HN.o]; omega)] at h
theorem jY2C (s t : Value) (x : List Lp × List St) (left : Int) (w : World) (hs : jZi w s x.1) (ht : jZD w t x.2) (h0 : 0 <= left) (h1 : left <= 1048576) :
  Calls Tryz.prog 90 #[.agg #[s, t], .int .i64 left] w fun e w' => (∃ z : Int, e = .returned (.int .i64 z) /\ (z = -1 \/ (0 <= z /\ z <= 1048576 /\ Wt 0 (tot cL x.1 + tot cS x.2) left z /\ jVI x.1 /\ jWu x.2))) /\ Ext w w' := by
 obtain ⟨p, c, rfl, hm⟩ := hs.form
 obtain ⟨q, d, rfl, hm2⟩ := ht.form
 have HS := hid hs; have HT := hid ht; clear hs ht
 go_enter Tryz.func90, Tryz.ntmps90
 go_wp2_with (fail)
 refine (jY1R p _ c x.1 left _ rfl (HS.o.ext ((Ext.refl w).alloc _)) h0 h1).mono ?_
 rintro e W1 ⟨⟨z, rfl, hz⟩, hE⟩
 have E1 : Hid (Ext w W1) := ((Ext.refl w).alloc _).trans hE
 obtain ⟨c0, c1, -, -⟩ := blk2 (hE.blk (g := w.heap.size) (blk_at rfl))
 clear hE
 rcases hz with rfl | ⟨z0, z1, hwz, hz⟩
 ·go_wp2_with (fail)
  go_ret; exact ⟨⟨-1, rfl, .inl rfl⟩, E1.o⟩
 ·have HZ := hid hz; have HWZ := hid hwz; clear hz hwz
  go_wp2_with (fail); refine (jY1A q _ d x.2 z _ rfl (HT.o.ext E1.o) z0 z1).mono ?_; rintro e W2 ⟨⟨y, rfl, hy⟩, hE⟩; have E2 : Hid (Ext w W2) := E1.o.trans hE; clear hE c0 c1; rcases hy with rfl | ⟨y0, y1, hwy, hy⟩
  ·go_wp2_with (fail)
   go_ret; exact ⟨⟨-1, rfl, .inl rfl⟩, E2.o⟩
  ·have HY := hid hy; have HWY := hid hwy; clear hy hwy
   go_wp2_with (fail); go_ret; exact ⟨⟨y, rfl, .inr ⟨y0, y1, Wt.add HWZ.o HWY.o, HZ.o, HY.o⟩⟩, E2.o⟩
theorem jY51 (x : Pt) (s t : Value) (left : Int) (w : World) (hs : jZi w s x.1) (ht : jZD w t x.2) (h0 : 0 <= left) (h1 : left <= 1048576) :
  Calls Tryz.prog 90 #[.agg #[s, t], .int .i64 left] w fun e w' => (∃ z : Int, e = .returned (.int .i64 z) /\ (z = -1 \/ (0 <= z /\ z <= 1048576 /\ Wt 0 (cP x) left z /\ jY2q x))) /\ Ext w w' :=
 jY2C s t x left w hs ht h0 h1
theorem jY24 (p : Option Addr) (n c : Nat) (ls : List Pt) (left : Int) (w : World) (hn : ls.length = n) (hs : jZH w (.slice p n c) ls) (h0 : 0 <= left) (h1 : left <= 1048576) :
  Calls Tryz.prog 45 #[.slice p n c, .int .i64 left] w fun e w' => (∃ z : Int, e = .returned (.int .i64 z) /\ (z = -1 \/ (0 <= z /\ z <= 1048576 /\ Wt 0 (tot cP ls) left z /\ jW9 ls))) /\ Ext w w' := by
 have hm : n <= 9223372036854775807 := by obtain ⟨_, _, _, hm⟩ := hs.form; rw [<- hn]; exact hm
 have HS := hid hs; clear hs
 have HN := hid hn; clear hn
 by_cases hsm : left - n < 0
 ·go_enter Tryz.func45, Tryz.ntmps45
  go_wp2; go_ret; exact ⟨⟨-1, rfl, .inl rfl⟩, Ext.refl w⟩
 ·go_enter Tryz.func45, Tryz.ntmps45
  go_wp2
  go_loopw [1, 5] (fun l i wr => ∃ k : Nat, k <= n /\ i = .int .i64 k /\ (∃ z : Int, l = .int .i64 z /\ 0 <= z /\ z <= 1048576 /\ Wt (5 * k) (tot cP (ls.take k)) (left - n) z) /\ (∀ a ∈ ls.take k, jY2q a) /\ Ext w wr) (fun _ i _ => n - (intOf i).toNat)
  case atStart => exact ⟨0, by omega, rfl, ⟨_, rfl, by omega, by omega, by simp [Wt, tot]⟩, by simp, Ext.refl w⟩
  case round =>
   obtain ⟨k, hk, rfl, ⟨z, rfl, hz0, hz1, hwz⟩, hall, hE⟩ := hrel; have HWZ := hid hwz; clear hwz; have HA := hid hall; clear hall; by_cases hlt : k < n
   ·obtain ⟨x, hx⟩ := jZ0 (xs := ls) (k := k) (by rw [HN.o]; exact hlt)
    obtain ⟨b, off, q, m, q', m', rfl, c0, c1, hb, hr, hr'⟩ := (HS.o.ext hE).elem hx; have HX := hid hx; have HR := hid hr; have HR' := hid hr'; clear hx hr hr'; go_wp2_with (fail); refine (jY51 x _ _ z _ HR.o HR'.o hz0 hz1).mono ?_; rintro e w' ⟨⟨y, rfl, hy⟩, hE2⟩; rcases hy with rfl | ⟨y0, y1, hwy, hy⟩
    ·go_wp2_with (fail)
     go_ret; exact ⟨⟨-1, rfl, .inl rfl⟩, hE.trans hE2⟩
    ·have HY := hid hy; have HWY := hid hwy; clear hy hwy
     go_wp2_with (fail); go_roundw
     case rel => exact ⟨k + 1, by omega, by go_num, ⟨_, rfl, y0, y1, Wt.step (by decide) HX.o HWZ.o HWY.o⟩, jZh HX.o HA.o HY.o, hE.trans hE2⟩
     case measure => simp [intOf]; omega
   ·have e : k = n := by omega
    subst e; go_wp2; go_ret; refine ⟨⟨z, rfl, .inr ⟨hz0, hz1, Wt.fin HN.o HWZ.o, by rw [HN.o]; omega, ?_⟩⟩, hE⟩; have h := HA.o
    rwa [List.take_of_length_le (by rw [HN.o]; omega)] at h
theorem jVO (s t : Value) (x : List Arr × List Pt) (left : Int) (w : World) (hs : ArrsAt w s x.1) (ht : jZH w t x.2) (h0 : 0 <= left) (h1 : left <= 1048576) :
  Calls Tryz.prog 12 #[.agg #[s, t], .int .i64 left] w fun e w' => (∃ z : Int, e = .returned (.int .i64 z) /\ (z = -1 \/ (0 <= z /\ z <= 1048576 /\ Wt 0 (tot cAr x.1 + tot cP x.2) left z /\ jW6 x.1 /\ jW9 x.2))) /\ Ext w w' := by
 obtain ⟨p, c, rfl, hm⟩ := hs.form
 obtain ⟨q, d, rfl, hm2⟩ := ht.form
 have HS := hid hs; have HT := hid ht; clear hs ht
 go_enter Tryz.func12, Tryz.ntmps12
 go_wp2_with (fail)
 refine (jY1r p _ c x.1 left _ rfl (HS.o.ext ((Ext.refl w).alloc _)) h0 h1).mono ?_
 rintro e W1 ⟨⟨z, rfl, hz⟩, hE⟩
 have E1 : Hid (Ext w W1) := ((Ext.refl w).alloc _).trans hE
 obtain ⟨c0, c1, -, -⟩ := blk2 (hE.blk (g := w.heap.size) (blk_at rfl))
 clear hE
 rcases hz with rfl | ⟨z0, z1, hwz, hz⟩
 ·go_wp2_with (fail)
  go_ret; exact ⟨⟨-1, rfl, .inl rfl⟩, E1.o⟩
 ·have HZ := hid hz; have HWZ := hid hwz; clear hz hwz
  go_wp2_with (fail); refine (jY24 q _ d x.2 z _ rfl (HT.o.ext E1.o) z0 z1).mono ?_; rintro e W2 ⟨⟨y, rfl, hy⟩, hE⟩; have E2 : Hid (Ext w W2) := E1.o.trans hE; clear hE c0 c1; rcases hy with rfl | ⟨y0, y1, hwy, hy⟩
  ·go_wp2_with (fail)
   go_ret; exact ⟨⟨-1, rfl, .inl rfl⟩, E2.o⟩
  ·have HY := hid hy; have HWY := hid hwy; clear hy hwy
   go_wp2_with (fail); go_ret; exact ⟨⟨y, rfl, .inr ⟨y0, y1, Wt.add HWZ.o HWY.o, HZ.o, HY.o⟩⟩, E2.o⟩
theorem jY0s (v : Value) (ars : List Arr) (ps : List Pt) (left : Int) (w : World) (h : PrR w v ars ps) (h0 : 0 <= left) (h1 : left <= 1048576) :
  Calls Tryz.prog 12 #[v, .int .i64 left] w fun e w' => (∃ z : Int, e = .returned (.int .i64 z) /\ (z = -1 \/ (0 <= z /\ z <= 1048576 /\ (cPr ars ps : Int) <= 5 * 1048576 /\ jW6 ars /\ jW9 ps))) /\ Ext w w' := by
 obtain ⟨u0, u1, rfl, ha, hp⟩ := h
 refine (jVO u0 u1 (ars, ps) left w ha hp h0 h1).mono ?_
 rintro e w' ⟨⟨z, rfl, hz⟩, hE⟩
 refine ⟨⟨z, rfl, ?_⟩, hE⟩
 rcases hz with h | ⟨z0, z1, hw, h⟩
 ·exact .inl h
 ·refine .inr ⟨z0, z1, ?_, h⟩
  have hc : cPr ars ps = tot cAr ars + tot cP ps := rfl; unfold Wt at hw; dsimp only at hw; rw [hc]; omega
end Go.Proofs.YtklehkkclojccaaGreat

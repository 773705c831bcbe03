/- The texts G33, joined. No statement is proved here. -/
import Derived.Test.YtggpjapmhakklaaK42
/- Sizes with weights: what is small enough takes at most five marks for each step of size. (Written by g33.py.) No statement is proved here. -/
namespace Go.Proofs.Ytggpjapmhakklaa
open Go.RowKit

def Wt (c : Int) (m : Nat) (left z : Int) : Prop := (m : Int) ≤ 5 * (left - z) + c
theorem Wt.step {α : Type} {f : α → Nat} {xs : List α} {k : Nat} {x : α} {c l z y : Int} (hc : c ≤ 5) (hx : xs[k]? = some x) (h : Wt (5 * k) (tot f (xs.take k)) l z) (h2 : Wt c (f x) z y) : Wt (5 * ((k + 1 : Nat) : Int)) (tot f (xs.take (k + 1))) l y := by
  unfold Wt at *
  rw [tot_next f hx]
  omega
theorem Wt.fin {α : Type} {f : α → Nat} {xs : List α} {k : Nat} {l z : Int} (hn : xs.length = k) (h : Wt (5 * k) (tot f (xs.take k)) (l - k) z) : Wt 0 (tot f xs) l z := by
  unfold Wt at *
  rw [List.take_of_length_le (by omega)] at h
  omega
theorem Wt.add {a b : Nat} {l z y : Int} (h : Wt 0 a l z) (h2 : Wt 0 b z y) : Wt 0 (a + b) l y := by
  unfold Wt at *
  omega
theorem Wt.expr {n a b m : Nat} {l l2 z y : Int} (hm : m = 4 + n + a + b) (hl : l2 = l - n) (h : Wt 0 a l2 z) (h2 : Wt 0 b z y) : Wt 4 m l y := by
  unfold Wt at *
  omega
theorem Wt.stmt {a b m : Nat} {l z y : Int} (hm : m = 1 + a + b) (h : Wt 0 a l z) (h2 : Wt 4 b z y) : Wt 5 m l y := by
  unfold Wt at *
  omega
theorem Wt.acc {a : Nat} {l z n : Int} (hn : 0 ≤ n) (h : Wt 0 a (l - n) z) : Wt 0 a l z := by
  unfold Wt at *
  omega

set_option maxHeartbeats 1600000 in
theorem szAffineSw_any (p : Option Addr) (n c : Nat) (zs : List Aff) (left : Int) (w : World) (hn : zs.length = n) (hs : AffsAt w (.slice p n c) zs) (h0 : 0 ≤ left) (h1 : left ≤ 1048576) :
    Calls Try.prog 66 #[.slice p n c, .int .i64 left] w fun e w' => (∃ z : Int, e = .returned (.int .i64 z) ∧ (z = -1 ∨ (0 ≤ z ∧ z ≤ 1048576 ∧ Wt 0 (tot cA zs) left z ∧ SmallAs zs))) ∧ Ext w w' := by
  have hm : n ≤ 9223372036854775807 := by obtain ⟨_, _, hv, hm, _⟩ := hs; rw [← hn]; exact hm
  have HS := Lib.hid hs; clear hs
  have HN := Lib.hid hn; clear hn
  by_cases hsm : left - n < 0
  · go_enter Try.func66, Try.ntmps66
    go_wp2
    go_ret
    exact ⟨⟨-1, rfl, .inl rfl⟩, Ext.refl w⟩
  · go_enter Try.func66, Try.ntmps66
    go_wp2
    go_loopw [1, 5] (fun l i wr => ∃ k : Nat, k ≤ n ∧ i = .int .i64 k ∧ (∃ z : Int, l = .int .i64 z ∧ 0 ≤ z ∧ z ≤ 1048576 ∧ Wt (5 * k) (tot cA (zs.take k)) (left - n) z) ∧ (∀ a ∈ zs.take k, a.1.length ≤ 1048576) ∧ Ext w wr) (fun _ i _ => n - (intOf i).toNat)
    case atStart => exact ⟨0, by omega, rfl, ⟨_, rfl, by omega, by omega, by simp [Wt, tot]⟩, by simp, Ext.refl w⟩
    case round =>
      obtain ⟨k, hk, rfl, ⟨z, rfl, hz0, hz1, hwz⟩, hall, hE⟩ := hrel
      have HWZ := Lib.hid hwz; clear hwz
      have HA := Lib.hid hall; clear hall
      by_cases hlt : k < n
      · obtain ⟨x, hx⟩ := get_some (xs := zs) (k := k) (by rw [HN.out]; exact hlt)
        obtain ⟨b, off, q, m, rfl, c0, c1, hb, hr⟩ := (HS.out.ext hE).elem hx
        have hxm : x.1.length ≤ 9223372036854775807 := by obtain ⟨_, _, hv, hm, _⟩ := hr; exact hm
        have HX := Lib.hid hx; clear hx hr
        have hbd : szI z x.1.length < 0 → szI z x.1.length = -1 := by unfold szI; split <;> omega
        have hbd2 : ¬ szI z x.1.length < 0 → 0 ≤ szI z x.1.length ∧ szI z x.1.length ≤ 1048576 ∧ x.1.length ≤ 1048576 ∧ Wt 5 (cA x) z (szI z x.1.length) := by unfold szI Wt cA; split <;> omega
        have HB := Lib.hid hbd; have HB2 := Lib.hid hbd2; clear hbd hbd2
        have hrng : -1 ≤ szI z x.1.length ∧ szI z x.1.length ≤ 1048576 := by unfold szI; split <;> omega
        go_wp2_with (go_at_call 67; refine (szAffine_any _ _ _ _ _ _ hxm hz0 hz1).mono ?_; rintro e w' ⟨rfl, hE2⟩)
        · have h : szI z x.1.length < 0 := by assumption
          go_ret
          exact ⟨⟨-1, rfl, .inl rfl⟩, hE.trans hE2⟩
        · have h : 0 ≤ szI z x.1.length := by assumption
          obtain ⟨q0, q1, q2, q3⟩ := HB2.out h
          go_roundw
          case rel => exact ⟨k + 1, by omega, by go_num, ⟨_, rfl, q0, q1, Wt.step (by decide) HX.out HWZ.out q3⟩, mem_take_next HX.out HA.out q2, hE.trans hE2⟩
          case measure => simp [intOf]; omega
      · have e : k = n := by omega
        subst e
        go_wp2
        go_ret
        refine ⟨⟨z, rfl, .inr ⟨hz0, hz1, Wt.fin HN.out HWZ.out, by rw [HN.out]; omega, ?_⟩⟩, hE⟩
        have h := HA.out
        rwa [List.take_of_length_le (by rw [HN.out]; omega)] at h
set_option maxHeartbeats 1600000 in
theorem szAccessw_any (arr : ByteArray) (s : Value) (subs : List Aff) (left : Int) (w : World) (ha : arr.size ≤ 9223372036854775807) (hs : AffsAt w s subs) (h0 : 0 ≤ left) (h1 : left ≤ 1048576) :
    Calls Try.prog 43 #[.agg #[.string arr, s], .int .i64 left] w fun e w' => (∃ z : Int, e = .returned (.int .i64 z) ∧ (z = -1 ∨ (0 ≤ z ∧ z ≤ 1048576 ∧ Wt 0 (tot cA subs) left z ∧ arr.size ≤ 1048576 ∧ SmallAs subs))) ∧ Ext w w' := by
  obtain ⟨p, c, rfl, hm⟩ := hs.form
  have HS := Lib.hid hs; clear hs
  by_cases hn : left - arr.size < 0
  · go_enter Try.func43, Try.ntmps43
    go_wp2_with (fail)
    go_ret
    exact ⟨⟨-1, rfl, .inl rfl⟩, (Ext.refl w).alloc _⟩
  · go_enter Try.func43, Try.ntmps43
    go_wp2_with (fail)
    refine (szAffineSw_any p _ c subs (left - arr.size) _ rfl (HS.out.ext ((Ext.refl w).alloc _)) (by omega) (by omega)).mono ?_
    rintro e W1 ⟨⟨z, rfl, hz⟩, hE⟩
    have E1 : Hid (Ext w W1) := Lib.hid (((Ext.refl w).alloc _).trans hE)
    clear hE
    rcases hz with rfl | ⟨z0, z1, hwz, hz⟩
    · go_wp2_with (fail)
      go_ret
      exact ⟨⟨-1, rfl, .inl rfl⟩, E1.out⟩
    · have HZ := Lib.hid hz; clear hz
      go_wp2_with (fail)
      go_ret
      exact ⟨⟨z, rfl, .inr ⟨z0, z1, Wt.acc (Int.natCast_nonneg _) hwz, by omega, HZ.out⟩⟩, E1.out⟩

def SzEw (w : World) (cs : List Value) (e : Ex) : Prop := ∀ (w' : World), Ext w w' → ∀ (left : Int), 0 ≤ left → left ≤ 1048576 →
  Calls Try.prog 44 #[.agg cs.toArray, .int .i64 left] w' fun r w2 => (∃ z : Int, r = .returned (.int .i64 z) ∧ (z = -1 ∨ (0 ≤ z ∧ z ≤ 1048576 ∧ Wt 4 (cE e) left z ∧ SmallE e))) ∧ Ext w' w2
set_option maxHeartbeats 1600000 in
theorem szExprSw_of (w0 : World) (p : Option Addr) (n c : Nat) (es : List Ex) (us : Nat → List Value) (hn : es.length = n) (hm : n ≤ 9223372036854775807)
    (hc : ∀ (i : Nat) (e : Ex), es[i]? = some e → ∃ b off, p = some ⟨b, off, none⟩ ∧ b < w0.heap.size ∧ ∀ (j : Nat) (v : Value), (us i)[j]? = some v → w0.cell? ⟨b, off + i * 7 + j, none⟩ = some v)
    (hk : ∀ (i : Nat) (e : Ex), es[i]? = some e → ExR w0 (us i) e) (IH : ∀ (i : Nat) (e : Ex), es[i]? = some e → SzEw w0 (us i) e) (w : World) (hE0 : Ext w0 w) (left : Int) (h0 : 0 ≤ left) (h1 : left ≤ 1048576) :
    Calls Try.prog 68 #[.slice p n c, .int .i64 left] w fun e w' => (∃ z : Int, e = .returned (.int .i64 z) ∧ (z = -1 ∨ (0 ≤ z ∧ z ≤ 1048576 ∧ Wt 0 (tot cE es) left z ∧ n ≤ 1048576 ∧ ∀ e ∈ es, SmallE e))) ∧ Ext w w' := by
  have HC := Lib.hid hc; have HK := Lib.hid hk; have HI := Lib.hid IH; have HN := Lib.hid hn; have HE0 := Lib.hid hE0; clear hc hk IH hn hE0
  by_cases hsm : left - n < 0
  · go_enter Try.func68, Try.ntmps68
    go_wp2
    go_ret
    exact ⟨⟨-1, rfl, .inl rfl⟩, Ext.refl w⟩
  · go_enter Try.func68, Try.ntmps68
    go_wp2
    go_loopw [1, 5] (fun l i wr => ∃ k : Nat, k ≤ n ∧ i = .int .i64 k ∧ (∃ z : Int, l = .int .i64 z ∧ 0 ≤ z ∧ z ≤ 1048576 ∧ Wt (5 * k) (tot cE (es.take k)) (left - n) z) ∧ (∀ a ∈ es.take k, SmallE a) ∧ Ext w wr) (fun _ i _ => n - (intOf i).toNat)
    case atStart => exact ⟨0, by omega, rfl, ⟨_, rfl, by omega, by omega, by simp [Wt, tot]⟩, by simp, Ext.refl w⟩
    case round =>
      obtain ⟨k, hk, rfl, ⟨z, rfl, hz0, hz1, hwz⟩, hall, hE⟩ := hrel
      have HWZ := Lib.hid hwz; clear hwz
      have HA := Lib.hid hall; clear hall
      by_cases hlt : k < n
      · obtain ⟨x, hx⟩ := get_some (xs := es) (k := k) (by rw [HN.out]; exact hlt)
        have E0 : Ext w0 wr := HE0.out.trans hE
        obtain ⟨b, off, rfl, hb, hcell⟩ := HC.out k x hx
        have hi := HI.out k x hx wr E0 z hz0 hz1
        obtain ⟨u, s, v, hcs, -, -, -, -⟩ := (HK.out k x hx).parts
        rw [hcs] at hcell hi
        have c0 := E0.keep (hcell 0 _ rfl); have c1 := E0.keep (hcell 1 _ rfl); have c2 := E0.keep (hcell 2 _ rfl); have c3 := E0.keep (hcell 3 _ rfl); have c4 := E0.keep (hcell 4 _ rfl); have c5 := E0.keep (hcell 5 _ rfl); have c6 := E0.keep (hcell 6 _ rfl)
        rw [Nat.add_zero] at c0
        have HX := Lib.hid hx; have HI2 := Lib.hid hi
        clear hx hi hcell E0 hcs
        go_wp2_with (fail)
        refine HI2.out.mono ?_
        rintro e w' ⟨⟨y, rfl, hy⟩, hE2⟩
        rcases hy with rfl | ⟨y0, y1, hwy, hy⟩
        · go_wp2_with (fail)
          go_ret
          exact ⟨⟨-1, rfl, .inl rfl⟩, hE.trans hE2⟩
        · have HY := Lib.hid hy; have HWY := Lib.hid hwy; clear hy hwy
          go_wp2_with (fail)
          go_roundw
          case rel => exact ⟨k + 1, by omega, by go_num, ⟨_, rfl, y0, y1, Wt.step (by decide) HX.out HWZ.out HWY.out⟩, mem_take_next HX.out HA.out HY.out, hE.trans hE2⟩
          case measure => simp [intOf]; omega
      · have e : k = n := by omega
        subst e
        go_wp2
        go_ret
        refine ⟨⟨z, rfl, .inr ⟨hz0, hz1, Wt.fin HN.out HWZ.out, by omega, ?_⟩⟩, hE⟩
        have h := HA.out
        rwa [List.take_of_length_le (by rw [HN.out]; omega)] at h
set_option maxHeartbeats 1600000 in
theorem szExprw_any {w : World} {cs : List Value} {e : Ex} (h : ExR w cs e) : SzEw w cs e := by
  induction h with
  | mk kind num k u s xs arr subs p cap kids us hu ha hs hl hc hk ih =>
    intro w' hE left h0 h1
    obtain ⟨pu, cu, rfl, hmu, -⟩ := id hu
    obtain ⟨ps, cs, rfl, hms⟩ := hs.form
    have HS := Lib.hid hs; have HC := Lib.hid hc; have HK := Lib.hid hk; have HI := Lib.hid ih; have HE := Lib.hid hE
    clear hs hc hk ih hu hE
    have hb : -1 ≤ szI left xs.length ∧ szI left xs.length ≤ 1048576 := by unfold szI; split <;> omega
    have hneg : szI left xs.length < 0 → szI left xs.length = -1 := by unfold szI; split <;> omega
    have hpos : ¬ szI left xs.length < 0 → 0 ≤ szI left xs.length ∧ xs.length ≤ 1048576 ∧ szI left xs.length = left - xs.length := by unfold szI; split <;> omega
    obtain ⟨l2, hl2⟩ : ∃ l2, szI left xs.length = l2 := ⟨_, rfl⟩
    rw [hl2] at hb hneg hpos
    have HL2 := Lib.hid hl2; have HP := Lib.hid hpos; have HNG := Lib.hid hneg
    clear hl2 hpos hneg
    go_enter Try.func44, Try.ntmps44
    go_wp2_with (fail)
    refine (szAffine_any pu _ cu k left _ hmu h0 h1).mono ?_
    rw [HL2.out]
    rintro e W1 ⟨rfl, hE1⟩
    have E1 : Hid (Ext w' W1) := Lib.hid (((Ext.refl w').alloc _).trans hE1)
    obtain ⟨-, -, -, -, c4, c5, c6⟩ := blk7 (hE1.blk (g := w'.heap.size) (blk_at rfl))
    have B1 := Lib.hid (hE1.blk (g := w'.heap.size) (blk_at rfl))
    clear hE1
    by_cases hn2 : l2 < 0
    · have hd : decide (l2 < 0) = true := by simpa using hn2
      go_wp2_with (fail)
      go_ret
      exact ⟨⟨-1, rfl, .inl rfl⟩, E1.out⟩
    · have hd : decide (l2 < 0) = false := by simpa using hn2
      obtain ⟨hl0, hxl, hlq⟩ := HP.out (by omega)
      have HLQ := Lib.hid hlq; clear hlq
      go_wp2_with (fail)
      refine (szAccessw_any arr _ subs l2 _ ha (HS.out.ext (HE.out.trans E1.out)) hl0 hb.2).mono ?_
      rintro e W2 ⟨⟨z, rfl, hz⟩, hE2⟩
      have E2 : Hid (Ext w' W2) := Lib.hid (E1.out.trans hE2)
      obtain ⟨-, -, -, -, -, -, c6⟩ := blk7 (hE2.blk B1.out)
      clear hE2 c4 c5
      rcases hz with rfl | ⟨z0, z1, hwz, hz, hz2⟩
      · go_wp2_with (fail)
        go_ret
        exact ⟨⟨-1, rfl, .inl rfl⟩, E2.out⟩
      · have HWZ := Lib.hid hwz; clear hwz; have HZ := Lib.hid hz; have HZ2 := Lib.hid hz2; clear hz hz2
        go_wp2_with (fail)
        refine (szExprSw_of w p _ cap kids us rfl hl HC.out HK.out HI.out W2 (HE.out.trans E2.out) z z0 z1).mono ?_
        rintro e W3 ⟨⟨y, rfl, hy⟩, hE3⟩
        have E3 : Hid (Ext w' W3) := Lib.hid (E2.out.trans hE3)
        clear hE3
        rcases hy with rfl | ⟨y0, y1, hwy, hy, hy2⟩
        · go_wp2_with (fail)
          go_ret
          exact ⟨⟨-1, rfl, .inl rfl⟩, E3.out⟩
        · have HWY := Lib.hid hwy; clear hwy; have HY := Lib.hid hy; have HY2 := Lib.hid hy2; clear hy hy2
          go_wp2_with (fail)
          go_ret
          exact ⟨⟨y, rfl, .inr ⟨y0, y1, Wt.expr (by rw [cE_eq, cEs_eq]; rfl) HLQ.out HWZ.out HWY.out, .mk kind num (xs, k) arr subs kids hxl HZ.out HZ2.out HY.out HY2.out⟩⟩, E3.out⟩
set_option maxHeartbeats 1600000 in
theorem szStmtw_any (v : Value) (arr : ByteArray) (subs : List Aff) (e : Ex) (left : Int) (w : World) (hs : StR w v arr subs e) (h0 : 0 ≤ left) (h1 : left ≤ 1048576) :
    Calls Try.prog 23 #[v, .int .i64 left] w fun r w' => (∃ z : Int, r = .returned (.int .i64 z) ∧ (z = -1 ∨ (0 ≤ z ∧ z ≤ 1048576 ∧ Wt 5 (1 + tot cA subs + cE e) left z ∧ arr.size ≤ 1048576 ∧ SmallAs subs ∧ SmallE e))) ∧ Ext w w' := by
  obtain ⟨q1, d1, q2, d2, q3, d3, q4, d4, rfl, ha, hs1, he⟩ := hs.parts
  have HS := Lib.hid hs1; have HE := Lib.hid he; clear hs hs1 he
  go_enter Try.func23, Try.ntmps23
  go_wp2_with (fail)
  refine (szAccessw_any arr _ subs left _ ha (HS.out.ext ((Ext.refl w).alloc _)) h0 h1).mono ?_
  rintro r W1 ⟨⟨z, rfl, hz⟩, hE1⟩
  have E1 : Hid (Ext w W1) := Lib.hid (((Ext.refl w).alloc _).trans hE1)
  obtain ⟨-, -, c2, c3, c4, c5, c6, c7, c8⟩ := blk9 (hE1.blk (g := w.heap.size) (blk_at rfl))
  clear hE1
  rcases hz with rfl | ⟨z0, z1, hwz, hz1, hz2⟩
  · go_wp2_with (fail)
    go_ret
    exact ⟨⟨-1, rfl, .inl rfl⟩, E1.out⟩
  · have HWZ := Lib.hid hwz; clear hwz; have HZ1 := Lib.hid hz1; have HZ2 := Lib.hid hz2; clear hz1 hz2
    go_wp2_with (fail)
    refine (szExprw_any HE.out W1 E1.out z z0 z1).mono ?_
    rintro r W2 ⟨⟨y, rfl, hy⟩, hE2⟩
    have E2 : Hid (Ext w W2) := Lib.hid (E1.out.trans hE2)
    clear hE2 c2 c3 c4 c5 c6 c7 c8
    rcases hy with rfl | ⟨y0, y1, hwy, hy⟩
    · go_wp2_with (fail)
      go_ret
      exact ⟨⟨-1, rfl, .inl rfl⟩, E2.out⟩
    · have HWY := Lib.hid hwy; clear hwy; have HY := Lib.hid hy; clear hy
      go_wp2_with (fail)
      go_ret
      exact ⟨⟨y, rfl, .inr ⟨y0, y1, Wt.stmt rfl HWZ.out HWY.out, HZ1.out, HZ2.out, HY.out⟩⟩, E2.out⟩
end Go.Proofs.Ytggpjapmhakklaa

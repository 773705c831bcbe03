/- The texts N7, joined. No statement is proved here. -/
import Derived.Test.YtccibfldadflkaaQS14
/- Contracts: comparisons of loops and nests. -/
namespace Go.Proofs.Ytccibfldadflkaa
open Go.RowKit

theorem lp_eq {x y : Lp} (h1 : lEqB x.1 y.1 = true) (h2 : lEqB x.2 y.2 = true) : x = y := by
  obtain ⟨a, b⟩ := x; obtain ⟨c, d⟩ := y
  simp [lEqB] at h1 h2; rw [h1, h2]
/-- Two loops are the same. -/
def lpEqB (x y : Lp) : Bool := lEqB x.1 y.1 && lEqB x.2 y.2
theorem lp_yes {x y : Lp} (h : lpEqB x y = true) : x = y := by
  unfold lpEqB at h; rw [Bool.and_eq_true] at h; exact lp_eq h.1 h.2
theorem lp_no {x y : Lp} (h : lpEqB x y = false) : x ≠ y := by
  intro e; unfold lpEqB at h; rw [e, lEqB_self, lEqB_self] at h; cases h

set_option maxHeartbeats 2000000 in
theorem eqLoop_any (s t u v : Value) (x y : Lp) (w : World) (hs : AffsAt w s x.1) (ht : AffsAt w t x.2) (hu : AffsAt w u y.1) (hv : AffsAt w v y.2) :
    Calls Try.prog 42 #[.agg #[s, t], .agg #[u, v]] w fun e w' => e = .returned (.bool (lpEqB x y)) ∧ Ext w w' := by
  obtain ⟨p, c, rfl, hm⟩ := hs.form
  obtain ⟨q, d, rfl, hm2⟩ := ht.form
  obtain ⟨p', c', rfl, hm'⟩ := hu.form
  obtain ⟨q', d', rfl, hm2'⟩ := hv.form
  have HS := Lib.hid hs; have HT := Lib.hid ht; have HU := Lib.hid hu; have HV := Lib.hid hv; clear hs ht hu hv
  have E0 : Ext w _ := ((Ext.refl w).alloc (.cells #[.slice p x.1.length c, .slice q x.2.length d] 75)).alloc (.cells #[.slice p' y.1.length c', .slice q' y.2.length d'] 75)
  cases h1 : lEqB x.1 y.1 with
  | false =>
    have H1 := Lib.hid h1; clear h1
    go_enter Try.func42, Try.ntmps42
    go_wp2_with (fail)
    refine (eqAffineS_any _ _ _ _ _ _ x.1 y.1 _ rfl rfl (HS.out.ext E0) (HU.out.ext E0)).mono ?_
    rw [H1.out]
    rintro e w1 ⟨rfl, hE⟩
    have E1 := E0.trans hE
    go_wp2
    go_ret
    exact ⟨ret_bool (by unfold lpEqB; rw [H1.out]; rfl), E1⟩
  | true =>
    have H1 := Lib.hid h1; clear h1
    go_enter Try.func42, Try.ntmps42
    go_wp2_with (fail)
    refine (eqAffineS_any _ _ _ _ _ _ x.1 y.1 _ rfl rfl (HS.out.ext E0) (HU.out.ext E0)).mono ?_
    rw [H1.out]
    rintro e w1 ⟨rfl, hE⟩
    have E1 := E0.trans hE
    obtain ⟨a0, a1, -, -⟩ := blk2 (hE.blk (g := w.heap.size) (blk_old (blk_at rfl)))
    obtain ⟨b0, b1, -, -⟩ := blk2 (hE.blk (g := w.heap.size + 1) (blk_at (by simp)))
    clear hE
    go_wp2_with (fail)
    refine (eqAffineS_any _ _ _ _ _ _ x.2 y.2 _ rfl rfl (HT.out.ext E1) (HV.out.ext E1)).mono ?_
    rintro e w2 ⟨rfl, hE⟩
    have E2 := E1.trans hE
    clear a0 a1 b0 b1 E0
    cases h2 : lEqB x.2 y.2 with
    | false =>
      go_wp2
      go_ret
      exact ⟨ret_bool (by unfold lpEqB; rw [H1.out, h2]; rfl), E2⟩
    | true =>
      go_wp2
      go_ret
      exact ⟨ret_bool (by unfold lpEqB; rw [H1.out, h2]; rfl), E2⟩

set_option maxHeartbeats 2000000 in
theorem eqLoopS_any (p : Option Addr) (n c : Nat) (q : Option Addr) (n' d : Nat) (xs ys : List Lp) (w : World) (hn : xs.length = n) (hn' : ys.length = n') (hs : LoopsAt w (.slice p n c) xs) (ht : LoopsAt w (.slice q n' d) ys) :
    Calls Try.prog 17 #[.slice p n c, .slice q n' d] w fun e w' => e = .returned (.bool (lEqB xs ys)) ∧ Ext w w' := by
  have hm : n ≤ 9223372036854775807 := by obtain ⟨_, _, hv, hm, _⟩ := hs; rw [← hn]; exact hm
  have hm2 : n' ≤ 9223372036854775807 := by obtain ⟨_, _, hv, hm, _⟩ := ht; rw [← hn']; exact hm
  have HS := Lib.hid hs; have HT := Lib.hid ht; have HN := Lib.hid hn; have HN' := Lib.hid hn'; clear hs ht hn hn'
  by_cases hne : n' = n
  · subst hne
    go_enter Try.func17, Try.ntmps17
    go_wp2
    go_loopw [5] (fun i wr => ∃ k : Nat, k ≤ n' ∧ i = .int .i64 k ∧ xs.take k = ys.take k ∧ Ext w wr) (fun i _ => n' - (intOf i).toNat)
    case atStart => exact ⟨0, by omega, rfl, by simp, Ext.refl w⟩
    case round =>
      obtain ⟨k, hk, rfl, htk, hE⟩ := hrel
      have HK := Lib.hid htk; clear htk
      by_cases hlt : k < n'
      · obtain ⟨x, hx⟩ := get_some (xs := xs) (k := k) (by rw [HN.out]; exact hlt)
        obtain ⟨y, hy⟩ := get_some (xs := ys) (k := k) (by rw [HN'.out]; exact hlt)
        obtain ⟨b, off, q1, m1, q2, m2, rfl, a0, a1, hb, hr1, hr2⟩ := (HS.out.ext hE).elem hx
        obtain ⟨b', off', q3, m3, q4, m4, rfl, b0, b1, hb', hr3, hr4⟩ := (HT.out.ext hE).elem hy
        have HX := Lib.hid hx; have HY := Lib.hid hy; have HR1 := Lib.hid hr1; have HR2 := Lib.hid hr2; have HR3 := Lib.hid hr3; have HR4 := Lib.hid hr4; clear hx hy hr1 hr2 hr3 hr4
        go_wp2_with (fail)
        go_region_held3 (fun W => W.cell? ⟨b, off + k * 2, none⟩ = some (.slice q1 x.1.length m1) ∧ W.cell? ⟨b, off + k * 2 + 1, none⟩ = some (.slice q2 x.2.length m2) ∧ W.cell? ⟨b', off' + k * 2, none⟩ = some (.slice q3 y.1.length m3) ∧ W.cell? ⟨b', off' + k * 2 + 1, none⟩ = some (.slice q4 y.2.length m4))
          (first | exact ⟨a0, a1, b0, b1⟩ | exact ⟨g3.keep a0, g3.keep a1, g3.keep b0, g3.keep b1⟩ | fail)
          (first | (go_at_call 42; (with_reducible refine (eqLoop_any _ _ _ _ x y _ (HR1.out.ext (Ext.refl wr).drew) (HR2.out.ext (Ext.refl wr).drew) (HR3.out.ext (Ext.refl wr).drew) (HR4.out.ext (Ext.refl wr).drew)).mono ?_); rintro e w3 ⟨rfl, hE3⟩; have g3 := (Ext.refl wr).drew.trans hE3) | fail)
        cases h1 : lpEqB x y with
        | false =>
          have HE := Lib.hid (lp_no h1)
          go_wp2
          go_ret
          exact ⟨ret_bool (lEqB_ne HX.out HY.out HE.out).symm, hE.trans g3⟩
        | true =>
          have e := lp_yes h1
          go_wp2
          go_roundw
          case rel => exact ⟨k + 1, by omega, by go_num, ltake_eq_next HX.out HY.out HK.out e, hE.trans g3⟩
          case measure => simp [intOf]; omega
      · go_wp2
        go_ret
        exact ⟨ret_bool (lEqB_all (by rw [HN.out]; omega) (by rw [HN'.out]; omega) HK.out).symm, hE⟩
  · have hb : ((n : Int) != n') = true := by simp; omega
    have HNE := Lib.hid hne; clear hne
    go_enter Try.func17, Try.ntmps17
    go_wp2
    go_ret
    exact ⟨ret_bool (lEqB_len (by rw [HN.out, HN'.out]; exact fun e => HNE.out e.symm)).symm, Ext.refl w⟩
end Go.Proofs.Ytccibfldadflkaa
